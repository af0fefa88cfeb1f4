/- isPending: both sides -/
import Derived.Test.YtajfhalalnlejaaPdI
import Derived.Test.YtajfhalalnlejaaPdT
