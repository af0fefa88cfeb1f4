/- AddDelete: both sides -/
import Derived.Test.YtajfhalalnlejaaAxI
import Derived.Test.YtajfhalalnlejaaPdX
