/- AddInsert: both sides -/
import Derived.Test.YtajfhalalnlejaaAiI
import Derived.Test.YtajfhalalnlejaaPdA
