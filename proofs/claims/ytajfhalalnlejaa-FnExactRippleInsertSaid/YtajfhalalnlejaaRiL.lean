/- RippleInsert of both programs, together (promise 7). -/
import Derived.Test.YtajfhalalnlejaaRiS
import Derived.Test.YtajfhalalnlejaaRiI
import Derived.Test.YtajfhalalnlejaaRpW
namespace Go.Proofs.Ytajfhalalnlejaa

end Go.Proofs.Ytajfhalalnlejaa
