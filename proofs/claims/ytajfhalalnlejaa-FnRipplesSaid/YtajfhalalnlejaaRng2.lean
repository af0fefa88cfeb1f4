/- Ranges: what InRange and MeetRanges return, of the reference and of the program (promise 2). -/
import Derived.Test.YtajfhalalnlejaaRng
namespace Go.Proofs.Ytajfhalalnlejaa
open Go.RowKit Go.ChangeShapes
set_option linter.unusedSimpArgs false
set_option linter.unusedVariables false
set_option maxRecDepth 100000

/-- Does a number lie in the range? -/
def inR (f t v : Int) : Bool := decide (isR f t = true ∧ f ≤ v ∧ v < t)

end Go.Proofs.Ytajfhalalnlejaa
