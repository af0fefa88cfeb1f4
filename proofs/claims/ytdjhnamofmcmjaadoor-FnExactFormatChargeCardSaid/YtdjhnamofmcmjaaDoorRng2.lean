/- Ranges: what InRange and MeetRanges return, of the reference and of the program (promise 2). -/
import Derived.Test.YtdjhnamofmcmjaaDoorRng
namespace Go.Proofs.YtdjhnamofmcmjaaDoor
open Go.RowKit Go.ChangeShapes
set_option linter.unusedSimpArgs false
set_option linter.unusedVariables false
set_option maxRecDepth 100000

theorem iIsR_is {f t : Int} {r : Bool} (h : isR f t = r) (w : World) : Calls Tryd.prog 12 #[.agg #[.int .i64 f, .int .i64 t]] w (RetB1 w r) := by rw [← h]; exact iIsR_any f t w

/-- Does a number lie in the range? -/
def inR (f t v : Int) : Bool := decide (isR f t = true ∧ f ≤ v ∧ v < t)

end Go.Proofs.YtdjhnamofmcmjaaDoor
