/- Policies, in numbers: seeds and settings (promise 4). No function of the program. -/
import Derived.Test.YtfldnjkojdnjcaaInts
namespace Go.Proofs.Ytfldnjkojdnjcaa

/-- The next seed. -/
def nsF (n : Int) : Int := ((n % 10007) * 1103 + 2345) % 10007
theorem nsF_range (n : Int) : 0 ≤ nsF n ∧ nsF n ≤ 10006 := by unfold nsF; omega

/-- Are the settings valid? -/
def isSet (p t s : Int) : Bool := decide (0 ≤ p ∧ p ≤ 2 ∧ 1 ≤ t ∧ t ≤ 64 ∧ 0 ≤ s ∧ s ≤ 10006)
theorem isSet_true {p t s : Int} (h : isSet p t s = true) : 0 ≤ p ∧ p ≤ 2 ∧ 1 ≤ t ∧ t ≤ 64 ∧ 0 ≤ s ∧ s ≤ 10006 := of_decide_eq_true h

end Go.Proofs.Ytfldnjkojdnjcaa
