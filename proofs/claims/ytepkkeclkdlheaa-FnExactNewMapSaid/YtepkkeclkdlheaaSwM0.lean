/- An empty row of integers in a block of its own. Any program. -/
import Derived.Test.YtepkkeclkdlheaaOw
namespace Go.Proofs.Ytepkkeclkdlheaa
open Go.RowKit
theorem Ow.emptyI {W : World} {k : Nat} (h : W.heap[k]? = some (.cells #[] 3 (0, 0))) : Ow W (.slice (some ⟨k, 0, none⟩) 0 0) [] k (k + 1) :=
  have hk := (Array.getElem?_eq_some_iff.1 h).1
  ⟨⟨[k], ⟨⟨by simp [intVs], .inr ⟨k, 0, #[], rfl, Nat.zero_le _, h, Nat.le_refl _, by unfold maxLen; omega, rfl, by simp [intVs]⟩⟩, rfl⟩, by simp⟩, by omega, hk⟩

end Go.Proofs.Ytepkkeclkdlheaa
