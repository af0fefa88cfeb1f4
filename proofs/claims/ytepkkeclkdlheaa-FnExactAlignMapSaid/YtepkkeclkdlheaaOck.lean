/- Small bridges between the words for owned columns, and slices of swaps that came in as an argument (promise 3). -/
import Derived.Test.YtepkkeclkdlheaaCkO
import Derived.Test.YtepkkeclkdlheaaSw
namespace Go.Proofs.Ytepkkeclkdlheaa
open Go.RowKit Go.ChangeShapes
set_option linter.unusedSimpArgs false
set_option linter.unusedVariables false
set_option maxRecDepth 100000

theorem OC.of_ock {w : World} {x y z : Value} {l r : List Int} {ps : List Pv} {lo n1 n2 hi : Nat} (h1 : Ow w x l lo n1) (h2 : Ow w y r n1 n2) (h3 : Owp w z ps n2 hi) : OC w x y z l r ps lo hi lo n1 n1 n2 n2 hi :=
  ⟨h1, h2, h3, ⟨Nat.le_refl _, h1.le, Nat.le_trans h1.le h2.le⟩, ⟨Nat.le_trans h2.le h3.le, h3.le, Nat.le_refl _⟩, ⟨.inl (Nat.le_refl _), .inl h2.le, .inl (Nat.le_refl _)⟩, Nat.le_trans h1.le (Nat.le_trans h2.le h3.le), h3.top⟩

theorem OwS.nilcap {w : World} {base : Nat} {a : Option Addr} {n c : Nat} {ps : List Pv} (h : OwS w base (.slice a n c) ps) : a = none → c = 0 := by
  rcases h.2 with ⟨hv, _⟩ | ⟨g, cap, cur, hv, _⟩
  · simp only [Value.slice.injEq] at hv
    exact fun _ => hv.2.2
  · simp only [Value.slice.injEq] at hv
    intro h
    rw [hv.1] at h
    cases h

end Go.Proofs.Ytepkkeclkdlheaa
