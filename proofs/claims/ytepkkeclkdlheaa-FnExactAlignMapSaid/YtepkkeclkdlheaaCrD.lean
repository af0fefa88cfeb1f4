/- What CrackAt does, in numbers and words (promise 3). -/
import Derived.Test.YtepkkeclkdlheaaAdC
import Derived.Test.YtepkkeclkdlheaaCkV
import Derived.Test.YtepkkeclkdlheaaCkF
import Derived.Test.YtepkkeclkdlheaaPtM
import Derived.Test.YtepkkeclkdlheaaOck
namespace Go.Proofs.Ytepkkeclkdlheaa
open Go.RowKit Go.ChangeShapes
set_option linter.unusedSimpArgs false
set_option linter.unusedVariables false
set_option maxRecDepth 100000

/-- The column is valid and v is a bound. -/
noncomputable def crOk (l r : List Int) (ps : List Pv) (v : Int) : Bool := isCk l r ps && decide (-1000 ≤ v ∧ v ≤ 1000)
/-- The column is divided: it is valid, v a bound, and no pivot has this value. -/
noncomputable def crDiv (l r : List Int) (ps : List Pv) (v : Int) : Bool := crOk l r ps v && !(fndP ps v).2
/-- The swaps of the piece, and the place. -/
noncomputable def crPt (l r : List Int) (ps : List Pv) (v : Int) : List Pv × Int := partP l (pieceP l r ps v).1 (pieceP l r ps v).2 v
noncomputable def crS (l r : List Int) (ps : List Pv) (v : Int) : List Pv := if crDiv l r ps v = true then (crPt l r ps v).1 else []
noncomputable def crL (l r : List Int) (ps : List Pv) (v : Int) : List Int := if crDiv l r ps v = true then apL l r (crPt l r ps v).1 else l
noncomputable def crR (l r : List Int) (ps : List Pv) (v : Int) : List Int := if crDiv l r ps v = true then apR l r (crPt l r ps v).1 else r
noncomputable def crP (l r : List Int) (ps : List Pv) (v : Int) : List Pv := if crDiv l r ps v = true then adP (apL l r (crPt l r ps v).1) (apR l r (crPt l r ps v).1) ps (v, (crPt l r ps v).2) else ps

theorem adP_wf {l r : List Int} {ps : List Pv} {p : Pv} (h : ∀ q ∈ ps, I64 q.1 ∧ I64 q.2) (hp : I64 p.1 ∧ I64 p.2) : (∀ q ∈ adP l r ps p, I64 q.1 ∧ I64 q.2) ∧ (adP l r ps p).length ≤ ps.length + 1 := by
  unfold adP
  split
  · exact ⟨adIn_wf h hp, by rw [adIn_length]; exact Nat.le_refl _⟩
  · exact ⟨h, by omega⟩

theorem crack_wf (l r : List Int) (ps : List Pv) (v : Int) (hl : l.length ≤ 1048576) (hr : r.length ≤ 1048576) (hp : ps.length ≤ 1048576) (wl : ∀ x ∈ l, I64 x) (wr : ∀ x ∈ r, I64 x) (wp : ∀ p ∈ ps, I64 p.1 ∧ I64 p.2) (hv : I64 v) :
    (crL l r ps v).length ≤ 1048576 ∧ (crR l r ps v).length ≤ 1048576 ∧ (crP l r ps v).length ≤ 1048577 ∧ (∀ x ∈ crL l r ps v, I64 x) ∧ (∀ x ∈ crR l r ps v, I64 x) ∧ (∀ p ∈ crP l r ps v, I64 p.1 ∧ I64 p.2) ∧ (crS l r ps v).length ≤ 1048576 ∧ ∀ p ∈ crS l r ps v, I64 p.1 ∧ I64 p.2 := by
  unfold crL crR crP crS
  by_cases h : crDiv l r ps v = true
  · simp only [h, if_true]
    obtain ⟨n1, n2, n3, n4⟩ := partP_nums l (pieceP l r ps v).1 (pieceP l r ps v).2 v hl
    have hw := partP_wf l (pieceP l r ps v).1 (pieceP l r ps v).2 v hl
    have ha := adP_wf (l := apL l r (crPt l r ps v).1) (r := apR l r (crPt l r ps v).1) (p := (v, (crPt l r ps v).2)) wp ⟨hv, by unfold crPt; exact ⟨by omega, by omega⟩⟩
    exact ⟨by rw [apL_length]; exact hl, by rw [apR_length]; exact hr, by have := ha.2; omega, apL_wf wl, apR_wf wr, ha.1, n2, hw⟩
  · simp only [h]
    exact ⟨hl, hr, by show ps.length ≤ _; omega, wl, wr, wp, by simp, by simp⟩

/-- A column and swaps of the call's own, and a bool, are returned; nothing that was there has turned. -/
def RetOCSB (w : World) (l r : List Int) (ps sw : List Pv) (b : Bool) (e : Ending) (w' : World) : Prop := ∃ x y z sv lo hi n1 h1 n2 h2 n3 h3 slo shi, e = .returned (.tuple #[.agg #[x, y, z], sv, .bool b]) ∧ (w.heap.size ≤ lo ∧ w.heap.size ≤ slo) ∧ (hi ≤ w'.heap.size ∧ shi ≤ w'.heap.size) ∧ OC w' x y z l r ps lo hi n1 h1 n2 h2 n3 h3 ∧ Osw w' sv sw slo shi ∧ (hi ≤ slo ∨ shi ≤ lo) ∧ Below w.heap.size w w'

theorem Osw.nil {w : World} {n : Nat} (h : n ≤ w.heap.size) : Osw w (.slice none 0 0) [] n n := ⟨OwS.nil _ _, fun g hg => by simp [Value.ownBlock] at hg, Nat.le_refl _, h⟩

end Go.Proofs.Ytepkkeclkdlheaa
