/- What AddPivot does: words shared by program and reference (promise 3). -/
import Derived.Test.YtepkkeclkdlheaaAdD
import Derived.Test.YtepkkeclkdlheaaInsR
import Derived.Test.YtepkkeclkdlheaaApD
import Derived.Test.YtepkkeclkdlheaaCpI
namespace Go.Proofs.Ytepkkeclkdlheaa
open Go.RowKit Go.ChangeShapes
set_option linter.unusedSimpArgs false
set_option linter.unusedVariables false
set_option maxRecDepth 100000

/-- The pivots with p behind all whose value is not greater. -/
def adIn (ps : List Pv) (p : Pv) : List Pv := insAt ps (behind ps p.1) p
noncomputable def adOk (l r : List Int) (ps : List Pv) (p : Pv) : Bool := isCk l r (adIn ps p)
/-- The pivots behind AddPivot. -/
noncomputable def adP (l r : List Int) (ps : List Pv) (p : Pv) : List Pv := if adOk l r ps p = true then adIn ps p else ps

theorem adIn_sub (ps : List Pv) (p : Pv) : ps.Sublist (adIn ps p) := by
  unfold adIn insAt
  conv => lhs; rw [← List.take_append_drop (behind ps p.1) ps]
  exact List.Sublist.append (List.Sublist.refl _) (List.sublist_cons_self _ _)

theorem adIn_length (ps : List Pv) (p : Pv) : (adIn ps p).length = ps.length + 1 := insAt_length _ _ _

theorem adOk_ck {l r : List Int} {ps : List Pv} {p : Pv} (h : adOk l r ps p = true) : isCk l r ps = true := isCk_sub (adIn_sub ps p) h

theorem adIn_wf {ps : List Pv} {p : Pv} (h : ∀ q ∈ ps, I64 q.1 ∧ I64 q.2) (hp : I64 p.1 ∧ I64 p.2) : ∀ q ∈ adIn ps p, I64 q.1 ∧ I64 q.2 := by
  intro q hq
  unfold adIn insAt at hq
  rcases List.mem_append.1 hq with hq | hq
  · exact h q (List.mem_of_mem_take hq)
  · rcases List.mem_cons.1 hq with rfl | hq
    · exact hp
    · exact h q (List.mem_of_mem_drop hq)

/-- A column of the call's own whose pivots were replaced. -/
theorem OC.ins {w w' : World} {x y z z' : Value} {l r : List Int} {ps ps' : List Pv} {lo hi n1 h1 n2 h2 n3 h3 : Nat} (h : OC w x y z l r ps lo hi n1 h1 n2 h2 n3 h3) (s : Seg n3 h3 w w') (hz : Owp w' z' ps' n3 h3 ∨ Owp w' z' ps' w.heap.size w'.heap.size) : ∃ n3' h3', OC w' x y z' l r ps' lo w'.heap.size n1 h1 n2 h2 n3' h3' ∧ (h3' ≤ hi ∨ w.heap.size ≤ n3') := by
  obtain ⟨q1, q2, q3⟩ := h.low
  obtain ⟨p1, p2, p3⟩ := h.high
  obtain ⟨a1, a2, a3⟩ := h.apart
  have hs := s.below.size
  have ht := h.top
  have hx := h.x.seg s (by omega)
  have hy := h.y.seg s (by omega)
  rcases hz with hz | hz
  · exact ⟨n3, h3, ⟨hx, hy, hz, ⟨q1, q2, q3⟩, ⟨by omega, by omega, by omega⟩, ⟨a1, a2, a3⟩, by omega, Nat.le_refl _⟩, .inl p3⟩
  · exact ⟨_, _, ⟨hx, hy, hz, ⟨q1, q2, by omega⟩, ⟨by omega, by omega, Nat.le_refl _⟩, ⟨a1, .inl (by omega), .inl (by omega)⟩, by omega, Nat.le_refl _⟩, .inr (Nat.le_refl _)⟩

theorem OC.seg' {w w' : World} {x y z : Value} {l r : List Int} {ps : List Pv} {lo hi n1 h1 n2 h2 n3 h3 a b : Nat} (h : OC w x y z l r ps lo hi n1 h1 n2 h2 n3 h3) (s : Seg a b w w') (d1 : h1 ≤ a ∨ b ≤ n1) (d2 : h2 ≤ a ∨ b ≤ n2) (d3 : h3 ≤ a ∨ b ≤ n3) : OC w' x y z l r ps lo hi n1 h1 n2 h2 n3 h3 :=
  ⟨h.x.seg s d1, h.y.seg s d2, h.z.seg s d3, h.low, h.high, h.apart, h.top.1, Nat.le_trans h.top.2 s.below.size⟩

end Go.Proofs.Ytepkkeclkdlheaa
