/- exchange of the program: two elements of an owned slice change places (promise 3). -/
import Derived.Test.YtobdghabehbcjaaSwp
import Derived.BigRegion
namespace Go.Proofs.Ytobdghabehbcjaa
open Go.RowKit Go.ChangeShapes
set_option linter.unusedSimpArgs false
set_option linter.unusedVariables false
set_option maxRecDepth 100000

set_option maxHeartbeats 4000000 in
theorem iExch_ow (v : Value) (l : List Int) (lo hi i j : Nat) (w : World) (h : Ow w v l lo hi) (hi' : i < l.length) (hj' : j < l.length) :
    Calls Try.prog 52 #[v, .agg #[.int .i64 i, .int .i64 j]] w fun e w' => (∃ u, e = .returned u) ∧ Ow w' v (swapAt l i j) lo hi ∧ Seg lo hi w w' := by
  have X := hide (Kn.one w #[.int .i64 i, .int .i64 j] 37)
  obtain ⟨w1, hw1⟩ : ∃ w1, w1 = w.alloc (.cells #[.int .i64 i, .int .i64 j] 37) := ⟨_, rfl⟩
  rw [← hw1] at X
  have S0 := hide (Seg.of_below (lo := lo) (hi := hi) X.out.below (Nat.le_trans h.le h.top))
  have hT := hide h.top
  have h := h.below X.out.below
  obtain ⟨⟨F, ⟨o, rfl⟩, hF⟩, hle, htop⟩ := h
  obtain ⟨a, cap, rfl⟩ := Is.form o
  have HS := o.2
  rcases HS with ⟨e, hn⟩ | ⟨g, cap', cur, e, -⟩
  · exfalso
    injection e with e1 e2 e3
    omega
  injection e with e1 e2 e3
  subst e1 e3
  have hg := hF g (by simp [Value.ownBlock])
  have O := hide o
  have O1 := hide (O.out.store rfl i (l[j]'hj'))
  have O2 := hide (O1.out.store (by simp) j (l[i]'hi'))
  obtain ⟨ci, fi, gi, -⟩ := O.out.cell i hi'
  obtain ⟨cj, fj, gj, -⟩ := O.out.cell j hj'
  obtain ⟨cj1, fj1, gj1, -⟩ := O1.out.cell j (by simp; exact hj')
  have E1 := hide (show swapAt l i j = (l.set i (l[j]'hj')).set j (l[i]'hi') by simp [swapAt, List.getD, hi', hj'])
  obtain ⟨y2, hy2⟩ : ∃ y2, y2 = (l.set i (l[j]'hj'))[j]'(by simp; exact hj') := ⟨_, rfl⟩
  rw [← hy2] at cj1
  obtain ⟨x, hx⟩ : ∃ x, x = l[i]'hi' := ⟨_, rfl⟩
  obtain ⟨y, hy⟩ : ∃ y, y = l[j]'hj' := ⟨_, rfl⟩
  rw [← hx] at ci E1 O2
  rw [← hy] at cj E1 O1 O2 cj1 fj1
  clear hx hy hy2
  have d0 : w1.cell? ⟨w.heap.size, 0, none⟩ = some (.int .i64 i) := X.out.cell 0 0 rfl rfl
  have d1 : w1.cell? ⟨w.heap.size, 1, none⟩ = some (.int .i64 j) := X.out.cell 0 1 rfl rfl
  have hne : w.heap.size ≠ g := by have := hT.out; omega
  have d2 : (w1.setCell ⟨g, i, none⟩ (.int .i64 y)).cell? ⟨w.heap.size, 0, none⟩ = some (.int .i64 i) := by rw [World.cell?_setCell_other _ _ _ _ (by simp [hne])]; exact d0
  have d3 : (w1.setCell ⟨g, i, none⟩ (.int .i64 y)).cell? ⟨w.heap.size, 1, none⟩ = some (.int .i64 j) := by rw [World.cell?_setCell_other _ _ _ _ (by simp [hne])]; exact d1
  have HF := hide hF
  have hne := hide hne
  clear hF o
  go_enter Try.func52, Try.ntmps52
  go_wp2_with fail
  rw [← hw1]
  clear hw1
  go_region
  all_goals have sg := (Seg.setCell w1 g i (.int .i64 y)).trans (Seg.setCell _ g j (.int .i64 x))
  all_goals refine bodyPost_end (v := .tuple #[]) (by simp [results, Try.results52]) rfl ⟨⟨_, rfl⟩, ?_, ?_⟩
  · rw [E1.out]
    exact ⟨⟨_, ⟨O2.out.below (Below.refl _ _).drew, rfl⟩, HF.out⟩, hle, Nat.le_trans htop sg.below.size⟩
  · have s2 := S0.out.trans (sg.mono hg.1 (by omega))
    exact ⟨s2.below.drew, s2.over⟩

end Go.Proofs.Ytobdghabehbcjaa
