/- l5Swap of the reference: two elements of an owned slice change places (promise 3). -/
import Derived.Test.YtepkkeclkdlheaaCkO
namespace Go.Proofs.Ytepkkeclkdlheaa
open Go.RowKit Go.ChangeShapes
set_option linter.unusedSimpArgs false
set_option linter.unusedVariables false
set_option maxRecDepth 100000

/-- The elements i and j have changed places. -/
def swapAt (l : List Int) (i j : Nat) : List Int := (l.set i (l.getD j 0)).set j (l.getD i 0)

theorem swapAt_length (l : List Int) (i j : Nat) : (swapAt l i j).length = l.length := by simp [swapAt]

theorem swapAt_mem {l : List Int} {i j : Nat} (hi : i < l.length) (hj : j < l.length) : ∀ x ∈ swapAt l i j, x ∈ l := by
  intro x hx
  unfold swapAt at hx
  rcases List.mem_or_eq_of_mem_set hx with h | h
  · rcases List.mem_or_eq_of_mem_set h with h | h
    · exact h
    · rw [h]; simp [List.getD, hj]
  · rw [h]; simp [List.getD, hi]

set_option maxHeartbeats 2000000 in
theorem sSwap_ow (v : Value) (l : List Int) (lo hi i j : Nat) (w : World) (h : Ow w v l lo hi) (hi' : i < l.length) (hj' : j < l.length) :
    Calls Try.prog 84 #[v, .int .i64 i, .int .i64 j] w fun e w' => (∃ u, e = .returned u) ∧ Ow w' v (swapAt l i j) lo hi ∧ Seg lo hi w w' := by
  obtain ⟨⟨F, ⟨o, rfl⟩, hF⟩, hle, htop⟩ := h
  obtain ⟨a, cap, rfl⟩ := Is.form o
  have HS := o.2
  rcases HS with ⟨e, hn⟩ | ⟨g, cap', cur, e, -⟩
  · exfalso
    injection e with e1 e2 e3
    omega
  injection e with e1 e2 e3
  subst e1 e3
  have hg := hF g (by simp [Value.ownBlock])
  have O := hide o
  have O1 := hide (O.out.store rfl i (l[j]'hj'))
  have O2 := hide (O1.out.store (by simp) j (l[i]'hi'))
  obtain ⟨ci, fi, gi, -⟩ := O.out.cell i hi'
  obtain ⟨cj, fj, gj, -⟩ := O.out.cell j hj'
  obtain ⟨cj1, fj1, gj1, -⟩ := O1.out.cell j (by simp; exact hj')
  have HF := hide hF
  clear hF o
  go_enter Try.func84, Try.ntmps84
  go_wp2_with fail
  have e1 : swapAt l i j = (l.set i (l[j]'hj')).set j (l[i]'hi') := by simp [swapAt, List.getD, hi', hj']
  have sg := (Seg.setCell w g i (.int .i64 (l[j]'hj'))).trans (Seg.setCell _ g j (.int .i64 (l[i]'hi')))
  refine bodyPost_end (v := .tuple #[]) (by simp [results, Try.results84]) rfl ⟨⟨_, rfl⟩, ?_, sg.mono hg.1 (by omega)⟩
  rw [e1]
  exact ⟨⟨_, ⟨O2.out, rfl⟩, HF.out⟩, hle, Nat.le_trans htop sg.below.size⟩

end Go.Proofs.Ytepkkeclkdlheaa
