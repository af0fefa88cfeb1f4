/- When updates are valid, said as the program asks it: the inserts make a valid column with the elements; no program (promise 7). -/
import Derived.Test.YtajfhalalnlejaaPdM
namespace Go.Proofs.Ytajfhalalnlejaa
set_option linter.unusedSimpArgs false
set_option linter.unusedVariables false

theorem rowsOk_nodup {r : List Int} : RowsOk r ↔ (∀ x ∈ r, 0 ≤ x ∧ x ≤ 999) ∧ r.Nodup := by
  constructor
  · intro h
    refine ⟨fun x hx => ?_, ?_⟩
    · obtain ⟨k, hk, rfl⟩ := List.getElem_of_mem hx
      exact ⟨(h k hk).1, (h k hk).2.1⟩
    · rw [List.Nodup, List.pairwise_iff_getElem]
      intro i j hi hj hij e
      exact (h j hj).2.2 i hij e
  · rintro ⟨h1, h2⟩ i hi
    have h3 := h1 _ (List.getElem_mem hi)
    exact ⟨h3.1, h3.2, fun k hk e => (List.pairwise_iff_getElem.1 h2) k i (by omega) hi hk e⟩

theorem pvsOk_none (l : List Int) : pvsOk l [] = true := pvsOk_iff.2 fun k h => by simp at h

theorem areVals_iff {l : List Int} : areVals l = true ↔ l.length ≤ 64 ∧ ∀ x ∈ l, -999 ≤ x ∧ x ≤ 999 := by
  unfold areVals
  simp [List.all_eq_true]

theorem isCk_with {l r : List Int} {ps : List Pv} {ins : List Pv} (h : isCk l r ps = true) : isCk (l ++ ins.map (·.1)) (r ++ ins.map (·.2)) [] = (decide (l.length + ins.length ≤ 64) && insOk r ins) := by
  obtain ⟨h1, h2, h3, h4⟩ := isCk_parts h
  rw [Bool.eq_iff_iff, Bool.and_eq_true, decide_eq_true_eq, insOk_iff, insOk_rows]
  have hv := (areVals_iff.1 h1).2
  have hr := rowsOk_nodup.1 h3
  constructor
  · intro hc
    obtain ⟨c1, c2, c3, -⟩ := isCk_parts hc
    obtain ⟨d1, d2⟩ := areVals_iff.1 c1
    obtain ⟨e1, e2⟩ := rowsOk_nodup.1 c3
    have e3 := List.nodup_append.1 e2
    refine ⟨by simpa using d1, fun p hp => ⟨isIt_yes ?_, fun hm => ?_⟩, e3.2.1⟩
    · have f1 := d2 p.1 (List.mem_append_right _ (List.mem_map.2 ⟨p, hp, rfl⟩))
      have f2 := e1 p.2 (List.mem_append_right _ (List.mem_map.2 ⟨p, hp, rfl⟩))
      exact ⟨f1.1, f1.2, f2.1, f2.2⟩
    · exact e3.2.2 p.2 hm p.2 (List.mem_map.2 ⟨p, hp, rfl⟩) rfl
  · rintro ⟨g1, g2, g3⟩
    have g4 : (ins.map (·.2)).Nodup := g3
    unfold isCk
    simp only [Bool.and_eq_true, decide_eq_true_eq]
    refine ⟨areVals_iff.2 ⟨by simpa using g1, fun x hx => ?_⟩, by simp; exact h2, rowsOk_iff.2 (rowsOk_nodup.2 ⟨fun x hx => ?_, ?_⟩), pvsOk_none _⟩
    · rcases List.mem_append.1 hx with hx | hx
      · exact hv x hx
      · obtain ⟨p, hp, rfl⟩ := List.mem_map.1 hx
        have := isIt_true (g2 p hp).1
        exact ⟨this.1, this.2.1⟩
    · rcases List.mem_append.1 hx with hx | hx
      · exact hr.1 x hx
      · obtain ⟨p, hp, rfl⟩ := List.mem_map.1 hx
        have := isIt_true (g2 p hp).1
        exact ⟨this.2.2.1, this.2.2.2⟩
    · refine List.nodup_append.2 ⟨hr.2, g4, fun x hx y hy e => ?_⟩
      obtain ⟨p, hp, rfl⟩ := List.mem_map.1 hy
      subst e
      exact (g2 p hp).2 hx

theorem isPd_i {l r : List Int} {ps : List Pv} {ins : List Pv} {de : List Int} (h : isCk l r ps = true) (h1 : ins.length ≤ 20) (h2 : de.length ≤ 20) : isPd l r ps ins de = (desOk r de && isCk (l ++ ins.map (·.1)) (r ++ ins.map (·.2)) []) := by
  rw [isCk_with h]
  unfold isPd pdSz
  rw [h, decide_eq_true h1, decide_eq_true h2]
  simp only [Bool.true_and]
  cases desOk r de <;> cases insOk r ins <;> simp

end Go.Proofs.Ytajfhalalnlejaa
