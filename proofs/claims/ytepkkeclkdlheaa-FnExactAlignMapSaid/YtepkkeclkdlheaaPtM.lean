/- Numbers of a partition: which places its swaps name, how many they are, where its place lies. Any program. -/
import Derived.Test.YtepkkeclkdlheaaPtS
namespace Go.Proofs.Ytepkkeclkdlheaa
set_option linter.unusedSimpArgs false
set_option linter.unusedVariables false

theorem part_nums (l : List Int) (p : Int) : ∀ (f i e : Nat), (∀ q ∈ (part l p f i e).1, (i : Int) ≤ q.1 ∧ q.1 < q.2 ∧ q.2 < (e : Int)) ∧ 2 * (part l p f i e).1.length + i ≤ max e i ∧ i ≤ (part l p f i e).2 ∧ (part l p f i e).2 ≤ max e i
  | 0, i, e => by
    refine ⟨by simp [part], ?_, ?_, ?_⟩ <;> simp [part] <;> omega
  | f + 1, i, e => by
    by_cases h : i < e
    · rw [part_step l p f i e h]
      by_cases h1 : l.getD i 0 < p
      · rw [if_pos h1]
        obtain ⟨a, b, c, d⟩ := part_nums l p f (i + 1) e
        refine ⟨fun q hq => ?_, by omega, by omega, by omega⟩
        have := a q hq
        omega
      · rw [if_neg h1]
        by_cases h2 : p ≤ l.getD (e - 1) 0
        · rw [if_pos h2]
          obtain ⟨a, b, c, d⟩ := part_nums l p f i (e - 1)
          refine ⟨fun q hq => ?_, by omega, by omega, by omega⟩
          have := a q hq
          omega
        · rw [if_neg h2]
          have hne : i ≠ e - 1 := fun h3 => by rw [← h3] at h2; omega
          obtain ⟨a, b, c, d⟩ := part_nums l p f (i + 1) (e - 1)
          refine ⟨fun q hq => ?_, ?_, ?_, ?_⟩
          · rcases List.mem_cons.1 hq with rfl | hq
            · simp only
              omega
            · have := a q hq
              omega
          · simp only [List.length_cons]
            omega
          · simp only
            omega
          · simp only
            omega
    · rw [part_stop l p _ i e h]
      refine ⟨by simp, ?_, ?_, ?_⟩ <;> simp <;> omega

theorem partP_nums (l : List Int) (a b p : Int) (hl : l.length ≤ 1048576) : (∀ q ∈ (partP l a b p).1, 0 ≤ q.1 ∧ q.1 < q.2 ∧ q.2 < (l.length : Int)) ∧ (partP l a b p).1.length ≤ 1048576 ∧ 0 ≤ (partP l a b p).2 ∧ (partP l a b p).2 ≤ (l.length : Int) := by
  unfold partP
  by_cases h : 0 ≤ a ∧ a ≤ b ∧ b ≤ (l.length : Int)
  · rw [if_pos h]
    obtain ⟨q1, q2, q3, q4⟩ := part_nums l p (b - a).toNat a.toNat b.toNat
    refine ⟨fun q hq => ?_, ?_, ?_, ?_⟩
    · have := q1 q hq
      omega
    · simp only; omega
    · simp only; omega
    · simp only; omega
  · rw [if_neg h]
    refine ⟨by simp, by simp, by simp, by simp⟩

theorem partP_wf (l : List Int) (a b p : Int) (hl : l.length ≤ 1048576) : ∀ q ∈ (partP l a b p).1, I64 q.1 ∧ I64 q.2 := fun q hq => by
  have := (partP_nums l a b p hl).1 q hq
  exact ⟨⟨by omega, by omega⟩, ⟨by omega, by omega⟩⟩

end Go.Proofs.Ytepkkeclkdlheaa
