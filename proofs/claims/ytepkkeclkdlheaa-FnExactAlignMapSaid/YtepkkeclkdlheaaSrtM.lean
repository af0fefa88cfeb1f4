/- Sorted lists of integers: the one that a list has, and what an insertion sort keeps (promise 4). -/
import Derived.Test.YtepkkeclkdlheaaSwp
namespace Go.Proofs.Ytepkkeclkdlheaa
set_option linter.unusedSimpArgs false
set_option linter.unusedVariables false

/-- The numbers in ascending order. -/
def sortL (l : List Int) : List Int := l.mergeSort fun x y => decide (x ≤ y)

theorem sortL_perm (l : List Int) : (sortL l).Perm l := List.mergeSort_perm _ _
theorem sortL_length (l : List Int) : (sortL l).length = l.length := (sortL_perm l).length_eq
theorem sortL_mem {l : List Int} {x : Int} : x ∈ sortL l ↔ x ∈ l := (sortL_perm l).mem_iff
theorem sortL_asc (l : List Int) : (sortL l).Pairwise (· ≤ ·) := by
  have h := List.pairwise_mergeSort (le := fun (x y : Int) => decide (x ≤ y)) (by intro a b c; simp; omega) (by intro a b; simp; omega) l
  exact h.imp (by intro a b h; simpa using h)
theorem sortL_eq {l m : List Int} (hp : m.Perm l) (hs : m.Pairwise (· ≤ ·)) : m = sortL l :=
  List.Perm.eq_of_pairwise (le := (· ≤ ·)) (fun a b _ _ h1 h2 => Int.le_antisymm h1 h2) hs (sortL_asc l) (hp.trans (sortL_perm l).symm)
theorem sortL_of_perm {l m : List Int} (hp : m.Perm l) : sortL m = sortL l := sortL_eq ((sortL_perm m).trans hp) (sortL_asc m)
theorem sortL_nil : sortL [] = [] := by simp [sortL]

/-- The first i are in order. -/
def SrtO (l : List Int) (i : Nat) (m : List Int) : Prop := ∃ S D, m = S ++ D ∧ (S.length = i ∨ m = []) ∧ S.Pairwise (· ≤ ·) ∧ m.Perm l

/-- The element at k is on its way down; without it the first i + 1 are in order. -/
def SrtI (l : List Int) (i k : Nat) (m : List Int) : Prop := ∃ A x B C, m = A ++ x :: (B ++ C) ∧ A.length = k ∧ A.length + B.length = i ∧ (A ++ B).Pairwise (· ≤ ·) ∧ (∀ b ∈ B, x ≤ b) ∧ m.Perm l

theorem SrtO.first (l : List Int) : SrtO l 1 l := by
  rcases l with _ | ⟨x, D⟩
  · exact ⟨[], [], rfl, .inr rfl, by simp, .refl _⟩
  · exact ⟨[x], D, rfl, .inl rfl, by simp, .refl _⟩

theorem SrtO.start {l m : List Int} {i : Nat} (h : SrtO l i m) (hi : i < m.length) : SrtI l i i m := by
  obtain ⟨S, D, rfl, h1, h2, h3⟩ := h
  have hS : S.length = i := by
    rcases h1 with h | h
    · exact h
    · rw [h] at hi; simp at hi
  rcases D with _ | ⟨x, D⟩
  · simp at hi; omega
  · exact ⟨S, x, [], D, by simp, hS, by simpa using hS, by simpa using h2, by simp, h3⟩

theorem SrtO.fin {l m : List Int} {i : Nat} (h : SrtO l i m) (hi : m.length ≤ i) : m = sortL l := by
  obtain ⟨S, D, rfl, h1, h2, h3⟩ := h
  have hD : D = [] := by
    rcases h1 with h | h
    · simp at hi
      exact List.eq_nil_of_length_eq_zero (by omega)
    · exact (List.append_eq_nil_iff.1 h).2
  subst hD
  simp only [List.append_nil] at h3 ⊢
  exact sortL_eq h3 h2

theorem last_split {A : List Int} {k : Nat} (h : A.length = k + 1) : ∃ A' y, A = A' ++ [y] ∧ A'.length = k := by
  rcases List.eq_nil_or_concat A with h0 | ⟨A', y, h0⟩
  · rw [h0] at h; simp at h
  · exact ⟨A', y, by rw [h0, List.concat_eq_append], by rw [h0] at h; simpa using h⟩

theorem SrtI.step {l m : List Int} {i k : Nat} (h : SrtI l i (k + 1) m) (hgt : m.getD (k + 1) 0 < m.getD k 0) : SrtI l i k (swapAt m k (k + 1)) := by
  obtain ⟨A, x, B, C, rfl, h1, h2, h3, h4, h5⟩ := h
  obtain ⟨A', y, rfl, hA⟩ := last_split h1
  subst hA
  have e1 : (A' ++ [y] ++ x :: (B ++ C)).getD A'.length 0 = y := by simp [List.getD]
  have e2 : (A' ++ [y] ++ x :: (B ++ C)).getD (A'.length + 1) 0 = x := by simp [List.getD, List.getElem?_append_right]
  rw [e1, e2] at hgt
  have e3 : swapAt (A' ++ [y] ++ x :: (B ++ C)) A'.length (A'.length + 1) = A' ++ x :: (y :: B ++ C) := by
    unfold swapAt
    rw [e1, e2]
    simp [List.set_append]
  rw [e3]
  refine ⟨A', x, y :: B, C, rfl, rfl, by simp at h2 ⊢; omega, by simpa using h3, ?_, ?_⟩
  · intro b hb
    rcases List.mem_cons.1 hb with rfl | hb
    · omega
    · exact h4 b hb
  · refine List.Perm.trans ?_ h5
    simp only [List.append_assoc, List.singleton_append, List.cons_append]
    exact (List.Perm.swap y x (B ++ C)).append_left A'

theorem SrtI.done {l m : List Int} {i k : Nat} (h : SrtI l i k m) (he : k = 0 ∨ ∃ j, k = j + 1 ∧ m.getD j 0 ≤ m.getD k 0) : SrtO l (i + 1) m := by
  obtain ⟨A, x, B, C, rfl, h1, h2, h3, h4, h5⟩ := h
  refine ⟨A ++ x :: B, C, by simp, .inl (by simp; omega), ?_, h5⟩
  rw [List.pairwise_append] at h3 ⊢
  obtain ⟨q1, q2, q3⟩ := h3
  refine ⟨q1, List.pairwise_cons.2 ⟨h4, q2⟩, ?_⟩
  intro a ha b hb
  rcases List.mem_cons.1 hb with rfl | hb
  · rcases he with he | ⟨j, he, hle⟩
    · have : A = [] := List.eq_nil_of_length_eq_zero (by omega)
      subst this; simp at ha
    · subst he
      obtain ⟨A', y, rfl, hA⟩ := last_split h1
      subst hA
      have e1 : (A' ++ [y] ++ b :: (B ++ C)).getD A'.length 0 = y := by simp [List.getD]
      have e2 : (A' ++ [y] ++ b :: (B ++ C)).getD (A'.length + 1) 0 = b := by simp [List.getD, List.getElem?_append_right]
      rw [e1, e2] at hle
      rcases List.mem_append.1 ha with ha | ha
      · rw [List.pairwise_append] at q1
        have := q1.2.2 a ha y (by simp)
        omega
      · rw [List.mem_singleton.1 ha]; exact hle
  · exact q3 a ha b hb

theorem SrtI.len {l m : List Int} {i k : Nat} (h : SrtI l i k m) : m.length = l.length ∧ k < m.length ∧ k ≤ i := by
  obtain ⟨A, x, B, C, rfl, h1, h2, -, -, h5⟩ := h
  exact ⟨h5.length_eq, by simp; omega, by omega⟩

end Go.Proofs.Ytepkkeclkdlheaa
