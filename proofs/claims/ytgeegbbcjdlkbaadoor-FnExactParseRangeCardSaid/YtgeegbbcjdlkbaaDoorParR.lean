/- What ParseRange returns: the reference's search and the program's cut compute one thing; plain lists (promise 2). -/
import Derived.Test.YtgeegbbcjdlkbaaDoorFmtR
import Derived.Test.YtgeegbbcjdlkbaaDoorParB
import Derived.Lib.IndexMore
import Derived.Lib.IndexLaws
namespace Go.Proofs.YtgeegbbcjdlkbaaDoor
open Go.RowKit Go.ChangeShapes
set_option linter.unusedSimpArgs false
set_option linter.unusedVariables false
set_option maxRecDepth 100000

/-- What ParseRange returns. -/
def parR (L : List UInt8) : Int × Int × Bool :=
  if (Lib.cut L [46, 46]).2.2 = true ∧ (ParI (Lib.cut L [46, 46]).1).2 = true ∧ (ParI (Lib.cut L [46, 46]).2.1).2 = true ∧ isR (ParI (Lib.cut L [46, 46]).1).1 (ParI (Lib.cut L [46, 46]).2.1).1 = true
  then ((ParI (Lib.cut L [46, 46]).1).1, (ParI (Lib.cut L [46, 46]).2.1).1, true) else (0, 0, false)

theorem parR_none {L : List UInt8} (h : Lib.index L [46, 46] = -1) : parR L = (0, 0, false) := by
  have e : Lib.cut L [46, 46] = (L, [], false) := by unfold Lib.cut; rw [h, if_neg (by omega)]
  unfold parR
  rw [e, if_neg (fun hh => by simpa using hh.1)]

theorem itoa_kind (x : Int) : ∀ b ∈ Lib.itoa x, b ≠ 46 := by
  obtain ⟨D, neg, hs, rfl, rfl⟩ := itoa_strip x
  intro b hb
  have hd : b = 45 ∨ isDig b = true := by
    unfold Strip at hs
    split at hs
    · rw [hs] at hb
      rcases List.mem_cons.1 hb with h | h
      · exact .inl h
      · exact .inr (decDigits_all _ b h)
    · rw [hs.1] at hb
      exact .inr (decDigits_all _ b hb)
  rcases hd with rfl | hd
  · decide
  · simp [isDig] at hd
    exact fun e => by subst e; simp at hd

theorem dots_index {a b : List UInt8} (h : ∀ c ∈ a, c ≠ 46) : Lib.index (a ++ [46, 46] ++ b) [46, 46] = (a.length : Int) := by
  refine Lib.index_first (by simp) ?_ ?_
  · unfold Lib.occAt
    rw [List.append_assoc, List.drop_left]
    simp [List.isPrefixOf]
  · intro j hj
    unfold Lib.occAt
    rw [List.append_assoc, List.drop_append_of_le_length (by omega), List.drop_eq_getElem_cons hj]
    have := h _ (List.getElem_mem hj)
    rw [List.cons_append]
    show ((46 : UInt8) == a[j] && _) = false
    rw [show ((46 : UInt8) == a[j]) = false from beq_eq_false_iff_ne.2 (Ne.symm this)]
    rfl

theorem split_dots {L : List UInt8} {i : Nat} (h : Lib.index L [46, 46] = (i : Int)) : L = L.take i ++ [46, 46] ++ L.drop (i + 2) ∧ i + 2 ≤ L.length := by
  rcases Lib.index_spec L [46, 46] with ⟨h1, _⟩ | ⟨k, h1, hk, ho, _⟩
  · omega
  · obtain rfl : k = i := by omega
    unfold Lib.occAt at ho
    rw [List.isPrefixOf_iff_prefix] at ho
    obtain ⟨t, ht⟩ := ho
    have e : L = L.take k ++ ([46, 46] ++ t) := by rw [ht, List.take_append_drop]
    have hlen : k + 2 ≤ L.length := by
      have := congrArg List.length ht
      simp at this
      omega
    have e2 : L.drop (k + 2) = t := by
      have : L.drop (k + 2) = (L.drop k).drop 2 := by rw [List.drop_drop]
      rw [this, ← ht]
      rfl
    refine ⟨?_, hlen⟩
    rw [e2, List.append_assoc]
    exact e

open Classical in
theorem parR_at {L : List UInt8} {i : Nat} (h : Lib.index L [46, 46] = (i : Int)) : parR L = if fmtR (numP (L.take i)) (numP (L.drop (i + 2))) = L then (numP (L.take i), numP (L.drop (i + 2)), true) else (0, 0, false) := by
  obtain ⟨hL, hlen⟩ := split_dots h
  have ec : Lib.cut L [46, 46] = (L.take i, L.drop (i + 2), true) := by
    unfold Lib.cut
    rw [h, if_pos (by omega)]
    simp
  obtain ⟨a, ha⟩ : ∃ a, a = L.take i := ⟨_, rfl⟩
  obtain ⟨b, hb⟩ : ∃ b, b = L.drop (i + 2) := ⟨_, rfl⟩
  rw [← ha, ← hb] at hL ec ⊢
  unfold parR
  rw [ec]
  simp only
  by_cases hc : (ParI a).2 = true ∧ (ParI b).2 = true ∧ isR (ParI a).1 (ParI b).1 = true
  · obtain ⟨c1, c2, c3⟩ := hc
    have n1 : numP a = (ParI a).1 := if_pos c1
    have n2 : numP b = (ParI b).1 := if_pos c2
    rw [if_pos ⟨trivial, c1, c2, c3⟩, n1, n2, if_pos]
    unfold fmtR
    rw [if_pos c3, par_itoa c1, par_itoa c2]
    exact hL.symm
  · rw [if_neg (fun hh => hc hh.2), if_neg]
    intro hf
    apply hc
    unfold fmtR at hf
    split at hf
    · rename_i hr
      have h2 := dots_index (b := Lib.itoa (numP b)) (itoa_kind (numP a))
      rw [hf, h] at h2
      have hil : (Lib.itoa (numP a)).length = i := by omega
      have e1 : Lib.itoa (numP a) = a := by
        have h3 := congrArg (List.take i) hf
        rw [List.append_assoc, List.take_append_of_le_length (by omega), List.take_of_length_le (by omega)] at h3
        exact h3.trans ha.symm
      have e2 : Lib.itoa (numP b) = b := by
        have h3 := congrArg (List.drop (i + 2)) hf
        rw [List.drop_left' (by simp [hil])] at h3
        exact h3.trans hb.symm
      obtain ⟨l1, l2, l3, l4⟩ := isR_true hr
      have p1 := par_back (numP a)
      have p2 := par_back (numP b)
      rw [if_pos (by omega), e1] at p1
      rw [if_pos (by omega), e2] at p2
      rw [p1, p2]
      exact ⟨rfl, rfl, hr⟩
    · rw [← hf] at hlen
      simp at hlen

end Go.Proofs.YtgeegbbcjdlkbaaDoor
