/- Pending updates: when they are valid, and what adding to them leaves, in numbers; no program. -/
import Derived.Test.YtajfhalalnlejaaIt
import Derived.Test.YtajfhalalnlejaaCkT
namespace Go.Proofs.Ytajfhalalnlejaa
set_option linter.unusedSimpArgs false
set_option linter.unusedVariables false

/-- The rows of items. -/
def itR (ins : List Pv) : List Int := ins.map (·.2)
theorem itR_length (ins : List Pv) : (itR ins).length = ins.length := by simp [itR]
theorem itR_get (ins : List Pv) (k : Nat) (h : k < ins.length) : (itR ins)[k]'(by rw [itR_length]; exact h) = ins[k].2 := by simp [itR]
/-- The place of the first insert with a row, or -1. -/
def hasR (ins : List Pv) (row : Int) : Int := rowAt (itR ins) row

theorem rowAt_lo (l : List Int) (v : Int) : -1 ≤ rowAt l v ∧ rowAt l v < l.length ∨ rowAt l v = -1 := by
  unfold rowAt
  have := idxL_le v l
  split
  · left; omega
  · right; rfl
theorem rowAt_lt (l : List Int) (v : Int) : -1 ≤ rowAt l v ∧ rowAt l v ≤ l.length := by
  unfold rowAt
  have := idxL_le v l
  split <;> omega
theorem idxL_lt_iff (v : Int) : ∀ l : List Int, idxL l v < l.length ↔ v ∈ l
  | [] => by simp [idxL]
  | x :: l => by
    unfold idxL
    by_cases hx : x = v
    · simp [hx]
    · have := idxL_lt_iff v l
      rw [if_neg hx]
      simp only [List.length_cons, Nat.add_lt_add_iff_right, this, List.mem_cons]
      constructor
      · exact .inr
      · rintro (h | h)
        · exact absurd h.symm hx
        · exact h
theorem rowAt_neg_iff {l : List Int} {v : Int} : rowAt l v < 0 ↔ v ∉ l := by
  unfold rowAt
  rw [← idxL_lt_iff]
  split <;> rename_i h <;> simp [h] <;> omega
theorem rowAt_nonneg_iff {l : List Int} {v : Int} : 0 ≤ rowAt l v ↔ v ∈ l := by
  have h := rowAt_neg_iff (l := l) (v := v)
  constructor
  · intro h1
    by_cases hm : v ∈ l
    · exact hm
    · have := h.2 hm; omega
  · intro hm
    by_cases h1 : rowAt l v < 0
    · exact absurd hm (h.1 h1)
    · omega

/-- Insert k is as asked. -/
def InOk (r : List Int) (ins : List Pv) (k : Nat) (h : k < ins.length) : Prop := isIt ins[k].1 ins[k].2 = true ∧ rowAt r ins[k].2 < 0 ∧ hasR ins ins[k].2 = k
/-- Delete k is as asked. -/
def DeOk (r : List Int) (de : List Int) (k : Nat) (h : k < de.length) : Prop := 0 ≤ rowAt r de[k] ∧ de[k] ∉ de.take k
def InsOk (r : List Int) (ins : List Pv) : Prop := ∀ k (h : k < ins.length), InOk r ins k h
def DesOk (r : List Int) (de : List Int) : Prop := ∀ k (h : k < de.length), DeOk r de k h

open Classical in
noncomputable def insOk (r : List Int) (ins : List Pv) : Bool := decide (InsOk r ins)
open Classical in
noncomputable def desOk (r : List Int) (de : List Int) : Bool := decide (DesOk r de)
theorem insOk_iff {r : List Int} {ins : List Pv} : insOk r ins = true ↔ InsOk r ins := by unfold insOk; simp
theorem desOk_iff {r : List Int} {de : List Int} : desOk r de = true ↔ DesOk r de := by unfold desOk; simp
theorem ins_bad {r : List Int} {ins : List Pv} {k : Nat} (h : k < ins.length) (hb : ¬ InOk r ins k h) : insOk r ins = false := by
  cases hp : insOk r ins with
  | false => rfl
  | true => exact absurd (insOk_iff.1 hp k h) hb
theorem des_bad {r : List Int} {de : List Int} {k : Nat} (h : k < de.length) (hb : ¬ DeOk r de k h) : desOk r de = false := by
  cases hp : desOk r de with
  | false => rfl
  | true => exact absurd (desOk_iff.1 hp k h) hb

/-- The sizes are as asked. -/
def pdSz (l : List Int) (ins : List Pv) (de : List Int) : Bool := decide (ins.length ≤ 20) && (decide (de.length ≤ 20) && decide (l.length + ins.length ≤ 64))
/-- Are the updates valid? -/
noncomputable def isPd (l r : List Int) (ps : List Pv) (ins : List Pv) (de : List Int) : Bool := isCk l r ps && (pdSz l ins de && (insOk r ins && desOk r de))

/-- All inserts before insert k are as asked. -/
def InPre (r : List Int) (ins : List Pv) (k : Nat) : Prop := ∀ j (_ : j < k) (h : j < ins.length), InOk r ins j h
theorem inPre_zero (r : List Int) (ins : List Pv) : InPre r ins 0 := fun j hj => by omega
theorem inPre_step {r : List Int} {ins : List Pv} {k : Nat} (hp : InPre r ins k) (hk : k < ins.length) (h : InOk r ins k hk) : InPre r ins (k + 1) := by
  intro j hj h2
  by_cases e : j = k
  · subst e; exact h
  · exact hp j (by omega) h2
theorem inPre_all {r : List Int} {ins : List Pv} (hp : InPre r ins ins.length) : insOk r ins = true := insOk_iff.2 fun k h => hp k h h
def DePre (r : List Int) (de : List Int) (k : Nat) : Prop := ∀ j (_ : j < k) (h : j < de.length), DeOk r de j h
theorem dePre_zero (r : List Int) (de : List Int) : DePre r de 0 := fun j hj => by omega
theorem dePre_step {r : List Int} {de : List Int} {k : Nat} (hp : DePre r de k) (hk : k < de.length) (h : DeOk r de k hk) : DePre r de (k + 1) := by
  intro j hj h2
  by_cases e : j = k
  · subst e; exact h
  · exact hp j (by omega) h2
theorem dePre_all {r : List Int} {de : List Int} (hp : DePre r de de.length) : desOk r de = true := desOk_iff.2 fun k h => hp k h h

/-- What AddInsert leaves. -/
noncomputable def aiB (l r : List Int) (ps : List Pv) (ins : List Pv) (de : List Int) (v t : Int) : Bool := isPd l r ps ins de && isPd l r ps (ins ++ [(v, t)]) de
noncomputable def aiI (l r : List Int) (ps : List Pv) (ins : List Pv) (de : List Int) (v t : Int) : List Pv := if aiB l r ps ins de v t = true then ins ++ [(v, t)] else ins

/-- What AddDelete would leave. -/
def adqI (ins : List Pv) (row : Int) : List Pv := if 0 ≤ hasR ins row then ins.take (hasR ins row).toNat ++ ins.drop ((hasR ins row).toNat + 1) else ins
def adqD (ins : List Pv) (de : List Int) (row : Int) : List Int := if 0 ≤ hasR ins row then de else de ++ [row]
noncomputable def axB (l r : List Int) (ps : List Pv) (ins : List Pv) (de : List Int) (row : Int) : Bool := isPd l r ps ins de && isPd l r ps (adqI ins row) (adqD ins de row)
noncomputable def axI (l r : List Int) (ps : List Pv) (ins : List Pv) (de : List Int) (row : Int) : List Pv := if axB l r ps ins de row = true then adqI ins row else ins
noncomputable def axD (l r : List Int) (ps : List Pv) (ins : List Pv) (de : List Int) (row : Int) : List Int := if axB l r ps ins de row = true then adqD ins de row else de

theorem isPd_parts {l r : List Int} {ps : List Pv} {ins : List Pv} {de : List Int} (h : isPd l r ps ins de = true) : isCk l r ps = true ∧ ins.length ≤ 20 ∧ de.length ≤ 20 ∧ l.length + ins.length ≤ 64 ∧ InsOk r ins ∧ DesOk r de := by
  unfold isPd pdSz at h
  simp only [Bool.and_eq_true, decide_eq_true_eq, insOk_iff, desOk_iff] at h
  exact ⟨h.1, h.2.1.1, h.2.1.2.1, h.2.1.2.2, h.2.2.1, h.2.2.2⟩
theorem isPd_of {l r : List Int} {ps : List Pv} {ins : List Pv} {de : List Int} (h1 : isCk l r ps = true) (h2 : ins.length ≤ 20) (h3 : de.length ≤ 20) (h4 : l.length + ins.length ≤ 64) (h5 : InsOk r ins) (h6 : DesOk r de) : isPd l r ps ins de = true := by
  unfold isPd pdSz
  simp only [Bool.and_eq_true, decide_eq_true_eq, insOk_iff, desOk_iff]
  exact ⟨h1, ⟨h2, h3, h4⟩, h5, h6⟩

/-- The inserts are valid, said by their rows. -/
theorem insOk_rows {r : List Int} {ins : List Pv} : InsOk r ins ↔ (∀ p ∈ ins, isIt p.1 p.2 = true ∧ p.2 ∉ r) ∧ (itR ins).Nodup := by
  constructor
  · intro h
    refine ⟨fun p hp => ?_, ?_⟩
    · obtain ⟨k, hk, rfl⟩ := List.getElem_of_mem hp
      exact ⟨(h k hk).1, rowAt_neg_iff.1 (h k hk).2.1⟩
    · rw [List.Nodup, List.pairwise_iff_getElem]
      intro i j hi hj hij e
      rw [itR_length] at hi hj
      have h1 := (h i hi).2.2
      have h2 := (h j hj).2.2
      rw [itR_get ins i hi, itR_get ins j hj] at e
      rw [e, h2] at h1
      omega
  · rintro ⟨h1, h2⟩ k hk
    refine ⟨(h1 _ (List.getElem_mem hk)).1, rowAt_neg_iff.2 (h1 _ (List.getElem_mem hk)).2, ?_⟩
    have hm : ins[k].2 ∈ itR ins := List.mem_map.2 ⟨_, List.getElem_mem hk, rfl⟩
    have h3 := (idxL_lt_iff ins[k].2 (itR ins)).2 hm
    unfold hasR rowAt
    rw [if_pos h3]
    have h4 := idxL_at ins[k].2 (itR ins) h3
    rw [List.getD_eq_getElem?_getD, List.getElem?_eq_getElem h3, Option.getD_some] at h4
    have h5 := List.pairwise_iff_getElem.1 h2
    have hkl : k < (itR ins).length := by rw [itR_length]; exact hk
    rcases Nat.lt_trichotomy (idxL (itR ins) ins[k].2) k with h | h | h
    · exact absurd (h4.trans (itR_get ins k hk).symm) (h5 _ _ h3 hkl h)
    · rw [h]
    · exact absurd ((itR_get ins k hk).trans h4.symm) (h5 _ _ hkl h3 h)

theorem desOk_rows {r : List Int} {de : List Int} : DesOk r de ↔ (∀ x ∈ de, x ∈ r) ∧ de.Nodup := by
  constructor
  · intro h
    refine ⟨fun x hx => ?_, ?_⟩
    · obtain ⟨k, hk, rfl⟩ := List.getElem_of_mem hx
      exact rowAt_nonneg_iff.1 (h k hk).1
    · rw [List.Nodup, List.pairwise_iff_getElem]
      intro i j hi hj hij e
      exact (h j hj).2 ((mem_take_iff hj).2 ⟨i, hij, e⟩)
  · rintro ⟨h1, h2⟩ k hk
    refine ⟨rowAt_nonneg_iff.2 (h1 _ (List.getElem_mem hk)), fun hm => ?_⟩
    obtain ⟨j, hj, e⟩ := (mem_take_iff hk).1 hm
    exact (List.pairwise_iff_getElem.1 h2) j k (by omega) hk hj e

end Go.Proofs.Ytajfhalalnlejaa
