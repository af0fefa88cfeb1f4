/- A region that draws its order, by an invariant: whatever the order, each operation keeps it. Any program. -/
import Derived.Test.YtepkkeclkdlheaaKit
import Derived.Deep.RegionHeld3
namespace Go.Proofs.Ytepkkeclkdlheaa
open Go.RowKit

theorem count_set_false : ∀ (l : List Bool) (i : Nat), l[i]? = some false → (l.set i true).count false + 1 = l.count false
  | [], i, h => by simp at h
  | b :: l, 0, h => by
    simp at h
    subst h
    simp
  | b :: l, i + 1, h => by
    have := count_set_false l i (by simpa using h)
    rw [List.set_cons_succ, List.count_cons, List.count_cons]
    omega

theorem ready_mem {md : Region.Mode} {ops : Array Oper} {listed : Array Bool} {i : Nat} (h : i ∈ Region.ready md ops listed) : i < ops.size ∧ listed.getD i true = false ∧ ∀ o, ops[i]? = some o → ∀ e ∈ o.after, Region.binds md e = true → listed.getD e.on false = true := by
  unfold Region.ready at h
  obtain ⟨h1, h2⟩ := List.mem_filter.1 h
  have hi := List.mem_range.1 h1
  simp only [Bool.and_eq_true, Bool.not_eq_true'] at h2
  refine ⟨hi, h2.1, fun o ho e he hb => ?_⟩
  have h3 := h2.2
  rw [ho] at h3
  simp only [Option.map_some, Option.getD_some] at h3
  have := Array.all_eq_true.1 h3
  obtain ⟨j, hj, rfl⟩ := Array.getElem_of_mem he
  have h4 := this j hj
  rw [hb] at h4
  simpa using h4

/-- All are listed where none is ready and each waits for earlier ones alone. -/
theorem ready_nil {md : Region.Mode} {ops : Array Oper} {listed : Array Bool} (hd : ∀ (i : Nat) (o : Oper), ops[i]? = some o → ∀ e ∈ o.after, e.on < i) (hs : listed.size = ops.size) (h : Region.ready md ops listed = []) : ∀ i, i < ops.size → listed.getD i false = true := by
  intro i
  induction i using Nat.strongRecOn with
  | _ i ih =>
    intro hi
    cases hb : listed.getD i false with
    | true => rfl
    | false =>
      exfalso
      have hmem : i ∈ Region.ready md ops listed := by
        unfold Region.ready
        refine List.mem_filter.2 ⟨List.mem_range.2 hi, ?_⟩
        have hl : listed.getD i true = false := by
          have hil : i < listed.size := by omega
          simp only [Array.getD, hil, dif_pos] at hb ⊢
          exact hb
        rw [hl]
        have ho : ops[i]? = some ops[i] := Array.getElem?_eq_getElem hi
        rw [ho]
        simp only [Option.map_some, Option.getD_some, Bool.not_false, Bool.true_and]
        refine Array.all_eq_true.2 fun j hj => ?_
        have hlt := hd i _ ho _ (Array.getElem_mem hj)
        rw [ih _ hlt (by omega)]
        simp
      rw [h] at hmem
      cases hmem

/-- A region in any order, by an invariant. -/
theorem wpAny_inv {P : Program} {md : Region.Mode} {ops : Array Oper} {Q : Exit → Act → World → Prop} (Inv : Array Bool → Act → World → Prop)
    (hstep : ∀ listed a w i, Inv listed a w → listed.size = ops.size → i < ops.size → listed.getD i true = false → (∀ o, ops[i]? = some o → ∀ e ∈ o.after, Region.binds md e = true → listed.getD e.on false = true) → wpOp P ops Q i (Inv (listed.setIfInBounds i true)) a w)
    (hfin : ∀ listed a w, Inv listed a w → listed.size = ops.size → Region.ready md ops listed = [] → Q .normal a w) :
    ∀ fuel listed a w, listed.size = ops.size → listed.toList.count false ≤ fuel → Inv listed a w → wpAny P md ops Q fuel listed a w := by
  intro fuel
  induction fuel with
  | zero =>
    intro listed a w hs hc hI
    have hr : Region.ready md ops listed = [] := by
      cases hr : Region.ready md ops listed with
      | nil => rfl
      | cons i rs =>
        obtain ⟨hi, hb, _⟩ := ready_mem (md := md) (ops := ops) (listed := listed) (i := i) (by rw [hr]; simp)
        have hil : i < listed.size := by omega
        have hb2 : listed.toList[i]? = some false := by
          simp only [Array.getD, hil, dif_pos] at hb
          rw [Array.getElem?_toList, Array.getElem?_eq_getElem hil]
          exact congrArg some hb
        have := count_set_false _ i hb2
        omega
    exact ⟨hr, hfin _ _ _ hI hs hr⟩
  | succ fuel ih =>
    intro listed a w hs hc hI
    refine ⟨hfin _ _ _ hI hs, fun i hi => ?_⟩
    obtain ⟨hi1, hb, hdep⟩ := ready_mem hi
    refine wpOp_mono (fun a' w' h => ih _ _ _ (by simpa using hs) ?_ h) (hstep _ _ _ _ hI hs hi1 hb hdep)
    have hil : i < listed.size := by omega
    have hb2 : listed.toList[i]? = some false := by
      simp only [Array.getD, hil, dif_pos] at hb
      rw [Array.getElem?_toList, Array.getElem?_eq_getElem hil]
      exact congrArg some hb
    have := count_set_false _ i hb2
    rw [Array.toList_setIfInBounds]
    omega

theorem listed_set {listed : Array Bool} {i k : Nat} (hi : i < listed.size) : (listed.setIfInBounds i true).getD k false = if k = i then true else listed.getD k false := by
  by_cases h : k = i
  · subst h
    simp [Array.getD, hi]
  · rw [if_neg h, Array.getD_eq_getD_getElem?, Array.getD_eq_getD_getElem?, Array.getElem?_setIfInBounds_ne (Ne.symm h)]

/-- Each operation waits for earlier ones alone: decided. -/
def depsBack (ops : Array Oper) : Bool := ops.toList.zipIdx.all fun p => p.1.after.all fun e => decide (e.on < p.2)

theorem depsBack_of {ops : Array Oper} (h : depsBack ops = true) : ∀ (i : Nat) (o : Oper), ops[i]? = some o → ∀ e ∈ o.after, e.on < i := by
  intro i o ho e he
  have h1 := List.all_eq_true.1 h (o, i) (List.mk_mem_zipIdx_iff_getElem?.2 (by rw [← ho]; simp))
  exact of_decide_eq_true (Array.all_eq_true'.1 h1 e he)

end Go.Proofs.Ytepkkeclkdlheaa
