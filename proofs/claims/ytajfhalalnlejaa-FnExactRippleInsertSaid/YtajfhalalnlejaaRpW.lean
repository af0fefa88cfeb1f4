/- What inserting and deleting leave stays in bounds (promise 7). -/
import Derived.Test.YtajfhalalnlejaaRpB
namespace Go.Proofs.Ytajfhalalnlejaa
open Go.RowKit Go.ChangeShapes
set_option linter.unusedSimpArgs false
set_option linter.unusedVariables false

theorem ri_wf {l r : List Int} {ps : List Pv} {v row : Int} (hl : l.length ≤ 1048576) (hr : r.length ≤ 1048576) (hp : ps.length ≤ 1048576) (wl : ∀ x ∈ l, I64 x) (wr : ∀ x ∈ r, I64 x) (wp : ∀ p ∈ ps, I64 p.1 ∧ I64 p.2) (hv : I64 v) (hrow : I64 row) :
    (riL l r ps v row).length ≤ 1048577 ∧ (riR l r ps v row).length ≤ 1048577 ∧ (riP l r ps v row).length ≤ 1048576 ∧ (∀ x ∈ riL l r ps v row, I64 x) ∧ (∀ x ∈ riR l r ps v row, I64 x) ∧ ∀ p ∈ riP l r ps v row, I64 p.1 ∧ I64 p.2 := by
  unfold riL riR riP
  by_cases h : riOk l r ps v row = true
  · rw [if_pos h, if_pos h, if_pos h]
    have hck : isCk l r ps = true := by unfold riOk at h; simp only [Bool.and_eq_true] at h; exact h.1
    have o1 := ri_start (a := 0) (b := 0) hck hl wl wr wp ⟨by omega, by omega⟩ ⟨by omega, by omega⟩
    obtain ⟨j, o2⟩ := RP.Ok.ups (v := v) ps.length o1 (Nat.le_refl _)
    have o3 := o2.put hv hrow
    have e1 := o3.l
    have e2 := o3.r
    have e3 := o3.p
    exact ⟨by show ((RP.ups v ps.length _).put v row).l.length ≤ _; omega, by show ((RP.ups v ps.length _).put v row).r.length ≤ _; omega, by show ((RP.ups v ps.length _).put v row).ps.length ≤ _; omega, o3.wl, o3.wr, o3.wp⟩
  · rw [if_neg h, if_neg h, if_neg h]
    exact ⟨by omega, by omega, hp, wl, wr, wp⟩

theorem rd_wf {l r : List Int} {ps : List Pv} {row : Int} (hl : l.length ≤ 1048576) (hr : r.length ≤ 1048576) (hp : ps.length ≤ 1048576) (wl : ∀ x ∈ l, I64 x) (wr : ∀ x ∈ r, I64 x) (wp : ∀ p ∈ ps, I64 p.1 ∧ I64 p.2) :
    (rdL l r ps row).length ≤ 1048576 ∧ (rdR l r ps row).length ≤ 1048576 ∧ (rdP l r ps row).length ≤ 1048576 ∧ (∀ x ∈ rdL l r ps row, I64 x) ∧ (∀ x ∈ rdR l r ps row, I64 x) ∧ ∀ p ∈ rdP l r ps row, I64 p.1 ∧ I64 p.2 := by
  unfold rdL rdR rdP
  by_cases h : rdOk l r ps row = true
  · rw [if_pos h, if_pos h, if_pos h]
    unfold rdOk at h
    simp only [Bool.and_eq_true, decide_eq_true_eq] at h
    have o1 := rd_start h.1 h.2 hl wl wr wp
    have o2 := (RP.OkD.downs ps.length 0 o1 (by omega)).ok
    have hx := (rowAt_yes h.2).2
    have hrl := (isCk_parts h.1).2.1
    have o3 := o2.fill (a := l.length - 1) (by omega)
    have e1 := o3.l
    have e2 := o3.r
    have e3 := o3.p
    refine ⟨by simp; omega, by simp; omega, by show ((RP.downs _ ps.length 0 _).fill _).ps.length ≤ _; omega, fun x hx => o3.wl x (List.mem_of_mem_take hx), fun x hx => o3.wr x (List.mem_of_mem_take hx), o3.wp⟩
  · rw [if_neg h, if_neg h, if_neg h]
    exact ⟨hl, hr, hp, wl, wr, wp⟩

end Go.Proofs.Ytajfhalalnlejaa
