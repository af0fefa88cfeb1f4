/- What IsCracker of the reference returns: the whole column (promise 3). -/
import Derived.Test.YtepkkeclkdlheaaCkS
namespace Go.Proofs.Ytepkkeclkdlheaa
open Go.RowKit Go.ChangeShapes
set_option linter.unusedSimpArgs false
set_option linter.unusedVariables false
set_option maxRecDepth 100000

theorem Ints.take {w : World} {B : Nat} {a : Option Addr} {n cap : Nat} {l : List Int} (h : Ints w B (.slice a n cap) l) (k cap' : Nat) (hk : k ≤ l.length) : Ints w B (.slice a k cap') (l.take k) := by
  obtain ⟨a', c', he, h1, h2, h3⟩ := h
  obtain ⟨rfl, -⟩ : a = a' ∧ cap = c' := by
    simp only [Value.slice.injEq] at he
    exact ⟨he.1, he.2.2⟩
  have hl : (l.take k).length = k := by simp; omega
  refine ⟨a, cap', by rw [hl], by omega, fun x hx => h2 x (List.mem_of_mem_take hx), fun j hj => ?_⟩
  obtain ⟨b, o, e, hb, hc⟩ := h3 j (by omega)
  exact ⟨b, o, e, hb, by rw [hc, List.getElem_take]⟩

/-- All rows before row i are as asked. -/
def RwPre (r : List Int) (k : Nat) : Prop := ∀ j (_ : j < k) (h : j < r.length), RowOk r j h

theorem rwPre_step {r : List Int} {k : Nat} (hp : RwPre r k) (hk : k < r.length) (h : RowOk r k hk) : RwPre r (k + 1) := by
  intro j hj h2
  by_cases e : j = k
  · subst e; exact h
  · exact hp j (by omega) h2
theorem rwPre_all {r : List Int} (hp : RwPre r r.length) : rowsOk r = true := rowsOk_iff.2 fun k h => hp k h h

theorem mem_take_iff {r : List Int} {k : Nat} (hk : k < r.length) : r[k] ∈ r.take k ↔ ∃ (j : Nat) (h : j < k), (r[j]'(by omega)) = r[k] := by
  rw [List.mem_iff_getElem]
  constructor
  · rintro ⟨j, hj, e⟩
    have : j < k := by simp at hj; omega
    exact ⟨j, this, by rw [← e, List.getElem_take]⟩
  · rintro ⟨j, hj, e⟩
    exact ⟨j, by simp; omega, by rw [← e, List.getElem_take]⟩

set_option maxHeartbeats 4000000 in
theorem sIsCk_any (v : Value) (l r : List Int) (ps : List Pv) (w : World) (B : Nat) (hv : Ck w B v l r ps) (hB : B ≤ w.heap.size) :
    Calls Try.prog 80 #[v] w (RetB1 w (isCk l r ps)) := by
  obtain ⟨a1, c1, a2, c2, a3, c3, rfl, i1, i2, i3⟩ := hv.form
  obtain ⟨hcap1, hcap2⟩ := hv.caps
  have X := hide (Kn.one w #[.slice a1 l.length c1, .slice a2 r.length c2, .slice a3 ps.length c3] 25)
  obtain ⟨w1, hw1⟩ : ∃ w1, w1 = w.alloc (.cells #[.slice a1 l.length c1, .slice a2 r.length c2, .slice a3 ps.length c3] 25) := ⟨_, rfl⟩
  rw [← hw1] at X
  have I1 := hide (fun (W : World) (h : Below w.heap.size w W) => i1.below h hB)
  have I2 := hide (fun (W : World) (h : Below w.heap.size w W) => i2.below h hB)
  have I3 := hide (fun (W : World) (h : Below w.heap.size w W) => i3.below h hB)
  have hl64 : l.length ≤ 9223372036854775807 := by obtain ⟨_, _, _, h, _⟩ := i1; exact h
  have hr64 : r.length ≤ 9223372036854775807 := by obtain ⟨_, _, _, h, _⟩ := i2; exact h
  clear i1 i2 i3 hv
  obtain ⟨b0, hb0⟩ : ∃ b0, b0 = isCk l r ps := ⟨_, rfl⟩
  rw [← hb0]
  have HB := hide hb0
  clear hb0
  have d0 : w1.cell? ⟨w.heap.size, 0, none⟩ = some (.slice a1 l.length c1) := X.out.cell 0 0 rfl rfl
  obtain ⟨t, ht⟩ : ∃ t, t = areVals l := ⟨_, rfl⟩
  have HT := hide ht
  go_enter Try.func80, Try.ntmps80
  go_wp2_with fail
  rw [← hw1]
  clear hw1 ht
  go_at_call 74
  refine (sVals_any _ l _ B (I1.out _ X.out.below)).mono ?_
  rintro e w2 ⟨rfl, hb⟩
  rw [← HT.out]
  have X := hide (X.out.up hb)
  clear hb d0
  have d0 : w2.cell? ⟨w.heap.size, 0, none⟩ = some (.slice a1 l.length c1) := X.out.cell 0 0 rfl rfl
  have d1 : w2.cell? ⟨w.heap.size, 1, none⟩ = some (.slice a2 r.length c2) := X.out.cell 0 1 rfl rfl
  cases t
  · have hf := hide (show b0 = false by rw [HB.out]; unfold isCk; rw [← HT.out]; rfl)
    go_wp2_with fail
    go_ret
    exact ⟨by rw [hf.out]; rfl, X.out.below⟩
  · by_cases hne : r.length = l.length
    · have hd : ((r.length : Int) != (l.length : Int)) = false := by rw [bne_eq_false_iff_eq]; omega
      have hd2 : ((r.length : Int) == (l.length : Int)) = true := by rw [beq_iff_eq]; omega
      have HN := hide hne
      clear hne
      go_wp2_with fail
      go_loopw [3] (fun i wr => ∃ (k : Nat), k ≤ r.length ∧ i = .int .i64 k ∧ Hid (RwPre r k) ∧ Hid (Kn w wr [(w.heap.size, #[.slice a1 l.length c1, .slice a2 r.length c2, .slice a3 ps.length c3], 25)])) (fun i _ => r.length - (intOf i).toNat)
      case atStart => exact ⟨0, by omega, rfl, fun j hj => by omega, X.out⟩
      case round =>
        obtain ⟨k, hk, rfl, hpre, Y⟩ := hrel
        have e1 : wr.cell? ⟨w.heap.size, 1, none⟩ = some (.slice a2 r.length c2) := Y.out.cell 0 1 rfl rfl
        clear d0 d1
        by_cases hlt : k < r.length
        · have i2 := I2.out _ Y.out.below
          obtain ⟨a', c', he, _, _, hcell⟩ := i2
          obtain ⟨rfl, rfl⟩ : a2 = a' ∧ c2 = c' := by
            simp only [Value.slice.injEq] at he
            exact ⟨he.1, he.2.2⟩
          obtain ⟨b, o, rfl, hbB, hc⟩ := hcell k hlt
          obtain ⟨y, hy⟩ : ∃ y, y = r[k] := ⟨_, rfl⟩
          rw [← hy] at hc
          have HY := hide hy
          clear he hcell hy
          have hcz : ¬ c2 = 0 := by omega
          by_cases q1 : 0 ≤ y ∧ y ≤ 999
          · have C1 := hide (fun (W : World) => same_back (in_yes y 0 999 W q1.1 q1.2))
            have C2 := hide (fun (q : Nat) => same_back (sHas_any (.slice (some ⟨b, o, none⟩) k c2) (r.take k) y (wr.drewN q) B (((I2.out _ Y.out.below).below (below_drewN (Below.refl B wr) q) (Nat.le_refl _)).take k c2 hk)))
            obtain ⟨m, hm⟩ : ∃ m, m = decide (y ∈ r.take k) := ⟨_, rfl⟩
            rw [← hm] at C2
            cases m
            · have hok := hide (rwPre_step hpre.out hlt ⟨by rw [← HY.out]; exact q1.1, by rw [← HY.out]; exact q1.2, fun j hj he => by
                have h1 := of_decide_eq_false hm.symm
                rw [HY.out] at h1
                exact h1 ((mem_take_iff hlt).2 ⟨j, hj, he⟩)⟩)
              clear q1 hm
              go_wp2_with fail
              go_quiet (first | (go_at_call 81; with_reducible exact Calls.quiet_of_same (C1.out _)) | (go_at_call 115; exact Calls.quiet_of_same (C2.out _)))
              go_wp2_with fail
              go_roundw
              case rel => exact ⟨k + 1, by omega, by go_num, hok, Y.out.drewN _⟩
              case measure => simp [intOf]; omega
            · have hf := hide (show b0 = false by
                rw [HB.out]
                unfold isCk
                have h1 := of_decide_eq_true hm.symm
                rw [HY.out] at h1
                obtain ⟨j, hj, he⟩ := (mem_take_iff hlt).1 h1
                rw [rows_bad hlt (fun h => h.2.2 j hj he)]
                simp)
              clear q1 hm
              go_wp2_with fail
              go_quiet (first | (go_at_call 81; with_reducible exact Calls.quiet_of_same (C1.out _)) | (go_at_call 115; exact Calls.quiet_of_same (C2.out _)))
              go_wp2_with fail
              go_ret
              exact ⟨by rw [hf.out]; rfl, (Y.out.drewN _).below⟩
          · have C1 := hide (fun (W : World) => same_back (in_no y 0 999 W (by omega)))
            have hf := hide (show b0 = false by
              rw [HB.out]
              unfold isCk
              rw [rows_bad hlt (fun h => q1 (by rw [HY.out]; exact ⟨h.1, h.2.1⟩))]
              simp)
            clear q1
            go_wp2_with fail
            go_quiet (first | (go_at_call 81; with_reducible exact Calls.quiet_of_same (C1.out _)))
            go_wp2_with fail
            go_ret
            exact ⟨by rw [hf.out]; rfl, (Y.out.drewN _).below⟩
        · have hke : k = r.length := by omega
          subst hke
          have e0 : wr.cell? ⟨w.heap.size, 0, none⟩ = some (.slice a1 l.length c1) := Y.out.cell 0 0 rfl rfl
          have e2 : wr.cell? ⟨w.heap.size, 2, none⟩ = some (.slice a3 ps.length c3) := Y.out.cell 0 2 rfl rfl
          have hf := hide (show b0 = pvsOk l ps by
            rw [HB.out]
            unfold isCk
            rw [← HT.out, rwPre_all hpre.out]
            simp [HN.out])
          go_wp2_with fail
          go_at_call 142
          refine (sPvs_any _ _ l ps _ B (I1.out _ Y.out.below) (I3.out _ Y.out.below) (Nat.le_trans hB Y.out.below.size) hl64).mono ?_
          rintro e w3 ⟨rfl, hb⟩
          rw [← hf.out]
          go_wp2_with fail
          go_ret
          exact ⟨rfl, (Y.out.up hb).below⟩
    · have hd : ((r.length : Int) != (l.length : Int)) = true := by rw [bne_iff_ne]; omega
      have hd2 : ((r.length : Int) == (l.length : Int)) = false := by rw [beq_eq_false_iff_ne]; omega
      have hf := hide (show b0 = false by rw [HB.out]; unfold isCk; rw [decide_eq_false hne]; simp)
      clear hne
      go_wp2_with fail
      go_ret
      exact ⟨by rw [hf.out]; rfl, X.out.below⟩

end Go.Proofs.Ytepkkeclkdlheaa
