/- What IsCracker of the program returns: the whole column (promise 3). -/
import Derived.Test.YtepkkeclkdlheaaCkP
namespace Go.Proofs.Ytepkkeclkdlheaa
open Go.RowKit Go.ChangeShapes
set_option linter.unusedSimpArgs false
set_option linter.unusedVariables false
set_option maxRecDepth 100000

set_option maxHeartbeats 2000000 in
theorem iIsCk_any (v : Value) (l r : List Int) (ps : List Pv) (w : World) (B : Nat) (hv : Ck w B v l r ps) (hB : B ≤ w.heap.size) :
    Calls Try.prog 82 #[v] w (RetB1 w (isCk l r ps)) := by
  obtain ⟨a1, c1, a2, c2, a3, c3, rfl, i1, i2, i3⟩ := hv.form
  have X := hide (Kn.one w #[.slice a1 l.length c1, .slice a2 r.length c2, .slice a3 ps.length c3] 25)
  obtain ⟨w1, hw1⟩ : ∃ w1, w1 = w.alloc (.cells #[.slice a1 l.length c1, .slice a2 r.length c2, .slice a3 ps.length c3] 25) := ⟨_, rfl⟩
  rw [← hw1] at X
  have HI1 := hide (fun (W : World) (h : Below w.heap.size w W) => i1.below h hB)
  have HI2 := hide (fun (W : World) (h : Below w.heap.size w W) => i2.below h hB)
  have HV := hide (fun (W : World) (h : Below w.heap.size w W) => hv.below h hB)
  clear i1 i2 i3 hv
  obtain ⟨b0, hb0⟩ : ∃ b0, b0 = isCk l r ps := ⟨_, rfl⟩
  rw [← hb0]
  have HB := hide hb0
  clear hb0
  obtain ⟨t, ht⟩ : ∃ t, t = areVals l := ⟨_, rfl⟩
  obtain ⟨t2, ht2⟩ : ∃ t, t = rowsOk r := ⟨_, rfl⟩
  have HT := hide ht
  have HT2 := hide ht2
  clear ht ht2
  have d0 : w1.cell? ⟨w.heap.size, 0, none⟩ = some (.slice a1 l.length c1) := X.out.cell 0 0 rfl rfl
  go_enter Try.func82, Try.ntmps82
  go_wp2_with fail
  rw [← hw1]
  clear hw1
  go_at_call 76
  refine (iVals_same _ l _ B (HI1.out _ X.out.below)).mono ?_
  rintro e wa ⟨rfl, rfl⟩
  rw [← HT.out]
  have d1 : w1.cell? ⟨w.heap.size, 1, none⟩ = some (.slice a2 r.length c2) := X.out.cell 0 1 rfl rfl
  have d2 : w1.cell? ⟨w.heap.size, 2, none⟩ = some (.slice a3 ps.length c3) := X.out.cell 0 2 rfl rfl
  cases t
  · have hf := hide (show b0 = false by rw [HB.out]; unfold isCk; rw [← HT.out]; rfl)
    go_wp2_with fail
    go_ret
    exact ⟨by rw [hf.out]; rfl, X.out.below⟩
  · by_cases hne : r.length = l.length
    · have hd2 : ((r.length : Int) == (l.length : Int)) = true := by rw [beq_iff_eq]; omega
      have HN := hide hne
      clear hne
      go_wp2_with fail
      go_at_call 143
      refine (iDiff_any _ r _ B (HI2.out _ X.out.below) (Nat.le_trans hB X.out.below.size)).mono ?_
      rintro e wb ⟨rfl, hb⟩
      rw [← HT2.out]
      have X := hide (X.out.up hb)
      clear hb d0 d1 d2
      have d0 : wb.cell? ⟨w.heap.size, 0, none⟩ = some (.slice a1 l.length c1) := X.out.cell 0 0 rfl rfl
      have d1 : wb.cell? ⟨w.heap.size, 1, none⟩ = some (.slice a2 r.length c2) := X.out.cell 0 1 rfl rfl
      have d2 : wb.cell? ⟨w.heap.size, 2, none⟩ = some (.slice a3 ps.length c3) := X.out.cell 0 2 rfl rfl
      cases t2
      · have hf := hide (show b0 = false by rw [HB.out]; unfold isCk; rw [← HT2.out]; simp)
        go_wp2_with fail
        go_ret
        exact ⟨by rw [hf.out]; rfl, X.out.below⟩
      · have hf := hide (show b0 = pvsOk l ps by
          rw [HB.out]
          unfold isCk
          rw [← HT.out, ← HT2.out]
          simp [HN.out])
        go_wp2_with fail
        go_at_call 144
        refine (iHold_any _ l r ps _ B (HV.out _ X.out.below) (Nat.le_trans hB X.out.below.size)).mono ?_
        rintro e wc ⟨rfl, hb⟩
        rw [← hf.out]
        have X := hide (X.out.up hb)
        go_wp2_with fail
        go_ret
        exact ⟨rfl, X.out.below⟩
    · have hd2 : ((r.length : Int) == (l.length : Int)) = false := by rw [beq_eq_false_iff_ne]; omega
      have hf := hide (show b0 = false by rw [HB.out]; unfold isCk; rw [decide_eq_false hne]; simp)
      clear hne
      go_wp2_with fail
      go_ret
      exact ⟨by rw [hf.out]; rfl, X.out.below⟩

end Go.Proofs.Ytepkkeclkdlheaa
