/- What IsPending of the program returns (gen_ipd.py; promise 7). -/
import Derived.Test.YtajfhalalnlejaaPdN
import Derived.Test.YtajfhalalnlejaaWd
import Derived.Test.YtajfhalalnlejaaWiI
import Derived.Test.YtajfhalalnlejaaCkQ
namespace Go.Proofs.Ytajfhalalnlejaa
open Go.RowKit Go.ChangeShapes
set_option linter.unusedSimpArgs false
set_option linter.unusedVariables false
set_option maxRecDepth 100000

set_option maxHeartbeats 8000000 in
theorem iIsPd_any (v u : Value) (l r : List Int) (ps : List Pv) (ins : List Pv) (de : List Int) (w : World) (B : Nat) (hv : Ck w B v l r ps) (hu : Pd w B u ins de) (hB : B ≤ w.heap.size) (hl : l.length ≤ 1048576) (hr : r.length ≤ 1048576) (hi : ins.length ≤ 1048577) :
    Calls Try.prog 40 #[v, u] w (RetB1 w (isPd l r ps ins de)) := by
  obtain ⟨a1, c1, a2, c2, a3, c3, rfl, -⟩ := hv.form
  obtain ⟨b1, k1, b2, k2, rfl, i1, i2⟩ := hu.form
  have hwc := hv.wf
  have hwp := hu.wf
  have hde : de.length ≤ 9223372036854775807 := by obtain ⟨_, _, _, h, _⟩ := i2; exact h
  have X := hide (Kn.two w #[.slice a1 l.length c1, .slice a2 r.length c2, .slice a3 ps.length c3] #[.slice b1 ins.length k1, .slice b2 de.length k2] 27 70)
  obtain ⟨w1, hw1⟩ : ∃ w1, w1 = (w.alloc (.cells #[.slice a1 l.length c1, .slice a2 r.length c2, .slice a3 ps.length c3] 27)).alloc (.cells #[.slice b1 ins.length k1, .slice b2 de.length k2] 70) := ⟨_, rfl⟩
  rw [← hw1] at X
  have V := hide (fun (W : World) (h : Below w.heap.size w W) => hv.below h hB)
  have I1 := hide (fun (W : World) (h : Below w.heap.size w W) => i1.below h hB)
  have I2 := hide (fun (W : World) (h : Below w.heap.size w W) => i2.below h hB)
  clear hv hu i1 i2
  obtain ⟨b0, hb0⟩ : ∃ b0, b0 = isPd l r ps ins de := ⟨_, rfl⟩
  rw [← hb0]
  have HB0 := hide hb0
  clear hb0
  obtain ⟨t, ht⟩ : ∃ t, t = isCk l r ps := ⟨_, rfl⟩
  have HT := hide ht
  have d0 : w1.cell? ⟨w.heap.size, 0, none⟩ = some (.slice a1 l.length c1) := X.out.cell 0 0 rfl rfl
  have d1 : w1.cell? ⟨w.heap.size, 1, none⟩ = some (.slice a2 r.length c2) := X.out.cell 0 1 rfl rfl
  have d2 : w1.cell? ⟨w.heap.size, 2, none⟩ = some (.slice a3 ps.length c3) := X.out.cell 0 2 rfl rfl
  go_enter Try.func40, Try.ntmps40
  rw [hw1] at d0 d1 d2
  go_wp2_with fail
  rw [← hw1]
  clear hw1 ht d0 d1 d2
  go_at_call 30
  refine (iIsCk_any _ l r ps _ B (V.out _ X.out.below) (Nat.le_trans hB X.out.below.size)).mono ?_
  rintro e w2 ⟨rfl, hb⟩
  rw [← HT.out]
  have X := hide (X.out.up hb)
  clear hb
  cases t
  · have hf := hide (show b0 = false by rw [HB0.out]; unfold isPd; rw [← HT.out]; rfl)
    go_wp2_with fail
    go_ret
    exact ⟨by rw [hf.out]; rfl, X.out.below⟩
  have e0 : w2.cell? ⟨w.heap.size + 1, 0, none⟩ = some (.slice b1 ins.length k1) := X.out.cell 1 0 rfl rfl
  have e1 : w2.cell? ⟨w.heap.size + 1, 1, none⟩ = some (.slice b2 de.length k2) := X.out.cell 1 1 rfl rfl
  by_cases hs : ins.length ≤ 20 ∧ de.length ≤ 20
  rotate_left
  · have hf := hide (show b0 = false by rw [HB0.out]; unfold isPd; rw [show pdSz l ins de = false by unfold pdSz; simp only [Bool.and_eq_false_iff, decide_eq_false_iff_not]; omega]; simp)
    by_cases s1 : ins.length ≤ 20
    · have t1 : decide (20 < ins.length) = false := decide_eq_false (by omega)
      have t1' : decide ((20 : Int) < (ins.length : Int)) = false := decide_eq_false (by omega)
      have t2 : decide (20 < de.length) = true := decide_eq_true (by omega)
      have t2' : decide ((20 : Int) < (de.length : Int)) = true := decide_eq_true (by omega)
      clear hs s1
      go_wp2_with fail
      go_ret
      exact ⟨by rw [hf.out]; rfl, X.out.below⟩
    · have t1 : decide (20 < ins.length) = true := decide_eq_true (by omega)
      have t1' : decide ((20 : Int) < (ins.length : Int)) = true := decide_eq_true (by omega)
      clear hs s1
      go_wp2_with fail
      go_ret
      exact ⟨by rw [hf.out]; rfl, X.out.below⟩
  obtain ⟨s1, s2⟩ := hs
  have HS := hide (isPd_i (l := l) (r := r) (ps := ps) (ins := ins) (de := de) HT.out.symm s1 s2)
  have t1 : decide (20 < ins.length) = false := decide_eq_false (by omega)
  have t1' : decide ((20 : Int) < (ins.length : Int)) = false := decide_eq_false (by omega)
  have t2 : decide (20 < de.length) = false := decide_eq_false (by omega)
  have t2' : decide ((20 : Int) < (de.length : Int)) = false := decide_eq_false (by omega)
  have d0 : w2.cell? ⟨w.heap.size, 0, none⟩ = some (.slice a1 l.length c1) := X.out.cell 0 0 rfl rfl
  have d1 : w2.cell? ⟨w.heap.size, 1, none⟩ = some (.slice a2 r.length c2) := X.out.cell 0 1 rfl rfl
  have d2 : w2.cell? ⟨w.heap.size, 2, none⟩ = some (.slice a3 ps.length c3) := X.out.cell 0 2 rfl rfl
  obtain ⟨bd, hbd⟩ : ∃ q, q = desOk r de := ⟨_, rfl⟩
  have HBD := hide hbd
  go_wp2_with fail
  clear d0 d1 d2 e0 e1 t1 t1' t2 t2' hbd
  go_at_call 89
  refine (iWd_any _ _ l r ps de _ B (V.out _ X.out.below) (I2.out _ X.out.below) (Nat.le_trans hB X.out.below.size) (isCk_parts HT.out.symm).2.1 hr).mono ?_
  rintro e w3 ⟨m, rfl, hb⟩
  rw [← HBD.out]
  have X := hide (X.out.up hb)
  clear hb
  cases bd
  · have hf := hide (show b0 = false by rw [HB0.out, HS.out, ← HBD.out]; rfl)
    go_wp2_with fail
    go_ret
    exact ⟨by rw [hf.out]; rfl, X.out.below⟩
  have d0 : w3.cell? ⟨w.heap.size, 0, none⟩ = some (.slice a1 l.length c1) := X.out.cell 0 0 rfl rfl
  have d1 : w3.cell? ⟨w.heap.size, 1, none⟩ = some (.slice a2 r.length c2) := X.out.cell 0 1 rfl rfl
  have d2 : w3.cell? ⟨w.heap.size, 2, none⟩ = some (.slice a3 ps.length c3) := X.out.cell 0 2 rfl rfl
  have e0 : w3.cell? ⟨w.heap.size + 1, 0, none⟩ = some (.slice b1 ins.length k1) := X.out.cell 1 0 rfl rfl
  go_wp2_with fail
  clear d0 d1 d2 e0
  go_at_call 90
  refine (iWi_any _ _ l r ps ins _ B (V.out _ X.out.below) (I1.out _ X.out.below) (Nat.le_trans hB X.out.below.size) hl hr hi).mono ?_
  rintro e w4 ⟨q, rfl, OQ, hb⟩
  have X := hide (X.out.up hb)
  have hck := OQ.rd (show CkWf (l ++ ins.map (·.1)) (r ++ ins.map (·.2)) [] from ⟨fun x hx => by
      rcases List.mem_append.1 hx with hx | hx
      · exact hwc.1 x hx
      · obtain ⟨p, hp, rfl⟩ := List.mem_map.1 hx
        exact (hwp.1.2 p hp).1, fun x hx => by
      rcases List.mem_append.1 hx with hx | hx
      · exact hwc.2.1 x hx
      · obtain ⟨p, hp, rfl⟩ := List.mem_map.1 hx
        exact (hwp.1.2 p hp).2, by simp, by simp⟩)
  obtain ⟨l2, hl2⟩ : ∃ q, q = l ++ ins.map (·.1) := ⟨_, rfl⟩
  obtain ⟨r2, hr2⟩ : ∃ q, q = r ++ ins.map (·.2) := ⟨_, rfl⟩
  rw [← hl2, ← hr2] at hck HS
  clear hb OQ hl2 hr2
  obtain ⟨x1, y1, x2, y2, x3, y3, rfl, -⟩ := hck.form
  have HCK := hide hck
  obtain ⟨bk, hbk⟩ : ∃ q, q = isCk l2 r2 [] := ⟨_, rfl⟩
  have HBK := hide hbk
  clear hck hbk
  go_wp2_with fail
  go_at_call 30
  refine (iIsCk_any _ l2 r2 [] _ _ HCK.out (Nat.le_refl _)).mono ?_
  rintro e w5 ⟨rfl, hb⟩
  rw [← HBK.out]
  have X := hide (X.out.up hb)
  have hf := hide (show b0 = bk by rw [HB0.out, HS.out, ← HBD.out, ← HBK.out]; rfl)
  clear hb
  go_wp2_with fail
  go_ret
  exact ⟨by rw [hf.out]; rfl, X.out.below⟩

end Go.Proofs.Ytajfhalalnlejaa
