/- The law FnExactNewMap holds: whatever the arguments, the call returns true, and they read afterwards as before. -/
import Derived.Test.YtepkkeclkdlheaaRows
import Derived.WalkKit
import Derived.ProofKit
import Derived.OpenShut
import Derived.ShutString
import Derived.ChangeOld
import Derived.Below
import Derived.Test.YtepkkeclkdlheaaMpN
import Derived.Test.YtepkkeclkdlheaaOck
namespace Go.Proofs.Ytepkkeclkdlheaa.fnExactNewMap
open Go.ChangeShapes Go.WideShapes Go.ChangeAt Go.RowKit
open Go.ChangeMaps (open_string shut_string)
set_option linter.unusedVariables false
set_option linter.unusedSimpArgs false

theorem own : ownKnob Try.prog.godebug = none := by kernel_rfl
theorem laidOut : laidOutB Try.prog = true := by kernel_rfl

set_option maxRecDepth 100000 in
set_option maxHeartbeats 40000000 in
theorem walk (w : World) (v0 : Value) (w0' : ∃ p0x, Ints w w.heap.size v0 p0x) (v1 : Value) (w1' : ∃ p1x, Ints w w.heap.size v1 p1x) :
    Calls Try.prog 3 #[v0, v1] w fun e w' => e = .returned (.bool true) ∧ Below w.heap.size w w' := by
  obtain ⟨p0x, hv0⟩ := w0'
  obtain ⟨s00, c00, rfl⟩ := hv0.form
  have hwf0 : IntsWf p0x := by obtain ⟨_, _, _, _, h, _⟩ := hv0; exact h
  have V0 := hide hv0
  clear hv0
  obtain ⟨p1x, hv1⟩ := w1'
  obtain ⟨s10, c10, rfl⟩ := hv1.form
  have hwf1 : IntsWf p1x := by obtain ⟨_, _, _, _, h, _⟩ := hv1; exact h
  have V1 := hide hv1
  clear hv1
  have X := hide (Kn.start w)
  have N0 := hide (Nat.le_refl w.heap.size)
  by_cases hlen0 : (1048576 : Int) < (p0x.length : Int)
  · have bl0 : decide ((1048576 : Int) < (p0x.length : Int)) = true := by simp; omega
    go_enter Try.func3, Try.ntmps3
    go_wp2_with fail
    go_ret
    exact ⟨rfl, by exact X.out.below⟩
  have hbigs0 : p0x.length ≤ 1048576 := by omega
  have bl0 : decide ((1048576 : Int) < (p0x.length : Int)) = false := by simp; omega
  clear hlen0
  by_cases hlen1 : (1048576 : Int) < (p1x.length : Int)
  · have bl1 : decide ((1048576 : Int) < (p1x.length : Int)) = true := by simp; omega
    go_enter Try.func3, Try.ntmps3
    go_wp2_with fail
    go_ret
    exact ⟨rfl, by exact X.out.below⟩
  have hbigs1 : p1x.length ≤ 1048576 := by omega
  have bl1 : decide ((1048576 : Int) < (p1x.length : Int)) = false := by simp; omega
  clear hlen1
  · skip
    have T0 := hide (fun (W : World) (h : Below w.heap.size w W) => toIntS_o _ p0x W w.heap.size (V0.out.below h (Nat.le_refl _)) h.size (by omega))
    have T1 := hide (fun (W : World) (h : Below w.heap.size w W) => toIntS_o _ p1x W w.heap.size (V1.out.below h (Nat.le_refl _)) h.size (by omega))
    have hR0 : ((nmL p0x p1x).length ≤ 4000000 ∧ (nmR p0x p1x).length ≤ 4000000 ∧ (([] : List Pv)).length ≤ 4000000 ∧ (nmT p0x p1x).length ≤ 4000000) ∧ MpWf (nmL p0x p1x) (nmR p0x p1x) (([] : List Pv)) (nmT p0x p1x) (0) := nm_wf hbigs0 hbigs1 hwf0 hwf1
    have HSP := hide (fun (W : World) (v0 : Value) (k0 : InC W W.heap.size v0 p0x) (v1 : Value) (k1 : InC W W.heap.size v1 p1x) => show Calls Try.prog 15 #[v0, v1] W (fun e w' => ∃ u0, e = .returned (u0) ∧ MpO w' u0 (nmL p0x p1x) (nmR p0x p1x) (([] : List Pv)) (nmT p0x p1x) (0) W.heap.size w'.heap.size ∧ Below W.heap.size W w') from sNewMp_any v0 v1 p0x p1x W W.heap.size k0.1 k0.2 k1.1 k1.2 (Nat.le_refl _))
    have HIP := hide (fun (W : World) (v0 : Value) (k0 : InC W W.heap.size v0 p0x) (v1 : Value) (k1 : InC W W.heap.size v1 p1x) => show Calls Try.prog 17 #[v0, v1] W (fun e w' => ∃ u0, e = .returned (u0) ∧ MpO w' u0 (nmL p0x p1x) (nmR p0x p1x) (([] : List Pv)) (nmT p0x p1x) (0) W.heap.size w'.heap.size ∧ Below W.heap.size W w') from iNewMp_any v0 v1 p0x p1x W W.heap.size k0.1 k0.2 k1.1 k1.2 (Nat.le_refl _))
    obtain ⟨r0x, hq⟩ : ∃ q : List Int, q = nmL p0x p1x := ⟨_, rfl⟩
    rw [← hq] at HSP HIP hR0
    clear hq
    obtain ⟨r0y, hq⟩ : ∃ q : List Int, q = nmR p0x p1x := ⟨_, rfl⟩
    rw [← hq] at HSP HIP hR0
    clear hq
    obtain ⟨r0z, hq⟩ : ∃ q : List Pv, q = ([] : List Pv) := ⟨_, rfl⟩
    rw [← hq] at HSP HIP hR0
    clear hq
    obtain ⟨r0t, hq⟩ : ∃ q : List Int, q = nmT p0x p1x := ⟨_, rfl⟩
    rw [← hq] at HSP HIP hR0
    clear hq
    obtain ⟨⟨hl00, hl01, hl02, hl03⟩, hRw0⟩ := hR0
    have RD0 := hide (fun (W : World) (v : Value) (lo hi : Nat) (h : MpO W v r0x r0y r0z r0t 0 lo hi) => h.rd hRw0)
    have PD0 := hide (fun (W : World) (v : Value) (lo hi : Nat) (h : Oin W v p0x lo hi) => h.rdc hwf0)
    have PD1 := hide (fun (W : World) (v : Value) (lo hi : Nat) (h : Oin W v p1x lo hi) => h.rdc hwf1)
    obtain ⟨A0, hA0⟩ : ∃ q : Int, q = 1 + (p0x.length : Int) := ⟨_, rfl⟩
    have HA0 := hide (fun (W : World) (v : Value) (lo hi : Nat) (h : Oin W v p0x lo hi) => show Calls Try.prog 20 #[v, .int .i64 (1)] W (RetMOin W v (mkI (1) p0x.length) lo hi A0) by rw [hA0]; exact markIntS_o v p0x lo hi (1) W h (by omega) (by omega))
    obtain ⟨A1, hA1⟩ : ∃ q : Int, q = A0 + (p1x.length : Int) := ⟨_, rfl⟩
    have HA1 := hide (fun (W : World) (v : Value) (lo hi : Nat) (h : Oin W v p1x lo hi) => show Calls Try.prog 20 #[v, .int .i64 (A0)] W (RetMOin W v (mkI (A0) p1x.length) lo hi A1) by rw [hA1]; exact markIntS_o v p1x lo hi (A0) W h (by omega) (by omega))
    have hAn : decide (A1 < 0) = false := by simp; omega
    obtain ⟨M0, hM0⟩ : ∃ q : Int, q = 1 + (r0x.length : Int) + (r0y.length : Int) + 2 * (r0z.length : Int) + (r0t.length : Int) := ⟨_, rfl⟩
    have HM0 := hide (fun (W : World) (v : Value) (lo hi : Nat) (h : MpO W v r0x r0y r0z r0t 0 lo hi) => show Calls Try.prog 21 #[v, .int .i64 (1)] W (RetMMpO W v (mkI (1) r0x.length) (mkI (1 + (r0x.length : Int)) r0y.length) (mkP (1 + (r0x.length : Int) + (r0y.length : Int)) r0z.length) (mkI (1 + (r0x.length : Int) + (r0y.length : Int) + 2 * (r0z.length : Int)) r0t.length) 0 lo hi M0) by rw [hM0]; exact markMap_o v r0x r0y r0z r0t 0 lo hi (1) W h (by omega) (by omega))
    have HH0 := hide (fun (W : World) (v : Value) (lo hi : Nat) (h : MpO W v (mkI (1) r0x.length) (mkI (1 + (r0x.length : Int)) r0y.length) (mkP (1 + (r0x.length : Int) + (r0y.length : Int)) r0z.length) (mkI (1 + (r0x.length : Int) + (r0y.length : Int) + 2 * (r0z.length : Int)) r0t.length) 0 lo hi) => show Calls Try.prog 22 #[v, .int .i64 (1)] W (RetI1 W M0) by rw [hM0]; exact heldMap_o v r0x.length r0y.length r0z.length r0t.length 0 lo hi (1) W h (by omega) (by omega))
    have hMn0 : decide (M0 < 0) = false := by simp; omega
    have hMM : (M0 != M0) = false := by simp
    clear hA0 hA1 hM0 hwf0 hwf1 hRw0 hl00 hl01 hl02 hl03
    go_enter Try.func3, Try.ntmps3
    go_wp2_with fail
    go_at_call 16
    refine (T0.out _ X.out.below).mono ?_
    rintro e u1 ⟨vv, rfl, Cy0, hb⟩
    obtain ⟨gy00, ky00, hf⟩ := Cy0.form
    subst hf
    obtain ⟨loy0, hlo⟩ : ∃ q, q = w.heap.size := ⟨_, rfl⟩
    obtain ⟨hiy0, hhi⟩ : ∃ q, q = u1.heap.size := ⟨_, rfl⟩
    have hw : w.heap.size ≤ loy0 := by omega
    have NXy0a := hide hw
    have hw : hiy0 ≤ u1.heap.size := by omega
    have NXy0b := hide hw
    rw [← hlo, ← hhi] at Cy0
    have Cy0 := hide Cy0
    clear hw hlo hhi
    have X := hide (X.out.up hb)
    have NN0 := hide (hb.size)
    clear hb
    go_wp2_with fail
    go_at_call 16
    refine (T1.out _ X.out.below).mono ?_
    rintro e u2 ⟨vv, rfl, Cy1, hb⟩
    obtain ⟨gy10, ky10, hf⟩ := Cy1.form
    subst hf
    obtain ⟨loy1, hlo⟩ : ∃ q, q = u1.heap.size := ⟨_, rfl⟩
    obtain ⟨hiy1, hhi⟩ : ∃ q, q = u2.heap.size := ⟨_, rfl⟩
    have hw : u1.heap.size ≤ loy1 := by omega
    have NXy1a := hide hw
    have hw : hiy1 ≤ u2.heap.size := by omega
    have NXy1b := hide hw
    rw [← hlo, ← hhi] at Cy1
    have Cy1 := hide Cy1
    clear hw hlo hhi
    have X := hide (X.out.up hb)
    have Cy0 := hide (Cy0.out.below hb)
    have NN3 := hide (hb.size)
    clear hb
    go_wp2_with fail
    go_at_call 15
    refine (HSP.out _ _ (PD0.out _ _ _ _ Cy0.out) _ (PD1.out _ _ _ _ Cy1.out)).mono ?_
    rintro e u3 ⟨vv, rfl, CA0, hb⟩
    obtain ⟨gA00, kA00, gA01, kA01, gA02, kA02, gA03, kA03, hf⟩ := CA0.form
    subst hf
    obtain ⟨loA0, hlo⟩ : ∃ q, q = u2.heap.size := ⟨_, rfl⟩
    obtain ⟨hiA0, hhi⟩ : ∃ q, q = u3.heap.size := ⟨_, rfl⟩
    have hw : u2.heap.size ≤ loA0 := by omega
    have NXA0a := hide hw
    have hw : hiA0 ≤ u3.heap.size := by omega
    have NXA0b := hide hw
    rw [← hlo, ← hhi] at CA0
    have CA0 := hide CA0
    clear hw hlo hhi
    have X := hide (X.out.up hb)
    have Cy0 := hide (Cy0.out.below hb)
    have Cy1 := hide (Cy1.out.below hb)
    have NN6 := hide (hb.size)
    clear hb
    have hbl := below1 u3 (.cells #[.slice gA00 r0x.length kA00, .slice gA01 r0y.length kA01, .slice gA02 r0z.length kA02, .slice gA03 r0t.length kA03, .int .i64 0] 27)
    have X := hide (X.out.alloc #[.slice gA00 r0x.length kA00, .slice gA01 r0y.length kA01, .slice gA02 r0z.length kA02, .slice gA03 r0t.length kA03, .int .i64 0] 27)
    have Cy0 := hide (Cy0.out.below hbl)
    have Cy1 := hide (Cy1.out.below hbl)
    have CA0 := hide (CA0.out.below hbl)
    clear hbl
    obtain ⟨u4, hu4⟩ : ∃ q, q = u3.alloc (.cells #[.slice gA00 r0x.length kA00, .slice gA01 r0y.length kA01, .slice gA02 r0z.length kA02, .slice gA03 r0t.length kA03, .int .i64 0] 27) := ⟨_, rfl⟩
    obtain ⟨bxA0, hbxA0⟩ : ∃ q, q = u3.heap.size := ⟨_, rfl⟩
    have NN9 := hide (show bxA0 = u3.heap.size ∧ u4.heap.size = u3.heap.size + 1 by rw [hu4, hbxA0]; simp)
    rw [← hu4] at X Cy0 Cy1 CA0
    rw [← hbxA0] at X
    simp only [List.cons_append, List.nil_append] at X
    clear Cy0
    clear Cy1
    go_wp2_with fail
    rw [← hu4]
    try rw [← hbxA0]
    clear hu4 hbxA0
    go_at_call 16
    refine (T0.out _ X.out.below).mono ?_
    rintro e u5 ⟨vv, rfl, Cx0, hb⟩
    obtain ⟨gx00, kx00, hf⟩ := Cx0.form
    subst hf
    obtain ⟨lox0, hlo⟩ : ∃ q, q = u4.heap.size := ⟨_, rfl⟩
    obtain ⟨hix0, hhi⟩ : ∃ q, q = u5.heap.size := ⟨_, rfl⟩
    have hw : u4.heap.size ≤ lox0 := by omega
    have NXx0a := hide hw
    have hw : hix0 ≤ u5.heap.size := by omega
    have NXx0b := hide hw
    rw [← hlo, ← hhi] at Cx0
    have Cx0 := hide Cx0
    clear hw hlo hhi
    have X := hide (X.out.up hb)
    have CA0 := hide (CA0.out.below hb)
    have NN10 := hide (hb.size)
    clear hb
    go_wp2_with fail
    go_at_call 16
    refine (T1.out _ X.out.below).mono ?_
    rintro e u6 ⟨vv, rfl, Cx1, hb⟩
    obtain ⟨gx10, kx10, hf⟩ := Cx1.form
    subst hf
    obtain ⟨lox1, hlo⟩ : ∃ q, q = u5.heap.size := ⟨_, rfl⟩
    obtain ⟨hix1, hhi⟩ : ∃ q, q = u6.heap.size := ⟨_, rfl⟩
    have hw : u5.heap.size ≤ lox1 := by omega
    have NXx1a := hide hw
    have hw : hix1 ≤ u6.heap.size := by omega
    have NXx1b := hide hw
    rw [← hlo, ← hhi] at Cx1
    have Cx1 := hide Cx1
    clear hw hlo hhi
    have X := hide (X.out.up hb)
    have CA0 := hide (CA0.out.below hb)
    have Cx0 := hide (Cx0.out.below hb)
    have NN13 := hide (hb.size)
    clear hb
    go_wp2_with fail
    go_at_call 17
    refine (HIP.out _ _ (PD0.out _ _ _ _ Cx0.out) _ (PD1.out _ _ _ _ Cx1.out)).mono ?_
    rintro e u7 ⟨vv, rfl, CG0, hb⟩
    obtain ⟨gG00, kG00, gG01, kG01, gG02, kG02, gG03, kG03, hf⟩ := CG0.form
    subst hf
    obtain ⟨loG0, hlo⟩ : ∃ q, q = u6.heap.size := ⟨_, rfl⟩
    obtain ⟨hiG0, hhi⟩ : ∃ q, q = u7.heap.size := ⟨_, rfl⟩
    have hw : u6.heap.size ≤ loG0 := by omega
    have NXG0a := hide hw
    have hw : hiG0 ≤ u7.heap.size := by omega
    have NXG0b := hide hw
    rw [← hlo, ← hhi] at CG0
    have CG0 := hide CG0
    clear hw hlo hhi
    have X := hide (X.out.up hb)
    have CA0 := hide (CA0.out.below hb)
    have Cx0 := hide (Cx0.out.below hb)
    have Cx1 := hide (Cx1.out.below hb)
    have NN16 := hide (hb.size)
    clear hb
    have hbl := below1 u7 (.cells #[.slice gG00 r0x.length kG00, .slice gG01 r0y.length kG01, .slice gG02 r0z.length kG02, .slice gG03 r0t.length kG03, .int .i64 0] 27)
    have X := hide (X.out.alloc #[.slice gG00 r0x.length kG00, .slice gG01 r0y.length kG01, .slice gG02 r0z.length kG02, .slice gG03 r0t.length kG03, .int .i64 0] 27)
    have CA0 := hide (CA0.out.below hbl)
    have Cx0 := hide (Cx0.out.below hbl)
    have Cx1 := hide (Cx1.out.below hbl)
    have CG0 := hide (CG0.out.below hbl)
    clear hbl
    obtain ⟨u8, hu8⟩ : ∃ q, q = u7.alloc (.cells #[.slice gG00 r0x.length kG00, .slice gG01 r0y.length kG01, .slice gG02 r0z.length kG02, .slice gG03 r0t.length kG03, .int .i64 0] 27) := ⟨_, rfl⟩
    obtain ⟨bxG0, hbxG0⟩ : ∃ q, q = u7.heap.size := ⟨_, rfl⟩
    have NN19 := hide (show bxG0 = u7.heap.size ∧ u8.heap.size = u7.heap.size + 1 by rw [hu8, hbxG0]; simp)
    rw [← hu8] at X CA0 Cx0 Cx1 CG0
    rw [← hbxG0] at X
    simp only [List.cons_append, List.nil_append] at X
    have c1_0 : u8.cell? ⟨bxG0, 0, none⟩ = some (.slice gG00 r0x.length kG00) := X.out.cell 1 0 rfl rfl
    have c1_1 : u8.cell? ⟨bxG0, 1, none⟩ = some (.slice gG01 r0y.length kG01) := X.out.cell 1 1 rfl rfl
    have c1_2 : u8.cell? ⟨bxG0, 2, none⟩ = some (.slice gG02 r0z.length kG02) := X.out.cell 1 2 rfl rfl
    have c1_3 : u8.cell? ⟨bxG0, 3, none⟩ = some (.slice gG03 r0t.length kG03) := X.out.cell 1 3 rfl rfl
    have c1_4 : u8.cell? ⟨bxG0, 4, none⟩ = some (.int .i64 0) := X.out.cell 1 4 rfl rfl
    have c0_0 : u8.cell? ⟨bxA0, 0, none⟩ = some (.slice gA00 r0x.length kA00) := X.out.cell 0 0 rfl rfl
    have c0_1 : u8.cell? ⟨bxA0, 1, none⟩ = some (.slice gA01 r0y.length kA01) := X.out.cell 0 1 rfl rfl
    have c0_2 : u8.cell? ⟨bxA0, 2, none⟩ = some (.slice gA02 r0z.length kA02) := X.out.cell 0 2 rfl rfl
    have c0_3 : u8.cell? ⟨bxA0, 3, none⟩ = some (.slice gA03 r0t.length kA03) := X.out.cell 0 3 rfl rfl
    have c0_4 : u8.cell? ⟨bxA0, 4, none⟩ = some (.int .i64 0) := X.out.cell 0 4 rfl rfl
    rw [hu8] at c1_0 c1_1 c1_2 c1_3 c1_4 c0_0 c0_1 c0_2 c0_3 c0_4
    go_wp2_with fail
    rw [← hu8]
    try rw [← hbxG0]
    clear hu8 hbxG0
    clear c1_0 c1_1 c1_2 c1_3 c1_4 c0_0 c0_1 c0_2 c0_3 c0_4
    go_at_call 18
    refine (eqMap_same _ _ r0x r0y r0z r0t 0 _ _ (Nat.le_refl _) (RD0.out _ _ _ _ CG0.out) (RD0.out _ _ _ _ CA0.out)).mono ?_
    rintro e u9 ⟨rfl, hb⟩
    have X := hide (X.out.up hb)
    have CA0 := hide (CA0.out.below hb)
    have Cx0 := hide (Cx0.out.below hb)
    have Cx1 := hide (Cx1.out.below hb)
    have CG0 := hide (CG0.out.below hb)
    have NN20 := hide (hb.size)
    clear hb
    go_wp2_with fail
    go_at_call 16
    refine (T0.out _ X.out.below).mono ?_
    rintro e u10 ⟨vv, rfl, Ce0, hb⟩
    obtain ⟨ge00, ke00, hf⟩ := Ce0.form
    subst hf
    obtain ⟨loe0, hlo⟩ : ∃ q, q = u9.heap.size := ⟨_, rfl⟩
    obtain ⟨hie0, hhi⟩ : ∃ q, q = u10.heap.size := ⟨_, rfl⟩
    have hw : u9.heap.size ≤ loe0 := by omega
    have NXe0a := hide hw
    have hw : hie0 ≤ u10.heap.size := by omega
    have NXe0b := hide hw
    rw [← hlo, ← hhi] at Ce0
    have Ce0 := hide Ce0
    clear hw hlo hhi
    have X := hide (X.out.up hb)
    have CA0 := hide (CA0.out.below hb)
    have Cx0 := hide (Cx0.out.below hb)
    have Cx1 := hide (Cx1.out.below hb)
    have CG0 := hide (CG0.out.below hb)
    have NN21 := hide (hb.size)
    clear hb
    go_wp2_with fail
    go_at_call 19
    refine (eqIntS_same _ _ p0x _ _ (Nat.le_refl _) (PD0.out _ _ _ _ Cx0.out).1 (PD0.out _ _ _ _ Ce0.out).1).mono ?_
    rintro e u11 ⟨rfl, hb⟩
    have X := hide (X.out.up hb)
    have CA0 := hide (CA0.out.below hb)
    have Cx0 := hide (Cx0.out.below hb)
    have Cx1 := hide (Cx1.out.below hb)
    have CG0 := hide (CG0.out.below hb)
    have Ce0 := hide (Ce0.out.below hb)
    have NN24 := hide (hb.size)
    clear hb
    clear Ce0
    go_wp2_with fail
    go_at_call 16
    refine (T1.out _ X.out.below).mono ?_
    rintro e u12 ⟨vv, rfl, Ce1, hb⟩
    obtain ⟨ge10, ke10, hf⟩ := Ce1.form
    subst hf
    obtain ⟨loe1, hlo⟩ : ∃ q, q = u11.heap.size := ⟨_, rfl⟩
    obtain ⟨hie1, hhi⟩ : ∃ q, q = u12.heap.size := ⟨_, rfl⟩
    have hw : u11.heap.size ≤ loe1 := by omega
    have NXe1a := hide hw
    have hw : hie1 ≤ u12.heap.size := by omega
    have NXe1b := hide hw
    rw [← hlo, ← hhi] at Ce1
    have Ce1 := hide Ce1
    clear hw hlo hhi
    have X := hide (X.out.up hb)
    have CA0 := hide (CA0.out.below hb)
    have Cx0 := hide (Cx0.out.below hb)
    have Cx1 := hide (Cx1.out.below hb)
    have CG0 := hide (CG0.out.below hb)
    have NN25 := hide (hb.size)
    clear hb
    go_wp2_with fail
    go_at_call 19
    refine (eqIntS_same _ _ p1x _ _ (Nat.le_refl _) (PD1.out _ _ _ _ Cx1.out).1 (PD1.out _ _ _ _ Ce1.out).1).mono ?_
    rintro e u13 ⟨rfl, hb⟩
    have X := hide (X.out.up hb)
    have CA0 := hide (CA0.out.below hb)
    have Cx0 := hide (Cx0.out.below hb)
    have Cx1 := hide (Cx1.out.below hb)
    have CG0 := hide (CG0.out.below hb)
    have Ce1 := hide (Ce1.out.below hb)
    have NN28 := hide (hb.size)
    clear hb
    clear Ce1
    go_wp2_with fail
    go_at_call 20
    refine (HA0.out _ _ _ _ Cx0.out).mono ?_
    rintro e u14 ⟨rfl, ho, s⟩
    have qNN0 := NN0.out
    have qNXy0a := NXy0a.out
    have qNXy0b := NXy0b.out
    have qNN3 := NN3.out
    have qNXy1a := NXy1a.out
    have qNXy1b := NXy1b.out
    have qNN6 := NN6.out
    have qNXA0a := NXA0a.out
    have qNXA0b := NXA0b.out
    have qNN9 := NN9.out
    have qNN10 := NN10.out
    have qNXx0a := NXx0a.out
    have qNXx0b := NXx0b.out
    have qNN13 := NN13.out
    have qNXx1a := NXx1a.out
    have qNXx1b := NXx1b.out
    have qNN16 := NN16.out
    have qNXG0a := NXG0a.out
    have qNXG0b := NXG0b.out
    have qNN19 := NN19.out
    have qNN20 := NN20.out
    have qNN21 := NN21.out
    have qNXe0a := NXe0a.out
    have qNXe0b := NXe0b.out
    have qNN24 := NN24.out
    have qNN25 := NN25.out
    have qNXe1a := NXe1a.out
    have qNXe1b := NXe1b.out
    have qNN28 := NN28.out
    have tA0 := CA0.out.top.1
    have tx0 := Cx0.out.top.1
    have tx1 := Cx1.out.top.1
    have tG0 := CG0.out.top.1
    have X := hide (X.out.seg s (by omega) (by simp; omega))
    have CA0 := hide (CA0.out.seg s (by omega))
    have Cx1 := hide (Cx1.out.seg s (by omega))
    have CG0 := hide (CG0.out.seg s (by omega))
    have hbs := s.below.size
    clear s qNN0 qNXy0a qNXy0b qNN3 qNXy1a qNXy1b qNN6 qNXA0a qNXA0b qNN9 qNN10 qNXx0a qNXx0b qNN13 qNXx1a qNXx1b qNN16 qNXG0a qNXG0b qNN19 qNN20 qNN21 qNXe0a qNXe0b qNN24 qNN25 qNXe1a qNXe1b qNN28  tA0 tx0 tx1 tG0
    have NN29 := hide hbs
    clear hbs
    clear ho Cx0
    go_wp2_with fail
    go_at_call 20
    refine (HA1.out _ _ _ _ Cx1.out).mono ?_
    rintro e u15 ⟨rfl, ho, s⟩
    have qNN0 := NN0.out
    have qNXy0a := NXy0a.out
    have qNXy0b := NXy0b.out
    have qNN3 := NN3.out
    have qNXy1a := NXy1a.out
    have qNXy1b := NXy1b.out
    have qNN6 := NN6.out
    have qNXA0a := NXA0a.out
    have qNXA0b := NXA0b.out
    have qNN9 := NN9.out
    have qNN10 := NN10.out
    have qNXx0a := NXx0a.out
    have qNXx0b := NXx0b.out
    have qNN13 := NN13.out
    have qNXx1a := NXx1a.out
    have qNXx1b := NXx1b.out
    have qNN16 := NN16.out
    have qNXG0a := NXG0a.out
    have qNXG0b := NXG0b.out
    have qNN19 := NN19.out
    have qNN20 := NN20.out
    have qNN21 := NN21.out
    have qNXe0a := NXe0a.out
    have qNXe0b := NXe0b.out
    have qNN24 := NN24.out
    have qNN25 := NN25.out
    have qNXe1a := NXe1a.out
    have qNXe1b := NXe1b.out
    have qNN28 := NN28.out
    have qNN29 := NN29.out
    have tA0 := CA0.out.top.1
    have tx1 := Cx1.out.top.1
    have tG0 := CG0.out.top.1
    have X := hide (X.out.seg s (by omega) (by simp; omega))
    have CA0 := hide (CA0.out.seg s (by omega))
    have CG0 := hide (CG0.out.seg s (by omega))
    have hbs := s.below.size
    clear s qNN0 qNXy0a qNXy0b qNN3 qNXy1a qNXy1b qNN6 qNXA0a qNXA0b qNN9 qNN10 qNXx0a qNXx0b qNN13 qNXx1a qNXx1b qNN16 qNXG0a qNXG0b qNN19 qNN20 qNN21 qNXe0a qNXe0b qNN24 qNN25 qNXe1a qNXe1b qNN28 qNN29  tA0 tx1 tG0
    have NN30 := hide hbs
    clear hbs
    clear ho Cx1
    have c1_0 : u15.cell? ⟨bxG0, 0, none⟩ = some (.slice gG00 r0x.length kG00) := X.out.cell 1 0 rfl rfl
    have c1_1 : u15.cell? ⟨bxG0, 1, none⟩ = some (.slice gG01 r0y.length kG01) := X.out.cell 1 1 rfl rfl
    have c1_2 : u15.cell? ⟨bxG0, 2, none⟩ = some (.slice gG02 r0z.length kG02) := X.out.cell 1 2 rfl rfl
    have c1_3 : u15.cell? ⟨bxG0, 3, none⟩ = some (.slice gG03 r0t.length kG03) := X.out.cell 1 3 rfl rfl
    have c1_4 : u15.cell? ⟨bxG0, 4, none⟩ = some (.int .i64 0) := X.out.cell 1 4 rfl rfl
    have c0_0 : u15.cell? ⟨bxA0, 0, none⟩ = some (.slice gA00 r0x.length kA00) := X.out.cell 0 0 rfl rfl
    have c0_1 : u15.cell? ⟨bxA0, 1, none⟩ = some (.slice gA01 r0y.length kA01) := X.out.cell 0 1 rfl rfl
    have c0_2 : u15.cell? ⟨bxA0, 2, none⟩ = some (.slice gA02 r0z.length kA02) := X.out.cell 0 2 rfl rfl
    have c0_3 : u15.cell? ⟨bxA0, 3, none⟩ = some (.slice gA03 r0t.length kA03) := X.out.cell 0 3 rfl rfl
    have c0_4 : u15.cell? ⟨bxA0, 4, none⟩ = some (.int .i64 0) := X.out.cell 0 4 rfl rfl
    go_wp2_with fail
    clear c1_0 c1_1 c1_2 c1_3 c1_4 c0_0 c0_1 c0_2 c0_3 c0_4
    go_at_call 18
    refine (eqMap_same _ _ r0x r0y r0z r0t 0 _ _ (Nat.le_refl _) (RD0.out _ _ _ _ CG0.out) (RD0.out _ _ _ _ CA0.out)).mono ?_
    rintro e u16 ⟨rfl, hb⟩
    have X := hide (X.out.up hb)
    have CA0 := hide (CA0.out.below hb)
    have CG0 := hide (CG0.out.below hb)
    have NN31 := hide (hb.size)
    clear hb
    have c1_0 : u16.cell? ⟨bxG0, 0, none⟩ = some (.slice gG00 r0x.length kG00) := X.out.cell 1 0 rfl rfl
    have c1_1 : u16.cell? ⟨bxG0, 1, none⟩ = some (.slice gG01 r0y.length kG01) := X.out.cell 1 1 rfl rfl
    have c1_2 : u16.cell? ⟨bxG0, 2, none⟩ = some (.slice gG02 r0z.length kG02) := X.out.cell 1 2 rfl rfl
    have c1_3 : u16.cell? ⟨bxG0, 3, none⟩ = some (.slice gG03 r0t.length kG03) := X.out.cell 1 3 rfl rfl
    have c1_4 : u16.cell? ⟨bxG0, 4, none⟩ = some (.int .i64 0) := X.out.cell 1 4 rfl rfl
    go_wp2_with fail
    clear c1_0 c1_1 c1_2 c1_3 c1_4
    go_at_call 21
    refine (HM0.out _ _ _ _ CG0.out).mono ?_
    rintro e u17 ⟨rfl, ho, s⟩
    have qNN0 := NN0.out
    have qNXy0a := NXy0a.out
    have qNXy0b := NXy0b.out
    have qNN3 := NN3.out
    have qNXy1a := NXy1a.out
    have qNXy1b := NXy1b.out
    have qNN6 := NN6.out
    have qNXA0a := NXA0a.out
    have qNXA0b := NXA0b.out
    have qNN9 := NN9.out
    have qNN10 := NN10.out
    have qNXx0a := NXx0a.out
    have qNXx0b := NXx0b.out
    have qNN13 := NN13.out
    have qNXx1a := NXx1a.out
    have qNXx1b := NXx1b.out
    have qNN16 := NN16.out
    have qNXG0a := NXG0a.out
    have qNXG0b := NXG0b.out
    have qNN19 := NN19.out
    have qNN20 := NN20.out
    have qNN21 := NN21.out
    have qNXe0a := NXe0a.out
    have qNXe0b := NXe0b.out
    have qNN24 := NN24.out
    have qNN25 := NN25.out
    have qNXe1a := NXe1a.out
    have qNXe1b := NXe1b.out
    have qNN28 := NN28.out
    have qNN29 := NN29.out
    have qNN30 := NN30.out
    have qNN31 := NN31.out
    have tA0 := CA0.out.top.1
    have tG0 := CG0.out.top.1
    have X := hide (X.out.seg s (by omega) (by simp; omega))
    have CA0 := hide (CA0.out.seg s (by omega))
    have hbs := s.below.size
    clear s qNN0 qNXy0a qNXy0b qNN3 qNXy1a qNXy1b qNN6 qNXA0a qNXA0b qNN9 qNN10 qNXx0a qNXx0b qNN13 qNXx1a qNXx1b qNN16 qNXG0a qNXG0b qNN19 qNN20 qNN21 qNXe0a qNXe0b qNN24 qNN25 qNXe1a qNXe1b qNN28 qNN29 qNN30 qNN31  tA0 tG0
    have NN32 := hide hbs
    clear hbs
    have CG0 := hide ho
    clear ho
    have c1_0 : u17.cell? ⟨bxG0, 0, none⟩ = some (.slice gG00 r0x.length kG00) := X.out.cell 1 0 rfl rfl
    have c1_1 : u17.cell? ⟨bxG0, 1, none⟩ = some (.slice gG01 r0y.length kG01) := X.out.cell 1 1 rfl rfl
    have c1_2 : u17.cell? ⟨bxG0, 2, none⟩ = some (.slice gG02 r0z.length kG02) := X.out.cell 1 2 rfl rfl
    have c1_3 : u17.cell? ⟨bxG0, 3, none⟩ = some (.slice gG03 r0t.length kG03) := X.out.cell 1 3 rfl rfl
    have c1_4 : u17.cell? ⟨bxG0, 4, none⟩ = some (.int .i64 0) := X.out.cell 1 4 rfl rfl
    go_wp2_with fail
    clear c1_0 c1_1 c1_2 c1_3 c1_4
    go_at_call 22
    refine (HH0.out _ _ _ _ CG0.out).mono ?_
    rintro e u18 ⟨rfl, hb⟩
    have X := hide (X.out.up hb)
    have CA0 := hide (CA0.out.below hb)
    have CG0 := hide (CG0.out.below hb)
    have NN33 := hide (hb.size)
    clear hb
    go_wp2_with fail
    go_at_call 16
    refine (T0.out _ X.out.below).mono ?_
    rintro e u19 ⟨vv, rfl, Cz0, hb⟩
    obtain ⟨gz00, kz00, hf⟩ := Cz0.form
    subst hf
    obtain ⟨loz0, hlo⟩ : ∃ q, q = u18.heap.size := ⟨_, rfl⟩
    obtain ⟨hiz0, hhi⟩ : ∃ q, q = u19.heap.size := ⟨_, rfl⟩
    have hw : u18.heap.size ≤ loz0 := by omega
    have NXz0a := hide hw
    have hw : hiz0 ≤ u19.heap.size := by omega
    have NXz0b := hide hw
    rw [← hlo, ← hhi] at Cz0
    have Cz0 := hide Cz0
    clear hw hlo hhi
    have X := hide (X.out.up hb)
    have CA0 := hide (CA0.out.below hb)
    have CG0 := hide (CG0.out.below hb)
    have NN34 := hide (hb.size)
    clear hb
    go_wp2_with fail
    go_at_call 16
    refine (T1.out _ X.out.below).mono ?_
    rintro e u20 ⟨vv, rfl, Cz1, hb⟩
    obtain ⟨gz10, kz10, hf⟩ := Cz1.form
    subst hf
    obtain ⟨loz1, hlo⟩ : ∃ q, q = u19.heap.size := ⟨_, rfl⟩
    obtain ⟨hiz1, hhi⟩ : ∃ q, q = u20.heap.size := ⟨_, rfl⟩
    have hw : u19.heap.size ≤ loz1 := by omega
    have NXz1a := hide hw
    have hw : hiz1 ≤ u20.heap.size := by omega
    have NXz1b := hide hw
    rw [← hlo, ← hhi] at Cz1
    have Cz1 := hide Cz1
    clear hw hlo hhi
    have X := hide (X.out.up hb)
    have CA0 := hide (CA0.out.below hb)
    have CG0 := hide (CG0.out.below hb)
    have Cz0 := hide (Cz0.out.below hb)
    have NN37 := hide (hb.size)
    clear hb
    go_wp2_with fail
    go_at_call 17
    refine (HIP.out _ _ (PD0.out _ _ _ _ Cz0.out) _ (PD1.out _ _ _ _ Cz1.out)).mono ?_
    rintro e u21 ⟨vv, rfl, CH0, hb⟩
    obtain ⟨gH00, kH00, gH01, kH01, gH02, kH02, gH03, kH03, hf⟩ := CH0.form
    subst hf
    obtain ⟨loH0, hlo⟩ : ∃ q, q = u20.heap.size := ⟨_, rfl⟩
    obtain ⟨hiH0, hhi⟩ : ∃ q, q = u21.heap.size := ⟨_, rfl⟩
    have hw : u20.heap.size ≤ loH0 := by omega
    have NXH0a := hide hw
    have hw : hiH0 ≤ u21.heap.size := by omega
    have NXH0b := hide hw
    rw [← hlo, ← hhi] at CH0
    have CH0 := hide CH0
    clear hw hlo hhi
    have X := hide (X.out.up hb)
    have CA0 := hide (CA0.out.below hb)
    have CG0 := hide (CG0.out.below hb)
    have Cz0 := hide (Cz0.out.below hb)
    have Cz1 := hide (Cz1.out.below hb)
    have NN40 := hide (hb.size)
    clear hb
    have hbl := below1 u21 (.cells #[.slice gH00 r0x.length kH00, .slice gH01 r0y.length kH01, .slice gH02 r0z.length kH02, .slice gH03 r0t.length kH03, .int .i64 0] 27)
    have X := hide (X.out.alloc #[.slice gH00 r0x.length kH00, .slice gH01 r0y.length kH01, .slice gH02 r0z.length kH02, .slice gH03 r0t.length kH03, .int .i64 0] 27)
    have CA0 := hide (CA0.out.below hbl)
    have CG0 := hide (CG0.out.below hbl)
    have Cz0 := hide (Cz0.out.below hbl)
    have Cz1 := hide (Cz1.out.below hbl)
    have CH0 := hide (CH0.out.below hbl)
    clear hbl
    obtain ⟨u22, hu22⟩ : ∃ q, q = u21.alloc (.cells #[.slice gH00 r0x.length kH00, .slice gH01 r0y.length kH01, .slice gH02 r0z.length kH02, .slice gH03 r0t.length kH03, .int .i64 0] 27) := ⟨_, rfl⟩
    obtain ⟨bxH0, hbxH0⟩ : ∃ q, q = u21.heap.size := ⟨_, rfl⟩
    have NN43 := hide (show bxH0 = u21.heap.size ∧ u22.heap.size = u21.heap.size + 1 by rw [hu22, hbxH0]; simp)
    rw [← hu22] at X CA0 CG0 Cz0 Cz1 CH0
    rw [← hbxH0] at X
    simp only [List.cons_append, List.nil_append] at X
    clear Cz0
    clear Cz1
    have c2_0 : u22.cell? ⟨bxH0, 0, none⟩ = some (.slice gH00 r0x.length kH00) := X.out.cell 2 0 rfl rfl
    have c2_1 : u22.cell? ⟨bxH0, 1, none⟩ = some (.slice gH01 r0y.length kH01) := X.out.cell 2 1 rfl rfl
    have c2_2 : u22.cell? ⟨bxH0, 2, none⟩ = some (.slice gH02 r0z.length kH02) := X.out.cell 2 2 rfl rfl
    have c2_3 : u22.cell? ⟨bxH0, 3, none⟩ = some (.slice gH03 r0t.length kH03) := X.out.cell 2 3 rfl rfl
    have c2_4 : u22.cell? ⟨bxH0, 4, none⟩ = some (.int .i64 0) := X.out.cell 2 4 rfl rfl
    have c0_0 : u22.cell? ⟨bxA0, 0, none⟩ = some (.slice gA00 r0x.length kA00) := X.out.cell 0 0 rfl rfl
    have c0_1 : u22.cell? ⟨bxA0, 1, none⟩ = some (.slice gA01 r0y.length kA01) := X.out.cell 0 1 rfl rfl
    have c0_2 : u22.cell? ⟨bxA0, 2, none⟩ = some (.slice gA02 r0z.length kA02) := X.out.cell 0 2 rfl rfl
    have c0_3 : u22.cell? ⟨bxA0, 3, none⟩ = some (.slice gA03 r0t.length kA03) := X.out.cell 0 3 rfl rfl
    have c0_4 : u22.cell? ⟨bxA0, 4, none⟩ = some (.int .i64 0) := X.out.cell 0 4 rfl rfl
    rw [hu22] at c2_0 c2_1 c2_2 c2_3 c2_4 c0_0 c0_1 c0_2 c0_3 c0_4
    go_wp2_with fail
    rw [← hu22]
    try rw [← hbxH0]
    clear hu22 hbxH0
    clear c2_0 c2_1 c2_2 c2_3 c2_4 c0_0 c0_1 c0_2 c0_3 c0_4
    go_at_call 18
    refine (eqMap_same _ _ r0x r0y r0z r0t 0 _ _ (Nat.le_refl _) (RD0.out _ _ _ _ CH0.out) (RD0.out _ _ _ _ CA0.out)).mono ?_
    rintro e u23 ⟨rfl, hb⟩
    have X := hide (X.out.up hb)
    have CA0 := hide (CA0.out.below hb)
    have CG0 := hide (CG0.out.below hb)
    have CH0 := hide (CH0.out.below hb)
    have NN44 := hide (hb.size)
    clear hb
    have c1_0 : u23.cell? ⟨bxG0, 0, none⟩ = some (.slice gG00 r0x.length kG00) := X.out.cell 1 0 rfl rfl
    have c1_1 : u23.cell? ⟨bxG0, 1, none⟩ = some (.slice gG01 r0y.length kG01) := X.out.cell 1 1 rfl rfl
    have c1_2 : u23.cell? ⟨bxG0, 2, none⟩ = some (.slice gG02 r0z.length kG02) := X.out.cell 1 2 rfl rfl
    have c1_3 : u23.cell? ⟨bxG0, 3, none⟩ = some (.slice gG03 r0t.length kG03) := X.out.cell 1 3 rfl rfl
    have c1_4 : u23.cell? ⟨bxG0, 4, none⟩ = some (.int .i64 0) := X.out.cell 1 4 rfl rfl
    go_wp2_with fail
    clear c1_0 c1_1 c1_2 c1_3 c1_4
    go_at_call 22
    refine (HH0.out _ _ _ _ CG0.out).mono ?_
    rintro e u24 ⟨rfl, hb⟩
    have X := hide (X.out.up hb)
    have CA0 := hide (CA0.out.below hb)
    have CG0 := hide (CG0.out.below hb)
    have CH0 := hide (CH0.out.below hb)
    have NN45 := hide (hb.size)
    clear hb
    go_wp2_with fail
    go_ret
    exact ⟨rfl, X.out.below⟩

set_option maxRecDepth 100000 in
theorem lifted (os : Os) (started : os.Started) (H : Type) (enc : TypeId × Value → H) :
    ReturnsInHanded {} Try.checked os 3 .any (Rows.fnExactNewMapSpec.pre6 enc Try.prog Try.f3 Rows.fnExactNewMapRow.domain false) (Rows.fnExactNewMapSpec.post enc Try.prog Try.f3 false true false false) := by
  refine returnsInHanded_of_change (C := Try.checked) own started (by kernel_rfl) Try.func3
    (ChangeSpec.witness6 (enc := enc) (C := Try.checked) false ⟨#[], #[.slice none 0 0, .slice none 0 0], []⟩ 8 (by kernel_rfl) (by kernel_rfl) (by kernel_rfl) (by kernel_rfl)) ?_
  intro W base args ds gs before hval0 hW hcnd _
  have hval : ∀ (j : Nat) t v, Try.f3.params[j]? = some t → args[j]? = some v → Value.okWide Try.prog W .any base t v := hval0
  have hW' := hW
  obtain ⟨p, q, hA0, hV, rfl, hfz, hnd⟩ := hW
  have hA : DataW.TrodAll enc Try.prog W 0 (fun _ => true) true Try.f3.params.toList args.toList ds p := hA0
  rw [Try.params3] at hA hval
  obtain ⟨v0, vs0, d0, ds0, p0, q0, hargs, rfl, rfl, h0, r0⟩ := trodAll_cons hA
  obtain ⟨v1, vs1, d1, ds1, p1, q1, rfl, rfl, rfl, h1, r1⟩ := trodAll_cons r0
  obtain ⟨rfl, rfl, rfl⟩ := trodAll_nil r1
  obtain rfl : args = #[v0, v1] := by cases args; simp_all
  obtain ⟨rfl, rfl⟩ := trodVars_none hV
  have k0 := h0
  have lt0 : ∀ x ∈ p0, x.block < W.heap.size := by obtain ⟨m, hm⟩ := k0; exact DataW.trod_lt m _ _ _ hm
  have k1 := h1
  have lt1 : ∀ x ∈ p1, x.block < W.heap.size := by obtain ⟨m, hm⟩ := k1; exact DataW.trod_lt m _ _ _ hm
  have w0 := open_intS (hval 0 22 v0 rfl rfl) h0
  have w1 := open_intS (hval 1 22 v1 rfl rfl) h1
  clear hA0 hval0
  refine (walk W v0 w0 v1 w1).mono fun e W' ⟨he, bel⟩ => ?_
  subst he
  exact ⟨_, rfl, _, _, _, [], _, [], hW', trodAll_mk1 (shut_bool Try.underlying4 _), (trodAll_cons_mk (Below.trod laidOut (by kernel_rfl) (of_decide_eq_true (by kernel_rfl)) k0 bel lt0) (trodAll_cons_mk (Below.trod laidOut (by kernel_rfl) (of_decide_eq_true (by kernel_rfl)) k1 bel lt1) trodAll_mk0)), rfl, bel.frame _, fun h => by cases h⟩

theorem over : Rows.fnExactNewMapRow.holds Try.pinned (OpenSpec.ofChange Rows.fnExactNewMapSpec) :=
  OpenClaim.holds_of_wide 3 Try.f3 rfl rfl rfl rfl rfl rfl rfl ⟨rfl, rfl, rfl, rfl, rfl⟩ rfl rfl rfl rfl rfl (by kernel_rfl) Try.func3 (by kernel_rfl)
    (of_decide_eq_true (by kernel_rfl)) (by unfold Func.isWrapper; first | (rw [if_pos (by decide +kernel)]; kernel_rfl) | (rw [if_neg (by decide +kernel)]; exact ⟨rfl, rfl⟩))
    (fun os started H enc _ => lifted os started H enc)

/-- The statement. -/
theorem proved : Rows.FnExactNewMapSaid := over
#print axioms proved
end Go.Proofs.Ytepkkeclkdlheaa.fnExactNewMap
