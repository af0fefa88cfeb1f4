/- The law FnExactAlignMap holds: whatever the arguments, the call returns true, and they read afterwards as before. -/
import Derived.Test.YtepkkeclkdlheaaRows
import Derived.WalkKit
import Derived.ProofKit
import Derived.OpenShut
import Derived.ShutString
import Derived.ChangeOld
import Derived.Below
import Derived.Test.YtepkkeclkdlheaaZb
import Derived.Test.YtepkkeclkdlheaaOck
namespace Go.Proofs.Ytepkkeclkdlheaa.fnExactAlignMap
open Go.ChangeShapes Go.WideShapes Go.ChangeAt Go.RowKit
open Go.ChangeMaps (open_string shut_string)
set_option linter.unusedVariables false
set_option linter.unusedSimpArgs false

theorem own : ownKnob Try.prog.godebug = none := by kernel_rfl
theorem laidOut : laidOutB Try.prog = true := by kernel_rfl

set_option maxRecDepth 100000 in
set_option maxHeartbeats 40000000 in
theorem walk (w : World) (v0 : Value) (w0' : ∃ p0x p0y p0z p0t p0u, Mp w w.heap.size v0 p0x p0y p0z p0t p0u) (v1 : Value) (w1' : ∃ p1x, Ints w w.heap.size v1 p1x) :
    Calls Try.prog 6 #[v0, v1] w fun e w' => e = .returned (.bool true) ∧ Below w.heap.size w w' := by
  obtain ⟨p0x, p0y, p0z, p0t, p0u, hv0⟩ := w0'
  obtain ⟨s00, c00, s01, c01, s02, c02, s03, c03, rfl, -⟩ := hv0.form
  have hwf0 : MpWf p0x p0y p0z p0t p0u := hv0.wf
  have V0 := hide hv0
  clear hv0
  obtain ⟨p1x, hv1⟩ := w1'
  obtain ⟨s10, c10, rfl⟩ := hv1.form
  have hwf1 : IntsWf p1x := by obtain ⟨_, _, _, _, h, _⟩ := hv1; exact h
  have V1 := hide hv1
  clear hv1
  obtain ⟨wC, hwC⟩ : ∃ q, q = w.alloc (.cells #[.slice s00 p0x.length c00, .slice s01 p0y.length c01, .slice s02 p0z.length c02, .slice s03 p0t.length c03, .int .i64 p0u] 38) := ⟨_, rfl⟩
  have X : Hid (Kn w wC [(w.heap.size, #[.slice s00 p0x.length c00, .slice s01 p0y.length c01, .slice s02 p0z.length c02, .slice s03 p0t.length c03, .int .i64 p0u], 38)]) := hide (by rw [hwC]; simpa using Kn.one w #[.slice s00 p0x.length c00, .slice s01 p0y.length c01, .slice s02 p0z.length c02, .slice s03 p0t.length c03, .int .i64 p0u] 38)
  have N0 := hide (show wC.heap.size = w.heap.size + 1 by rw [hwC]; simp)
  have hsz0 := hide (fun (W : World) (h : Below w.heap.size w W) (q1 : -1 ≤ (1048576 : Int)) (q2 : (1048576 : Int) ≤ 1048576) => szMap_any _ p0x p0y p0z p0t p0u 1048576 W w.heap.size (V0.out.below h (Nat.le_refl _)) h.size q1 q2)
  obtain ⟨z0, hz0⟩ : ∃ z, z = szC (p0x.length + p0y.length + p0z.length + p0t.length) 1048576 := ⟨_, rfl⟩
  rw [← hz0] at hsz0
  unfold szC at hz0
  by_cases hlen1 : (1048576 : Int) < (p1x.length : Int)
  · have bl1 : decide ((1048576 : Int) < (p1x.length : Int)) = true := by simp; omega
    clear hz0
    have c0_0 : wC.cell? ⟨w.heap.size, 0, none⟩ = some (.slice s00 p0x.length c00) := X.out.cell 0 0 rfl rfl
    have c0_1 : wC.cell? ⟨w.heap.size, 1, none⟩ = some (.slice s01 p0y.length c01) := X.out.cell 0 1 rfl rfl
    have c0_2 : wC.cell? ⟨w.heap.size, 2, none⟩ = some (.slice s02 p0z.length c02) := X.out.cell 0 2 rfl rfl
    have c0_3 : wC.cell? ⟨w.heap.size, 3, none⟩ = some (.slice s03 p0t.length c03) := X.out.cell 0 3 rfl rfl
    have c0_4 : wC.cell? ⟨w.heap.size, 4, none⟩ = some (.int .i64 p0u) := X.out.cell 0 4 rfl rfl
    rw [hwC] at c0_0 c0_1 c0_2 c0_3 c0_4
    go_enter Try.func6, Try.ntmps6
    go_wp2_with fail
    go_ret
    exact ⟨rfl, by rw [← hwC]; exact X.out.below⟩
  have hbigs1 : p1x.length ≤ 1048576 := by omega
  have bl1 : decide ((1048576 : Int) < (p1x.length : Int)) = false := by simp; omega
  clear hlen1
  by_cases hneg0 : z0 < 0
  · have b0 : decide (z0 < 0) = true := by simp; omega
    clear hz0
    have c0_0 : wC.cell? ⟨w.heap.size, 0, none⟩ = some (.slice s00 p0x.length c00) := X.out.cell 0 0 rfl rfl
    have c0_1 : wC.cell? ⟨w.heap.size, 1, none⟩ = some (.slice s01 p0y.length c01) := X.out.cell 0 1 rfl rfl
    have c0_2 : wC.cell? ⟨w.heap.size, 2, none⟩ = some (.slice s02 p0z.length c02) := X.out.cell 0 2 rfl rfl
    have c0_3 : wC.cell? ⟨w.heap.size, 3, none⟩ = some (.slice s03 p0t.length c03) := X.out.cell 0 3 rfl rfl
    have c0_4 : wC.cell? ⟨w.heap.size, 4, none⟩ = some (.int .i64 p0u) := X.out.cell 0 4 rfl rfl
    rw [hwC] at c0_0 c0_1 c0_2 c0_3 c0_4
    go_enter Try.func6, Try.ntmps6
    go_wp2_with fail
    rw [← hwC]
    clear hwC c0_0 c0_1 c0_2 c0_3 c0_4
    go_at_call 23
    refine (hsz0.out _ X.out.below (by omega) (by omega)).mono ?_
    rintro e u1 ⟨rfl, hb⟩
    have X := hide (X.out.up hb)
    have N1 := hide hb.size
    clear hb
    go_wp2_with fail
    go_ret
    exact ⟨rfl, X.out.below⟩
  have hbig0 : p0x.length + p0y.length + p0z.length + p0t.length ≤ 1048576 := by split at hz0 <;> omega
  have hpos0 : 0 ≤ z0 ∧ z0 ≤ 1048576 := by split at hz0 <;> omega
  have b0 : decide (z0 < 0) = false := by simp; omega
  clear hneg0
  clear hz0
  · skip
    have T0 := hide (fun (W : World) (h : Below w.heap.size w W) => toMap_o _ p0x p0y p0z p0t p0u W w.heap.size (V0.out.below h (Nat.le_refl _)) h.size (by omega) (by omega) (by omega) (by omega))
    have T1 := hide (fun (W : World) (h : Below w.heap.size w W) => toIntS_o _ p1x W w.heap.size (V1.out.below h (Nat.le_refl _)) h.size (by omega))
    have hR0 : (((alM ⟨p0x, p0y, p0z, p0t, p0u⟩ p1x).l).length ≤ 4000000 ∧ ((alM ⟨p0x, p0y, p0z, p0t, p0u⟩ p1x).r).length ≤ 4000000 ∧ ((alM ⟨p0x, p0y, p0z, p0t, p0u⟩ p1x).p).length ≤ 4000000 ∧ ((alM ⟨p0x, p0y, p0z, p0t, p0u⟩ p1x).t).length ≤ 4000000) ∧ MpWf ((alM ⟨p0x, p0y, p0z, p0t, p0u⟩ p1x).l) ((alM ⟨p0x, p0y, p0z, p0t, p0u⟩ p1x).r) ((alM ⟨p0x, p0y, p0z, p0t, p0u⟩ p1x).p) ((alM ⟨p0x, p0y, p0z, p0t, p0u⟩ p1x).t) ((alM ⟨p0x, p0y, p0z, p0t, p0u⟩ p1x).a) := al_wf hbig0 hwf0
    have HSP := hide (fun (W : World) (v0 : Value) (k0 : Mp W W.heap.size v0 p0x p0y p0z p0t p0u) (v1 : Value) (k1 : InC W W.heap.size v1 p1x) => show Calls Try.prog 29 #[v0, v1] W (fun e w' => ∃ u0, e = .returned (.tuple #[u0, .int .i64 (alN ⟨p0x, p0y, p0z, p0t, p0u⟩ p1x), .bool (alB ⟨p0x, p0y, p0z, p0t, p0u⟩ p1x)]) ∧ MpO w' u0 ((alM ⟨p0x, p0y, p0z, p0t, p0u⟩ p1x).l) ((alM ⟨p0x, p0y, p0z, p0t, p0u⟩ p1x).r) ((alM ⟨p0x, p0y, p0z, p0t, p0u⟩ p1x).p) ((alM ⟨p0x, p0y, p0z, p0t, p0u⟩ p1x).t) ((alM ⟨p0x, p0y, p0z, p0t, p0u⟩ p1x).a) W.heap.size w'.heap.size ∧ Below W.heap.size W w') from sAl_any v0 v1 p0x p0y p0z p0t p1x p0u W W.heap.size k0 k1 (Nat.le_refl _) (by omega) (by omega) (by omega) (by omega) (by omega))
    have HIP := hide (fun (W : World) (v0 : Value) (k0 : Mp W W.heap.size v0 p0x p0y p0z p0t p0u) (v1 : Value) (k1 : InC W W.heap.size v1 p1x) => show Calls Try.prog 30 #[v0, v1] W (fun e w' => ∃ u0, e = .returned (.tuple #[u0, .int .i64 (alN ⟨p0x, p0y, p0z, p0t, p0u⟩ p1x), .bool (alB ⟨p0x, p0y, p0z, p0t, p0u⟩ p1x)]) ∧ MpO w' u0 ((alM ⟨p0x, p0y, p0z, p0t, p0u⟩ p1x).l) ((alM ⟨p0x, p0y, p0z, p0t, p0u⟩ p1x).r) ((alM ⟨p0x, p0y, p0z, p0t, p0u⟩ p1x).p) ((alM ⟨p0x, p0y, p0z, p0t, p0u⟩ p1x).t) ((alM ⟨p0x, p0y, p0z, p0t, p0u⟩ p1x).a) W.heap.size w'.heap.size ∧ Below W.heap.size W w') from iAl_any v0 v1 p0x p0y p0z p0t p1x p0u W W.heap.size k0 k1 (Nat.le_refl _) (by omega) (by omega) (by omega) (by omega) (by omega))
    obtain ⟨r0x, hq⟩ : ∃ q : List Int, q = (alM ⟨p0x, p0y, p0z, p0t, p0u⟩ p1x).l := ⟨_, rfl⟩
    rw [← hq] at HSP HIP hR0
    clear hq
    obtain ⟨r0y, hq⟩ : ∃ q : List Int, q = (alM ⟨p0x, p0y, p0z, p0t, p0u⟩ p1x).r := ⟨_, rfl⟩
    rw [← hq] at HSP HIP hR0
    clear hq
    obtain ⟨r0z, hq⟩ : ∃ q : List Pv, q = (alM ⟨p0x, p0y, p0z, p0t, p0u⟩ p1x).p := ⟨_, rfl⟩
    rw [← hq] at HSP HIP hR0
    clear hq
    obtain ⟨r0t, hq⟩ : ∃ q : List Int, q = (alM ⟨p0x, p0y, p0z, p0t, p0u⟩ p1x).t := ⟨_, rfl⟩
    rw [← hq] at HSP HIP hR0
    clear hq
    obtain ⟨r0u, hq⟩ : ∃ q : Int, q = (alM ⟨p0x, p0y, p0z, p0t, p0u⟩ p1x).a := ⟨_, rfl⟩
    rw [← hq] at HSP HIP hR0
    clear hq
    obtain ⟨r1, hq⟩ : ∃ q : Int, q = alN ⟨p0x, p0y, p0z, p0t, p0u⟩ p1x := ⟨_, rfl⟩
    rw [← hq] at HSP HIP 
    clear hq
    obtain ⟨r2, hq⟩ : ∃ q : Bool, q = alB ⟨p0x, p0y, p0z, p0t, p0u⟩ p1x := ⟨_, rfl⟩
    rw [← hq] at HSP HIP 
    clear hq
    obtain ⟨⟨hl00, hl01, hl02, hl03⟩, hRw0⟩ := hR0
    have RD0 := hide (fun (W : World) (v : Value) (lo hi : Nat) (h : MpO W v r0x r0y r0z r0t r0u lo hi) => h.rd hRw0)
    have PD0 := hide (fun (W : World) (v : Value) (lo hi : Nat) (h : MpO W v p0x p0y p0z p0t p0u lo hi) => h.rd hwf0)
    have PD1 := hide (fun (W : World) (v : Value) (lo hi : Nat) (h : Oin W v p1x lo hi) => h.rdc hwf1)
    obtain ⟨A0, hA0⟩ : ∃ q : Int, q = 1 + (p0x.length : Int) + (p0y.length : Int) + 2 * (p0z.length : Int) + (p0t.length : Int) := ⟨_, rfl⟩
    have HA0 := hide (fun (W : World) (v : Value) (lo hi : Nat) (h : MpO W v p0x p0y p0z p0t p0u lo hi) => show Calls Try.prog 21 #[v, .int .i64 (1)] W (RetMMpO W v (mkI (1) p0x.length) (mkI (1 + (p0x.length : Int)) p0y.length) (mkP (1 + (p0x.length : Int) + (p0y.length : Int)) p0z.length) (mkI (1 + (p0x.length : Int) + (p0y.length : Int) + 2 * (p0z.length : Int)) p0t.length) p0u lo hi A0) by rw [hA0]; exact markMap_o v p0x p0y p0z p0t p0u lo hi (1) W h (by omega) (by omega))
    obtain ⟨A1, hA1⟩ : ∃ q : Int, q = A0 + (p1x.length : Int) := ⟨_, rfl⟩
    have HA1 := hide (fun (W : World) (v : Value) (lo hi : Nat) (h : Oin W v p1x lo hi) => show Calls Try.prog 20 #[v, .int .i64 (A0)] W (RetMOin W v (mkI (A0) p1x.length) lo hi A1) by rw [hA1]; exact markIntS_o v p1x lo hi (A0) W h (by omega) (by omega))
    have hAn : decide (A1 < 0) = false := by simp; omega
    obtain ⟨M0, hM0⟩ : ∃ q : Int, q = 1 + (r0x.length : Int) + (r0y.length : Int) + 2 * (r0z.length : Int) + (r0t.length : Int) := ⟨_, rfl⟩
    have HM0 := hide (fun (W : World) (v : Value) (lo hi : Nat) (h : MpO W v r0x r0y r0z r0t r0u lo hi) => show Calls Try.prog 21 #[v, .int .i64 (1)] W (RetMMpO W v (mkI (1) r0x.length) (mkI (1 + (r0x.length : Int)) r0y.length) (mkP (1 + (r0x.length : Int) + (r0y.length : Int)) r0z.length) (mkI (1 + (r0x.length : Int) + (r0y.length : Int) + 2 * (r0z.length : Int)) r0t.length) r0u lo hi M0) by rw [hM0]; exact markMap_o v r0x r0y r0z r0t r0u lo hi (1) W h (by omega) (by omega))
    have HH0 := hide (fun (W : World) (v : Value) (lo hi : Nat) (h : MpO W v (mkI (1) r0x.length) (mkI (1 + (r0x.length : Int)) r0y.length) (mkP (1 + (r0x.length : Int) + (r0y.length : Int)) r0z.length) (mkI (1 + (r0x.length : Int) + (r0y.length : Int) + 2 * (r0z.length : Int)) r0t.length) r0u lo hi) => show Calls Try.prog 22 #[v, .int .i64 (1)] W (RetI1 W M0) by rw [hM0]; exact heldMap_o v r0x.length r0y.length r0z.length r0t.length r0u lo hi (1) W h (by omega) (by omega))
    have hMn0 : decide (M0 < 0) = false := by simp; omega
    have hMM : (M0 != M0) = false := by simp
    have hn1 : (r1 != r1) = false := by simp
    have hn2 : (r2 != r2) = false := by simp
    clear hA0 hA1 hM0 hwf0 hwf1 hRw0 hl00 hl01 hl02 hl03
    have c0_0 : wC.cell? ⟨w.heap.size, 0, none⟩ = some (.slice s00 p0x.length c00) := X.out.cell 0 0 rfl rfl
    have c0_1 : wC.cell? ⟨w.heap.size, 1, none⟩ = some (.slice s01 p0y.length c01) := X.out.cell 0 1 rfl rfl
    have c0_2 : wC.cell? ⟨w.heap.size, 2, none⟩ = some (.slice s02 p0z.length c02) := X.out.cell 0 2 rfl rfl
    have c0_3 : wC.cell? ⟨w.heap.size, 3, none⟩ = some (.slice s03 p0t.length c03) := X.out.cell 0 3 rfl rfl
    have c0_4 : wC.cell? ⟨w.heap.size, 4, none⟩ = some (.int .i64 p0u) := X.out.cell 0 4 rfl rfl
    rw [hwC] at c0_0 c0_1 c0_2 c0_3 c0_4
    go_enter Try.func6, Try.ntmps6
    go_wp2_with fail
    rw [← hwC]
    clear hwC c0_0 c0_1 c0_2 c0_3 c0_4
    go_at_call 23
    refine (hsz0.out _ X.out.below (by omega) (by omega)).mono ?_
    rintro e u1 ⟨rfl, hb⟩
    have X := hide (X.out.up hb)
    have N1 := hide hb.size
    clear hb
    clear hpos0
    have c0_0 : u1.cell? ⟨w.heap.size, 0, none⟩ = some (.slice s00 p0x.length c00) := X.out.cell 0 0 rfl rfl
    have c0_1 : u1.cell? ⟨w.heap.size, 1, none⟩ = some (.slice s01 p0y.length c01) := X.out.cell 0 1 rfl rfl
    have c0_2 : u1.cell? ⟨w.heap.size, 2, none⟩ = some (.slice s02 p0z.length c02) := X.out.cell 0 2 rfl rfl
    have c0_3 : u1.cell? ⟨w.heap.size, 3, none⟩ = some (.slice s03 p0t.length c03) := X.out.cell 0 3 rfl rfl
    have c0_4 : u1.cell? ⟨w.heap.size, 4, none⟩ = some (.int .i64 p0u) := X.out.cell 0 4 rfl rfl
    go_wp2_with fail
    clear c0_0 c0_1 c0_2 c0_3 c0_4
    go_at_call 25
    refine (T0.out _ X.out.below).mono ?_
    rintro e u2 ⟨vv, rfl, Cy0, hb⟩
    obtain ⟨gy00, ky00, gy01, ky01, gy02, ky02, gy03, ky03, hf⟩ := Cy0.form
    subst hf
    obtain ⟨loy0, hlo⟩ : ∃ q, q = u1.heap.size := ⟨_, rfl⟩
    obtain ⟨hiy0, hhi⟩ : ∃ q, q = u2.heap.size := ⟨_, rfl⟩
    have hw : u1.heap.size ≤ loy0 := by omega
    have NXy0a := hide hw
    have hw : hiy0 ≤ u2.heap.size := by omega
    have NXy0b := hide hw
    rw [← hlo, ← hhi] at Cy0
    have Cy0 := hide Cy0
    clear hw hlo hhi
    have X := hide (X.out.up hb)
    have NN2 := hide (hb.size)
    clear hb
    go_wp2_with fail
    go_at_call 16
    refine (T1.out _ X.out.below).mono ?_
    rintro e u3 ⟨vv, rfl, Cy1, hb⟩
    obtain ⟨gy10, ky10, hf⟩ := Cy1.form
    subst hf
    obtain ⟨loy1, hlo⟩ : ∃ q, q = u2.heap.size := ⟨_, rfl⟩
    obtain ⟨hiy1, hhi⟩ : ∃ q, q = u3.heap.size := ⟨_, rfl⟩
    have hw : u2.heap.size ≤ loy1 := by omega
    have NXy1a := hide hw
    have hw : hiy1 ≤ u3.heap.size := by omega
    have NXy1b := hide hw
    rw [← hlo, ← hhi] at Cy1
    have Cy1 := hide Cy1
    clear hw hlo hhi
    have X := hide (X.out.up hb)
    have Cy0 := hide (Cy0.out.below hb)
    have NN5 := hide (hb.size)
    clear hb
    go_wp2_with fail
    go_at_call 29
    refine (HSP.out _ _ (PD0.out _ _ _ _ Cy0.out) _ (PD1.out _ _ _ _ Cy1.out)).mono ?_
    rintro e u4 ⟨vv, rfl, CA0, hb⟩
    obtain ⟨gA00, kA00, gA01, kA01, gA02, kA02, gA03, kA03, hf⟩ := CA0.form
    subst hf
    obtain ⟨loA0, hlo⟩ : ∃ q, q = u3.heap.size := ⟨_, rfl⟩
    obtain ⟨hiA0, hhi⟩ : ∃ q, q = u4.heap.size := ⟨_, rfl⟩
    have hw : u3.heap.size ≤ loA0 := by omega
    have NXA0a := hide hw
    have hw : hiA0 ≤ u4.heap.size := by omega
    have NXA0b := hide hw
    rw [← hlo, ← hhi] at CA0
    have CA0 := hide CA0
    clear hw hlo hhi
    have X := hide (X.out.up hb)
    have Cy0 := hide (Cy0.out.below hb)
    have Cy1 := hide (Cy1.out.below hb)
    have NN8 := hide (hb.size)
    clear hb
    have hbl := below1 u4 (.cells #[.slice gA00 r0x.length kA00, .slice gA01 r0y.length kA01, .slice gA02 r0z.length kA02, .slice gA03 r0t.length kA03, .int .i64 r0u] 27)
    have X := hide (X.out.alloc #[.slice gA00 r0x.length kA00, .slice gA01 r0y.length kA01, .slice gA02 r0z.length kA02, .slice gA03 r0t.length kA03, .int .i64 r0u] 27)
    have Cy0 := hide (Cy0.out.below hbl)
    have Cy1 := hide (Cy1.out.below hbl)
    have CA0 := hide (CA0.out.below hbl)
    clear hbl
    obtain ⟨u5, hu5⟩ : ∃ q, q = u4.alloc (.cells #[.slice gA00 r0x.length kA00, .slice gA01 r0y.length kA01, .slice gA02 r0z.length kA02, .slice gA03 r0t.length kA03, .int .i64 r0u] 27) := ⟨_, rfl⟩
    obtain ⟨bxA0, hbxA0⟩ : ∃ q, q = u4.heap.size := ⟨_, rfl⟩
    have NN11 := hide (show bxA0 = u4.heap.size ∧ u5.heap.size = u4.heap.size + 1 by rw [hu5, hbxA0]; simp)
    rw [← hu5] at X Cy0 Cy1 CA0
    rw [← hbxA0] at X
    simp only [List.cons_append, List.nil_append] at X
    clear Cy0
    clear Cy1
    have c0_0 : u5.cell? ⟨w.heap.size, 0, none⟩ = some (.slice s00 p0x.length c00) := X.out.cell 0 0 rfl rfl
    have c0_1 : u5.cell? ⟨w.heap.size, 1, none⟩ = some (.slice s01 p0y.length c01) := X.out.cell 0 1 rfl rfl
    have c0_2 : u5.cell? ⟨w.heap.size, 2, none⟩ = some (.slice s02 p0z.length c02) := X.out.cell 0 2 rfl rfl
    have c0_3 : u5.cell? ⟨w.heap.size, 3, none⟩ = some (.slice s03 p0t.length c03) := X.out.cell 0 3 rfl rfl
    have c0_4 : u5.cell? ⟨w.heap.size, 4, none⟩ = some (.int .i64 p0u) := X.out.cell 0 4 rfl rfl
    rw [hu5] at c0_0 c0_1 c0_2 c0_3 c0_4
    go_wp2_with fail
    rw [← hu5]
    try rw [← hbxA0]
    clear hu5 hbxA0
    clear c0_0 c0_1 c0_2 c0_3 c0_4
    go_at_call 25
    refine (T0.out _ X.out.below).mono ?_
    rintro e u6 ⟨vv, rfl, Cx0, hb⟩
    obtain ⟨gx00, kx00, gx01, kx01, gx02, kx02, gx03, kx03, hf⟩ := Cx0.form
    subst hf
    obtain ⟨lox0, hlo⟩ : ∃ q, q = u5.heap.size := ⟨_, rfl⟩
    obtain ⟨hix0, hhi⟩ : ∃ q, q = u6.heap.size := ⟨_, rfl⟩
    have hw : u5.heap.size ≤ lox0 := by omega
    have NXx0a := hide hw
    have hw : hix0 ≤ u6.heap.size := by omega
    have NXx0b := hide hw
    rw [← hlo, ← hhi] at Cx0
    have Cx0 := hide Cx0
    clear hw hlo hhi
    have X := hide (X.out.up hb)
    have CA0 := hide (CA0.out.below hb)
    have NN12 := hide (hb.size)
    clear hb
    have hbl := below1 u6 (.cells #[.slice gx00 p0x.length kx00, .slice gx01 p0y.length kx01, .slice gx02 p0z.length kx02, .slice gx03 p0t.length kx03, .int .i64 p0u] 27)
    have X := hide (X.out.alloc #[.slice gx00 p0x.length kx00, .slice gx01 p0y.length kx01, .slice gx02 p0z.length kx02, .slice gx03 p0t.length kx03, .int .i64 p0u] 27)
    have CA0 := hide (CA0.out.below hbl)
    have Cx0 := hide (Cx0.out.below hbl)
    clear hbl
    obtain ⟨u7, hu7⟩ : ∃ q, q = u6.alloc (.cells #[.slice gx00 p0x.length kx00, .slice gx01 p0y.length kx01, .slice gx02 p0z.length kx02, .slice gx03 p0t.length kx03, .int .i64 p0u] 27) := ⟨_, rfl⟩
    obtain ⟨bx0, hbx0⟩ : ∃ q, q = u6.heap.size := ⟨_, rfl⟩
    have NN15 := hide (show bx0 = u6.heap.size ∧ u7.heap.size = u6.heap.size + 1 by rw [hu7, hbx0]; simp)
    rw [← hu7] at X CA0 Cx0
    rw [← hbx0] at X
    simp only [List.cons_append, List.nil_append] at X
    go_wp2_with fail
    rw [← hu7]
    try rw [← hbx0]
    clear hu7 hbx0
    go_at_call 16
    refine (T1.out _ X.out.below).mono ?_
    rintro e u8 ⟨vv, rfl, Cx1, hb⟩
    obtain ⟨gx10, kx10, hf⟩ := Cx1.form
    subst hf
    obtain ⟨lox1, hlo⟩ : ∃ q, q = u7.heap.size := ⟨_, rfl⟩
    obtain ⟨hix1, hhi⟩ : ∃ q, q = u8.heap.size := ⟨_, rfl⟩
    have hw : u7.heap.size ≤ lox1 := by omega
    have NXx1a := hide hw
    have hw : hix1 ≤ u8.heap.size := by omega
    have NXx1b := hide hw
    rw [← hlo, ← hhi] at Cx1
    have Cx1 := hide Cx1
    clear hw hlo hhi
    have X := hide (X.out.up hb)
    have CA0 := hide (CA0.out.below hb)
    have Cx0 := hide (Cx0.out.below hb)
    have NN16 := hide (hb.size)
    clear hb
    have c2_0 : u8.cell? ⟨bx0, 0, none⟩ = some (.slice gx00 p0x.length kx00) := X.out.cell 2 0 rfl rfl
    have c2_1 : u8.cell? ⟨bx0, 1, none⟩ = some (.slice gx01 p0y.length kx01) := X.out.cell 2 1 rfl rfl
    have c2_2 : u8.cell? ⟨bx0, 2, none⟩ = some (.slice gx02 p0z.length kx02) := X.out.cell 2 2 rfl rfl
    have c2_3 : u8.cell? ⟨bx0, 3, none⟩ = some (.slice gx03 p0t.length kx03) := X.out.cell 2 3 rfl rfl
    have c2_4 : u8.cell? ⟨bx0, 4, none⟩ = some (.int .i64 p0u) := X.out.cell 2 4 rfl rfl
    go_wp2_with fail
    clear c2_0 c2_1 c2_2 c2_3 c2_4
    go_at_call 30
    refine (HIP.out _ _ (PD0.out _ _ _ _ Cx0.out) _ (PD1.out _ _ _ _ Cx1.out)).mono ?_
    rintro e u9 ⟨vv, rfl, CG0, hb⟩
    obtain ⟨gG00, kG00, gG01, kG01, gG02, kG02, gG03, kG03, hf⟩ := CG0.form
    subst hf
    obtain ⟨loG0, hlo⟩ : ∃ q, q = u8.heap.size := ⟨_, rfl⟩
    obtain ⟨hiG0, hhi⟩ : ∃ q, q = u9.heap.size := ⟨_, rfl⟩
    have hw : u8.heap.size ≤ loG0 := by omega
    have NXG0a := hide hw
    have hw : hiG0 ≤ u9.heap.size := by omega
    have NXG0b := hide hw
    rw [← hlo, ← hhi] at CG0
    have CG0 := hide CG0
    clear hw hlo hhi
    have X := hide (X.out.up hb)
    have CA0 := hide (CA0.out.below hb)
    have Cx0 := hide (Cx0.out.below hb)
    have Cx1 := hide (Cx1.out.below hb)
    have NN19 := hide (hb.size)
    clear hb
    have hbl := below1 u9 (.cells #[.slice gG00 r0x.length kG00, .slice gG01 r0y.length kG01, .slice gG02 r0z.length kG02, .slice gG03 r0t.length kG03, .int .i64 r0u] 27)
    have X := hide (X.out.alloc #[.slice gG00 r0x.length kG00, .slice gG01 r0y.length kG01, .slice gG02 r0z.length kG02, .slice gG03 r0t.length kG03, .int .i64 r0u] 27)
    have CA0 := hide (CA0.out.below hbl)
    have Cx0 := hide (Cx0.out.below hbl)
    have Cx1 := hide (Cx1.out.below hbl)
    have CG0 := hide (CG0.out.below hbl)
    clear hbl
    obtain ⟨u10, hu10⟩ : ∃ q, q = u9.alloc (.cells #[.slice gG00 r0x.length kG00, .slice gG01 r0y.length kG01, .slice gG02 r0z.length kG02, .slice gG03 r0t.length kG03, .int .i64 r0u] 27) := ⟨_, rfl⟩
    obtain ⟨bxG0, hbxG0⟩ : ∃ q, q = u9.heap.size := ⟨_, rfl⟩
    have NN22 := hide (show bxG0 = u9.heap.size ∧ u10.heap.size = u9.heap.size + 1 by rw [hu10, hbxG0]; simp)
    rw [← hu10] at X CA0 Cx0 Cx1 CG0
    rw [← hbxG0] at X
    simp only [List.cons_append, List.nil_append] at X
    have c3_0 : u10.cell? ⟨bxG0, 0, none⟩ = some (.slice gG00 r0x.length kG00) := X.out.cell 3 0 rfl rfl
    have c3_1 : u10.cell? ⟨bxG0, 1, none⟩ = some (.slice gG01 r0y.length kG01) := X.out.cell 3 1 rfl rfl
    have c3_2 : u10.cell? ⟨bxG0, 2, none⟩ = some (.slice gG02 r0z.length kG02) := X.out.cell 3 2 rfl rfl
    have c3_3 : u10.cell? ⟨bxG0, 3, none⟩ = some (.slice gG03 r0t.length kG03) := X.out.cell 3 3 rfl rfl
    have c3_4 : u10.cell? ⟨bxG0, 4, none⟩ = some (.int .i64 r0u) := X.out.cell 3 4 rfl rfl
    have c1_0 : u10.cell? ⟨bxA0, 0, none⟩ = some (.slice gA00 r0x.length kA00) := X.out.cell 1 0 rfl rfl
    have c1_1 : u10.cell? ⟨bxA0, 1, none⟩ = some (.slice gA01 r0y.length kA01) := X.out.cell 1 1 rfl rfl
    have c1_2 : u10.cell? ⟨bxA0, 2, none⟩ = some (.slice gA02 r0z.length kA02) := X.out.cell 1 2 rfl rfl
    have c1_3 : u10.cell? ⟨bxA0, 3, none⟩ = some (.slice gA03 r0t.length kA03) := X.out.cell 1 3 rfl rfl
    have c1_4 : u10.cell? ⟨bxA0, 4, none⟩ = some (.int .i64 r0u) := X.out.cell 1 4 rfl rfl
    rw [hu10] at c3_0 c3_1 c3_2 c3_3 c3_4 c1_0 c1_1 c1_2 c1_3 c1_4
    go_wp2_with fail
    rw [← hu10]
    try rw [← hbxG0]
    clear hu10 hbxG0
    clear c3_0 c3_1 c3_2 c3_3 c3_4 c1_0 c1_1 c1_2 c1_3 c1_4
    go_at_call 18
    refine (eqMap_same _ _ r0x r0y r0z r0t r0u _ _ (Nat.le_refl _) (RD0.out _ _ _ _ CG0.out) (RD0.out _ _ _ _ CA0.out)).mono ?_
    rintro e u11 ⟨rfl, hb⟩
    have X := hide (X.out.up hb)
    have CA0 := hide (CA0.out.below hb)
    have Cx0 := hide (Cx0.out.below hb)
    have Cx1 := hide (Cx1.out.below hb)
    have CG0 := hide (CG0.out.below hb)
    have NN23 := hide (hb.size)
    clear hb
    -- region 13
    go_upto_region 13 with fail
    have X1 := X
    refine wp_region_any (by kernel_rfl) ?_
    refine wpAny_facts (w0 := u11) (fun i => ([(fun lo hi s W => s 62 = .agg #[.slice gx00 p0x.length kx00, .slice gx01 p0y.length kx01, .slice gx02 p0z.length kx02, .slice gx03 p0t.length kx03, .int .i64 p0u]),
      (fun lo hi s W => s 63 = .agg #[.slice s00 p0x.length c00, .slice s01 p0y.length c01, .slice s02 p0z.length c02, .slice s03 p0t.length c03, .int .i64 p0u]),
      (fun lo hi s W => MpO W (s 64) p0x p0y p0z p0t p0u lo hi),
      (fun lo hi s W => s 65 = .bool true),
      (fun lo hi s W => s 66 = .bool false)] : List (Nat → Nat → (Nat → Value) → World → Prop)).getD i (fun _ _ _ _ => True)) [[], [], [1], [0, 1, 2], [0, 1, 2, 3]] [0, 1, 2, 3, 4] [[62], [63], [64], [65], [66]] [[], [], [], [], []] (by kernel_rfl) (by kernel_rfl) ?st ?step ?fin
    case st =>
      clear HSP HIP
      intro i hi lo hi' s W W' h q1 q2 q3 q4 k
      have hi : i < 5 := hi
      clear X X1 CA0 Cx0 Cx1 CG0
      rcases (show i = 0 ∨ i = 1 ∨ i = 2 ∨ i = 3 ∨ i = 4 by omega) with rfl | rfl | rfl | rfl | rfl
      · have h : s 62 = .agg #[.slice gx00 p0x.length kx00, .slice gx01 p0y.length kx01, .slice gx02 p0z.length kx02, .slice gx03 p0t.length kx03, .int .i64 p0u] := h
        show s 62 = .agg #[.slice gx00 p0x.length kx00, .slice gx01 p0y.length kx01, .slice gx02 p0z.length kx02, .slice gx03 p0t.length kx03, .int .i64 p0u]
        exact h
      · have h : s 63 = .agg #[.slice s00 p0x.length c00, .slice s01 p0y.length c01, .slice s02 p0z.length c02, .slice s03 p0t.length c03, .int .i64 p0u] := h
        show s 63 = .agg #[.slice s00 p0x.length c00, .slice s01 p0y.length c01, .slice s02 p0z.length c02, .slice s03 p0t.length c03, .int .i64 p0u]
        exact h
      · have h : MpO W (s 64) p0x p0y p0z p0t p0u lo hi' := h
        show MpO W' (s 64) p0x p0y p0z p0t p0u lo hi'
        exact h.on k
      · have h : s 65 = .bool true := h
        show s 65 = .bool true
        exact h
      · have h : s 66 = .bool false := h
        show s 66 = .bool false
        exact h
    case step =>
      intro i hi a W iv hb hsz hdf hrest hanc hivs hap K HK
      have hi : i < 5 := hi
      have HK := hide HK
      have HAN := hide hanc
      have HIV := hide hivs
      have HRS := hide hrest
      have XU := hide (X1.out.up hb)
      have HB := hide hb
      clear hanc hivs hap hrest hb hsz hdf X X1
      rcases (show i = 0 ∨ i = 1 ∨ i = 2 ∨ i = 3 ∨ i = 4 by omega) with rfl | rfl | rfl | rfl | rfl
      · refine wpOp_step (o := _) rfl fun K' hK => ?_
        rw [if_pos (by go_simp)]
        have e1 : a.tmps.getD 9 undef = .pointer (some ⟨bx0, 0, none⟩) := (HRS.out 9 (by decide)).trans rfl
        have c0 : W.cell? ⟨bx0, 0, none⟩ = some (.slice gx00 p0x.length kx00) := XU.out.cell 2 0 rfl rfl
        have c1 : W.cell? ⟨bx0, 1, none⟩ = some (.slice gx01 p0y.length kx01) := XU.out.cell 2 1 rfl rfl
        have c2 : W.cell? ⟨bx0, 2, none⟩ = some (.slice gx02 p0z.length kx02) := XU.out.cell 2 2 rfl rfl
        have c3 : W.cell? ⟨bx0, 3, none⟩ = some (.slice gx03 p0t.length kx03) := XU.out.cell 2 3 rfl rfl
        have c4 : W.cell? ⟨bx0, 4, none⟩ = some (.int .i64 p0u) := XU.out.cell 2 4 rfl rfl
        go_simp
        exact hK _ _ (HK.out _ _ ⟨fun _ => ⟨Below.refl _ _, rfl⟩, fun h => absurd rfl h⟩)
      · refine wpOp_step (o := _) rfl fun K' hK => ?_
        rw [if_pos (by go_simp)]
        have e1 : a.tmps.getD 2 undef = .pointer (some ⟨w.heap.size, 0, none⟩) := (HRS.out 2 (by decide)).trans rfl
        have c0 : W.cell? ⟨w.heap.size, 0, none⟩ = some (.slice s00 p0x.length c00) := XU.out.cell 0 0 rfl rfl
        have c1 : W.cell? ⟨w.heap.size, 1, none⟩ = some (.slice s01 p0y.length c01) := XU.out.cell 0 1 rfl rfl
        have c2 : W.cell? ⟨w.heap.size, 2, none⟩ = some (.slice s02 p0z.length c02) := XU.out.cell 0 2 rfl rfl
        have c3 : W.cell? ⟨w.heap.size, 3, none⟩ = some (.slice s03 p0t.length c03) := XU.out.cell 0 3 rfl rfl
        have c4 : W.cell? ⟨w.heap.size, 4, none⟩ = some (.int .i64 p0u) := XU.out.cell 0 4 rfl rfl
        go_simp
        exact hK _ _ (HK.out _ _ ⟨fun _ => ⟨Below.refl _ _, rfl⟩, fun h => absurd rfl h⟩)
      · refine wpOp_step (o := _) rfl fun K' hK => ?_
        rw [if_pos (by go_simp)]
        have e1 : a.tmps.getD 63 undef = .agg #[.slice s00 p0x.length c00, .slice s01 p0y.length c01, .slice s02 p0z.length c02, .slice s03 p0t.length c03, .int .i64 p0u] := HAN.out 1 (by decide)
        go_simp
        go_at_call 25
        refine (T0.out _ XU.out.below).mono ?_
        rintro e W' ⟨vv, rfl, ho, hbb⟩
        skip
        exact hK _ _ (HK.out _ _ ⟨fun _ => ⟨hbb, ho⟩, fun h => absurd rfl h⟩)
      · refine wpOp_step (o := _) rfl fun K' hK => ?_
        rw [if_pos (by go_simp)]
        have e1 : a.tmps.getD 62 undef = .agg #[.slice gx00 p0x.length kx00, .slice gx01 p0y.length kx01, .slice gx02 p0z.length kx02, .slice gx03 p0t.length kx03, .int .i64 p0u] := HAN.out 0 (by decide)
        have k1 : MpO W (a.tmps.getD 64 undef) p0x p0y p0z p0t p0u _ _ := HAN.out 2 (by decide)
        obtain ⟨y1, hy1⟩ : ∃ q, a.tmps.getD 64 undef = q := ⟨_, rfl⟩
        rw [hy1] at k1
        have k1 := hide (PD0.out _ _ _ _ k1)
        have k0 := hide (PD0.out _ _ _ _ (Cx0.out.below HB.out))
        go_simp
        go_at_call 18
        refine (eqMap_same _ _ p0x p0y p0z p0t p0u _ _ (Nat.le_refl _) k0.out k1.out).mono ?_
        rintro e W' ⟨rfl, hbb⟩
        skip
        exact hK _ _ (HK.out _ _ ⟨fun _ => ⟨hbb, rfl⟩, fun h => absurd rfl h⟩)
      · refine wpOp_step (o := _) rfl fun K' hK => ?_
        rw [if_pos (by go_simp)]
        have e1 : a.tmps.getD 65 undef = .bool true := HAN.out 3 (by decide)
        go_simp
        exact hK _ _ (HK.out _ _ ⟨fun _ => ⟨Below.refl _ _, rfl⟩, fun h => absurd rfl h⟩)
    case fin =>
    intro a u12 iv I
    have hbY := I.below
    have CA0 := hide (CA0.out.below hbY)
    have Cx0 := hide (Cx0.out.below hbY)
    have Cx1 := hide (Cx1.out.below hbY)
    have CG0 := hide (CG0.out.below hbY)
    have X0 := X1
    have X := hide (X1.out.up hbY)
    clear X1
    have F0 : slot a 62 = .agg #[.slice gx00 p0x.length kx00, .slice gx01 p0y.length kx01, .slice gx02 p0z.length kx02, .slice gx03 p0t.length kx03, .int .i64 p0u] := (I.fact 0 (by decide) rfl).2
    have F1 : slot a 63 = .agg #[.slice s00 p0x.length c00, .slice s01 p0y.length c01, .slice s02 p0z.length c02, .slice s03 p0t.length c03, .int .i64 p0u] := (I.fact 1 (by decide) rfl).2
    have F2 : MpO u12 (slot a 64) p0x p0y p0z p0t p0u (iv 2).1 (iv 2).2 := (I.fact 2 (by decide) rfl).2
    have F3 : slot a 65 = .bool true := (I.fact 3 (by decide) rfl).2
    have F4 : slot a 66 = .bool false := (I.fact 4 (by decide) rfl).2
    have hfr := frame_of [62, 63, 64, 65, 66] I.size I.defers (fun s hs => I.rest s (rfDsts_spec (by kernel_rfl) hs))
    rw [hfr]
    simp only [List.foldl_cons, List.foldl_nil, List.setIfInBounds_toArray, List.set_cons_succ, List.set_cons_zero, F4]
    generalize slot a 62 = t62
    generalize slot a 63 = t63
    generalize slot a 64 = t64
    generalize slot a 65 = t65
    have NN24 := hide (hbY.size)
    try clear I
    try clear hfr
    try clear hbY
    try clear X0
    try clear F0
    try clear F1
    try clear F2
    try clear F3
    try clear F4
    try clear iv a
    go_wp2_with fail
    go_at_call 16
    refine (T1.out _ X.out.below).mono ?_
    rintro e u13 ⟨vv, rfl, Ce1, hb⟩
    obtain ⟨ge10, ke10, hf⟩ := Ce1.form
    subst hf
    obtain ⟨loe1, hlo⟩ : ∃ q, q = u12.heap.size := ⟨_, rfl⟩
    obtain ⟨hie1, hhi⟩ : ∃ q, q = u13.heap.size := ⟨_, rfl⟩
    have hw : u12.heap.size ≤ loe1 := by omega
    have NXe1a := hide hw
    have hw : hie1 ≤ u13.heap.size := by omega
    have NXe1b := hide hw
    rw [← hlo, ← hhi] at Ce1
    have Ce1 := hide Ce1
    clear hw hlo hhi
    have X := hide (X.out.up hb)
    have CA0 := hide (CA0.out.below hb)
    have Cx0 := hide (Cx0.out.below hb)
    have Cx1 := hide (Cx1.out.below hb)
    have CG0 := hide (CG0.out.below hb)
    have NN25 := hide (hb.size)
    clear hb
    go_wp2_with fail
    go_at_call 19
    refine (eqIntS_same _ _ p1x _ _ (Nat.le_refl _) (PD1.out _ _ _ _ Cx1.out).1 (PD1.out _ _ _ _ Ce1.out).1).mono ?_
    rintro e u14 ⟨rfl, hb⟩
    have X := hide (X.out.up hb)
    have CA0 := hide (CA0.out.below hb)
    have Cx0 := hide (Cx0.out.below hb)
    have Cx1 := hide (Cx1.out.below hb)
    have CG0 := hide (CG0.out.below hb)
    have Ce1 := hide (Ce1.out.below hb)
    have NN28 := hide (hb.size)
    clear hb
    clear Ce1
    have c2_0 : u14.cell? ⟨bx0, 0, none⟩ = some (.slice gx00 p0x.length kx00) := X.out.cell 2 0 rfl rfl
    have c2_1 : u14.cell? ⟨bx0, 1, none⟩ = some (.slice gx01 p0y.length kx01) := X.out.cell 2 1 rfl rfl
    have c2_2 : u14.cell? ⟨bx0, 2, none⟩ = some (.slice gx02 p0z.length kx02) := X.out.cell 2 2 rfl rfl
    have c2_3 : u14.cell? ⟨bx0, 3, none⟩ = some (.slice gx03 p0t.length kx03) := X.out.cell 2 3 rfl rfl
    have c2_4 : u14.cell? ⟨bx0, 4, none⟩ = some (.int .i64 p0u) := X.out.cell 2 4 rfl rfl
    go_wp2_with fail
    clear c2_0 c2_1 c2_2 c2_3 c2_4
    go_at_call 21
    refine (HA0.out _ _ _ _ Cx0.out).mono ?_
    rintro e u15 ⟨rfl, ho, s⟩
    have qN0 := N0.out
    have qN1 := N1.out
    have qNN2 := NN2.out
    have qNXy0a := NXy0a.out
    have qNXy0b := NXy0b.out
    have qNN5 := NN5.out
    have qNXy1a := NXy1a.out
    have qNXy1b := NXy1b.out
    have qNN8 := NN8.out
    have qNXA0a := NXA0a.out
    have qNXA0b := NXA0b.out
    have qNN11 := NN11.out
    have qNN12 := NN12.out
    have qNXx0a := NXx0a.out
    have qNXx0b := NXx0b.out
    have qNN15 := NN15.out
    have qNN16 := NN16.out
    have qNXx1a := NXx1a.out
    have qNXx1b := NXx1b.out
    have qNN19 := NN19.out
    have qNXG0a := NXG0a.out
    have qNXG0b := NXG0b.out
    have qNN22 := NN22.out
    have qNN23 := NN23.out
    have qNN24 := NN24.out
    have qNN25 := NN25.out
    have qNXe1a := NXe1a.out
    have qNXe1b := NXe1b.out
    have qNN28 := NN28.out
    have tA0 := CA0.out.top.1
    have tx0 := Cx0.out.top.1
    have tx1 := Cx1.out.top.1
    have tG0 := CG0.out.top.1
    have X := hide (X.out.seg s (by omega) (by simp; omega))
    have CA0 := hide (CA0.out.seg s (by omega))
    have Cx1 := hide (Cx1.out.seg s (by omega))
    have CG0 := hide (CG0.out.seg s (by omega))
    have hbs := s.below.size
    clear s qN0 qN1 qNN2 qNXy0a qNXy0b qNN5 qNXy1a qNXy1b qNN8 qNXA0a qNXA0b qNN11 qNN12 qNXx0a qNXx0b qNN15 qNN16 qNXx1a qNXx1b qNN19 qNXG0a qNXG0b qNN22 qNN23 qNN24 qNN25 qNXe1a qNXe1b qNN28  tA0 tx0 tx1 tG0
    have NN29 := hide hbs
    clear hbs
    clear ho Cx0
    go_wp2_with fail
    go_at_call 20
    refine (HA1.out _ _ _ _ Cx1.out).mono ?_
    rintro e u16 ⟨rfl, ho, s⟩
    have qN0 := N0.out
    have qN1 := N1.out
    have qNN2 := NN2.out
    have qNXy0a := NXy0a.out
    have qNXy0b := NXy0b.out
    have qNN5 := NN5.out
    have qNXy1a := NXy1a.out
    have qNXy1b := NXy1b.out
    have qNN8 := NN8.out
    have qNXA0a := NXA0a.out
    have qNXA0b := NXA0b.out
    have qNN11 := NN11.out
    have qNN12 := NN12.out
    have qNXx0a := NXx0a.out
    have qNXx0b := NXx0b.out
    have qNN15 := NN15.out
    have qNN16 := NN16.out
    have qNXx1a := NXx1a.out
    have qNXx1b := NXx1b.out
    have qNN19 := NN19.out
    have qNXG0a := NXG0a.out
    have qNXG0b := NXG0b.out
    have qNN22 := NN22.out
    have qNN23 := NN23.out
    have qNN24 := NN24.out
    have qNN25 := NN25.out
    have qNXe1a := NXe1a.out
    have qNXe1b := NXe1b.out
    have qNN28 := NN28.out
    have qNN29 := NN29.out
    have tA0 := CA0.out.top.1
    have tx1 := Cx1.out.top.1
    have tG0 := CG0.out.top.1
    have X := hide (X.out.seg s (by omega) (by simp; omega))
    have CA0 := hide (CA0.out.seg s (by omega))
    have CG0 := hide (CG0.out.seg s (by omega))
    have hbs := s.below.size
    clear s qN0 qN1 qNN2 qNXy0a qNXy0b qNN5 qNXy1a qNXy1b qNN8 qNXA0a qNXA0b qNN11 qNN12 qNXx0a qNXx0b qNN15 qNN16 qNXx1a qNXx1b qNN19 qNXG0a qNXG0b qNN22 qNN23 qNN24 qNN25 qNXe1a qNXe1b qNN28 qNN29  tA0 tx1 tG0
    have NN30 := hide hbs
    clear hbs
    clear ho Cx1
    have c3_0 : u16.cell? ⟨bxG0, 0, none⟩ = some (.slice gG00 r0x.length kG00) := X.out.cell 3 0 rfl rfl
    have c3_1 : u16.cell? ⟨bxG0, 1, none⟩ = some (.slice gG01 r0y.length kG01) := X.out.cell 3 1 rfl rfl
    have c3_2 : u16.cell? ⟨bxG0, 2, none⟩ = some (.slice gG02 r0z.length kG02) := X.out.cell 3 2 rfl rfl
    have c3_3 : u16.cell? ⟨bxG0, 3, none⟩ = some (.slice gG03 r0t.length kG03) := X.out.cell 3 3 rfl rfl
    have c3_4 : u16.cell? ⟨bxG0, 4, none⟩ = some (.int .i64 r0u) := X.out.cell 3 4 rfl rfl
    have c1_0 : u16.cell? ⟨bxA0, 0, none⟩ = some (.slice gA00 r0x.length kA00) := X.out.cell 1 0 rfl rfl
    have c1_1 : u16.cell? ⟨bxA0, 1, none⟩ = some (.slice gA01 r0y.length kA01) := X.out.cell 1 1 rfl rfl
    have c1_2 : u16.cell? ⟨bxA0, 2, none⟩ = some (.slice gA02 r0z.length kA02) := X.out.cell 1 2 rfl rfl
    have c1_3 : u16.cell? ⟨bxA0, 3, none⟩ = some (.slice gA03 r0t.length kA03) := X.out.cell 1 3 rfl rfl
    have c1_4 : u16.cell? ⟨bxA0, 4, none⟩ = some (.int .i64 r0u) := X.out.cell 1 4 rfl rfl
    go_wp2_with fail
    clear c3_0 c3_1 c3_2 c3_3 c3_4 c1_0 c1_1 c1_2 c1_3 c1_4
    go_at_call 18
    refine (eqMap_same _ _ r0x r0y r0z r0t r0u _ _ (Nat.le_refl _) (RD0.out _ _ _ _ CG0.out) (RD0.out _ _ _ _ CA0.out)).mono ?_
    rintro e u17 ⟨rfl, hb⟩
    have X := hide (X.out.up hb)
    have CA0 := hide (CA0.out.below hb)
    have CG0 := hide (CG0.out.below hb)
    have NN31 := hide (hb.size)
    clear hb
    have c3_0 : u17.cell? ⟨bxG0, 0, none⟩ = some (.slice gG00 r0x.length kG00) := X.out.cell 3 0 rfl rfl
    have c3_1 : u17.cell? ⟨bxG0, 1, none⟩ = some (.slice gG01 r0y.length kG01) := X.out.cell 3 1 rfl rfl
    have c3_2 : u17.cell? ⟨bxG0, 2, none⟩ = some (.slice gG02 r0z.length kG02) := X.out.cell 3 2 rfl rfl
    have c3_3 : u17.cell? ⟨bxG0, 3, none⟩ = some (.slice gG03 r0t.length kG03) := X.out.cell 3 3 rfl rfl
    have c3_4 : u17.cell? ⟨bxG0, 4, none⟩ = some (.int .i64 r0u) := X.out.cell 3 4 rfl rfl
    go_wp2_with fail
    clear c3_0 c3_1 c3_2 c3_3 c3_4
    go_at_call 21
    refine (HM0.out _ _ _ _ CG0.out).mono ?_
    rintro e u18 ⟨rfl, ho, s⟩
    have qN0 := N0.out
    have qN1 := N1.out
    have qNN2 := NN2.out
    have qNXy0a := NXy0a.out
    have qNXy0b := NXy0b.out
    have qNN5 := NN5.out
    have qNXy1a := NXy1a.out
    have qNXy1b := NXy1b.out
    have qNN8 := NN8.out
    have qNXA0a := NXA0a.out
    have qNXA0b := NXA0b.out
    have qNN11 := NN11.out
    have qNN12 := NN12.out
    have qNXx0a := NXx0a.out
    have qNXx0b := NXx0b.out
    have qNN15 := NN15.out
    have qNN16 := NN16.out
    have qNXx1a := NXx1a.out
    have qNXx1b := NXx1b.out
    have qNN19 := NN19.out
    have qNXG0a := NXG0a.out
    have qNXG0b := NXG0b.out
    have qNN22 := NN22.out
    have qNN23 := NN23.out
    have qNN24 := NN24.out
    have qNN25 := NN25.out
    have qNXe1a := NXe1a.out
    have qNXe1b := NXe1b.out
    have qNN28 := NN28.out
    have qNN29 := NN29.out
    have qNN30 := NN30.out
    have qNN31 := NN31.out
    have tA0 := CA0.out.top.1
    have tG0 := CG0.out.top.1
    have X := hide (X.out.seg s (by omega) (by simp; omega))
    have CA0 := hide (CA0.out.seg s (by omega))
    have hbs := s.below.size
    clear s qN0 qN1 qNN2 qNXy0a qNXy0b qNN5 qNXy1a qNXy1b qNN8 qNXA0a qNXA0b qNN11 qNN12 qNXx0a qNXx0b qNN15 qNN16 qNXx1a qNXx1b qNN19 qNXG0a qNXG0b qNN22 qNN23 qNN24 qNN25 qNXe1a qNXe1b qNN28 qNN29 qNN30 qNN31  tA0 tG0
    have NN32 := hide hbs
    clear hbs
    have CG0 := hide ho
    clear ho
    have c3_0 : u18.cell? ⟨bxG0, 0, none⟩ = some (.slice gG00 r0x.length kG00) := X.out.cell 3 0 rfl rfl
    have c3_1 : u18.cell? ⟨bxG0, 1, none⟩ = some (.slice gG01 r0y.length kG01) := X.out.cell 3 1 rfl rfl
    have c3_2 : u18.cell? ⟨bxG0, 2, none⟩ = some (.slice gG02 r0z.length kG02) := X.out.cell 3 2 rfl rfl
    have c3_3 : u18.cell? ⟨bxG0, 3, none⟩ = some (.slice gG03 r0t.length kG03) := X.out.cell 3 3 rfl rfl
    have c3_4 : u18.cell? ⟨bxG0, 4, none⟩ = some (.int .i64 r0u) := X.out.cell 3 4 rfl rfl
    go_wp2_with fail
    clear c3_0 c3_1 c3_2 c3_3 c3_4
    go_at_call 22
    refine (HH0.out _ _ _ _ CG0.out).mono ?_
    rintro e u19 ⟨rfl, hb⟩
    have X := hide (X.out.up hb)
    have CA0 := hide (CA0.out.below hb)
    have CG0 := hide (CG0.out.below hb)
    have NN33 := hide (hb.size)
    clear hb
    have c0_0 : u19.cell? ⟨w.heap.size, 0, none⟩ = some (.slice s00 p0x.length c00) := X.out.cell 0 0 rfl rfl
    have c0_1 : u19.cell? ⟨w.heap.size, 1, none⟩ = some (.slice s01 p0y.length c01) := X.out.cell 0 1 rfl rfl
    have c0_2 : u19.cell? ⟨w.heap.size, 2, none⟩ = some (.slice s02 p0z.length c02) := X.out.cell 0 2 rfl rfl
    have c0_3 : u19.cell? ⟨w.heap.size, 3, none⟩ = some (.slice s03 p0t.length c03) := X.out.cell 0 3 rfl rfl
    have c0_4 : u19.cell? ⟨w.heap.size, 4, none⟩ = some (.int .i64 p0u) := X.out.cell 0 4 rfl rfl
    go_wp2_with fail
    clear c0_0 c0_1 c0_2 c0_3 c0_4
    go_at_call 25
    refine (T0.out _ X.out.below).mono ?_
    rintro e u20 ⟨vv, rfl, Cz0, hb⟩
    obtain ⟨gz00, kz00, gz01, kz01, gz02, kz02, gz03, kz03, hf⟩ := Cz0.form
    subst hf
    obtain ⟨loz0, hlo⟩ : ∃ q, q = u19.heap.size := ⟨_, rfl⟩
    obtain ⟨hiz0, hhi⟩ : ∃ q, q = u20.heap.size := ⟨_, rfl⟩
    have hw : u19.heap.size ≤ loz0 := by omega
    have NXz0a := hide hw
    have hw : hiz0 ≤ u20.heap.size := by omega
    have NXz0b := hide hw
    rw [← hlo, ← hhi] at Cz0
    have Cz0 := hide Cz0
    clear hw hlo hhi
    have X := hide (X.out.up hb)
    have CA0 := hide (CA0.out.below hb)
    have CG0 := hide (CG0.out.below hb)
    have NN34 := hide (hb.size)
    clear hb
    go_wp2_with fail
    go_at_call 16
    refine (T1.out _ X.out.below).mono ?_
    rintro e u21 ⟨vv, rfl, Cz1, hb⟩
    obtain ⟨gz10, kz10, hf⟩ := Cz1.form
    subst hf
    obtain ⟨loz1, hlo⟩ : ∃ q, q = u20.heap.size := ⟨_, rfl⟩
    obtain ⟨hiz1, hhi⟩ : ∃ q, q = u21.heap.size := ⟨_, rfl⟩
    have hw : u20.heap.size ≤ loz1 := by omega
    have NXz1a := hide hw
    have hw : hiz1 ≤ u21.heap.size := by omega
    have NXz1b := hide hw
    rw [← hlo, ← hhi] at Cz1
    have Cz1 := hide Cz1
    clear hw hlo hhi
    have X := hide (X.out.up hb)
    have CA0 := hide (CA0.out.below hb)
    have CG0 := hide (CG0.out.below hb)
    have Cz0 := hide (Cz0.out.below hb)
    have NN37 := hide (hb.size)
    clear hb
    go_wp2_with fail
    go_at_call 30
    refine (HIP.out _ _ (PD0.out _ _ _ _ Cz0.out) _ (PD1.out _ _ _ _ Cz1.out)).mono ?_
    rintro e u22 ⟨vv, rfl, CH0, hb⟩
    obtain ⟨gH00, kH00, gH01, kH01, gH02, kH02, gH03, kH03, hf⟩ := CH0.form
    subst hf
    obtain ⟨loH0, hlo⟩ : ∃ q, q = u21.heap.size := ⟨_, rfl⟩
    obtain ⟨hiH0, hhi⟩ : ∃ q, q = u22.heap.size := ⟨_, rfl⟩
    have hw : u21.heap.size ≤ loH0 := by omega
    have NXH0a := hide hw
    have hw : hiH0 ≤ u22.heap.size := by omega
    have NXH0b := hide hw
    rw [← hlo, ← hhi] at CH0
    have CH0 := hide CH0
    clear hw hlo hhi
    have X := hide (X.out.up hb)
    have CA0 := hide (CA0.out.below hb)
    have CG0 := hide (CG0.out.below hb)
    have Cz0 := hide (Cz0.out.below hb)
    have Cz1 := hide (Cz1.out.below hb)
    have NN40 := hide (hb.size)
    clear hb
    have hbl := below1 u22 (.cells #[.slice gH00 r0x.length kH00, .slice gH01 r0y.length kH01, .slice gH02 r0z.length kH02, .slice gH03 r0t.length kH03, .int .i64 r0u] 27)
    have X := hide (X.out.alloc #[.slice gH00 r0x.length kH00, .slice gH01 r0y.length kH01, .slice gH02 r0z.length kH02, .slice gH03 r0t.length kH03, .int .i64 r0u] 27)
    have CA0 := hide (CA0.out.below hbl)
    have CG0 := hide (CG0.out.below hbl)
    have Cz0 := hide (Cz0.out.below hbl)
    have Cz1 := hide (Cz1.out.below hbl)
    have CH0 := hide (CH0.out.below hbl)
    clear hbl
    obtain ⟨u23, hu23⟩ : ∃ q, q = u22.alloc (.cells #[.slice gH00 r0x.length kH00, .slice gH01 r0y.length kH01, .slice gH02 r0z.length kH02, .slice gH03 r0t.length kH03, .int .i64 r0u] 27) := ⟨_, rfl⟩
    obtain ⟨bxH0, hbxH0⟩ : ∃ q, q = u22.heap.size := ⟨_, rfl⟩
    have NN43 := hide (show bxH0 = u22.heap.size ∧ u23.heap.size = u22.heap.size + 1 by rw [hu23, hbxH0]; simp)
    rw [← hu23] at X CA0 CG0 Cz0 Cz1 CH0
    rw [← hbxH0] at X
    simp only [List.cons_append, List.nil_append] at X
    clear Cz0
    clear Cz1
    have c4_0 : u23.cell? ⟨bxH0, 0, none⟩ = some (.slice gH00 r0x.length kH00) := X.out.cell 4 0 rfl rfl
    have c4_1 : u23.cell? ⟨bxH0, 1, none⟩ = some (.slice gH01 r0y.length kH01) := X.out.cell 4 1 rfl rfl
    have c4_2 : u23.cell? ⟨bxH0, 2, none⟩ = some (.slice gH02 r0z.length kH02) := X.out.cell 4 2 rfl rfl
    have c4_3 : u23.cell? ⟨bxH0, 3, none⟩ = some (.slice gH03 r0t.length kH03) := X.out.cell 4 3 rfl rfl
    have c4_4 : u23.cell? ⟨bxH0, 4, none⟩ = some (.int .i64 r0u) := X.out.cell 4 4 rfl rfl
    have c1_0 : u23.cell? ⟨bxA0, 0, none⟩ = some (.slice gA00 r0x.length kA00) := X.out.cell 1 0 rfl rfl
    have c1_1 : u23.cell? ⟨bxA0, 1, none⟩ = some (.slice gA01 r0y.length kA01) := X.out.cell 1 1 rfl rfl
    have c1_2 : u23.cell? ⟨bxA0, 2, none⟩ = some (.slice gA02 r0z.length kA02) := X.out.cell 1 2 rfl rfl
    have c1_3 : u23.cell? ⟨bxA0, 3, none⟩ = some (.slice gA03 r0t.length kA03) := X.out.cell 1 3 rfl rfl
    have c1_4 : u23.cell? ⟨bxA0, 4, none⟩ = some (.int .i64 r0u) := X.out.cell 1 4 rfl rfl
    rw [hu23] at c4_0 c4_1 c4_2 c4_3 c4_4 c1_0 c1_1 c1_2 c1_3 c1_4
    go_wp2_with fail
    rw [← hu23]
    try rw [← hbxH0]
    clear hu23 hbxH0
    clear c4_0 c4_1 c4_2 c4_3 c4_4 c1_0 c1_1 c1_2 c1_3 c1_4
    go_at_call 18
    refine (eqMap_same _ _ r0x r0y r0z r0t r0u _ _ (Nat.le_refl _) (RD0.out _ _ _ _ CH0.out) (RD0.out _ _ _ _ CA0.out)).mono ?_
    rintro e u24 ⟨rfl, hb⟩
    have X := hide (X.out.up hb)
    have CA0 := hide (CA0.out.below hb)
    have CG0 := hide (CG0.out.below hb)
    have CH0 := hide (CH0.out.below hb)
    have NN44 := hide (hb.size)
    clear hb
    have c3_0 : u24.cell? ⟨bxG0, 0, none⟩ = some (.slice gG00 r0x.length kG00) := X.out.cell 3 0 rfl rfl
    have c3_1 : u24.cell? ⟨bxG0, 1, none⟩ = some (.slice gG01 r0y.length kG01) := X.out.cell 3 1 rfl rfl
    have c3_2 : u24.cell? ⟨bxG0, 2, none⟩ = some (.slice gG02 r0z.length kG02) := X.out.cell 3 2 rfl rfl
    have c3_3 : u24.cell? ⟨bxG0, 3, none⟩ = some (.slice gG03 r0t.length kG03) := X.out.cell 3 3 rfl rfl
    have c3_4 : u24.cell? ⟨bxG0, 4, none⟩ = some (.int .i64 r0u) := X.out.cell 3 4 rfl rfl
    go_wp2_with fail
    clear c3_0 c3_1 c3_2 c3_3 c3_4
    go_at_call 22
    refine (HH0.out _ _ _ _ CG0.out).mono ?_
    rintro e u25 ⟨rfl, hb⟩
    have X := hide (X.out.up hb)
    have CA0 := hide (CA0.out.below hb)
    have CG0 := hide (CG0.out.below hb)
    have CH0 := hide (CH0.out.below hb)
    have NN45 := hide (hb.size)
    clear hb
    go_wp2_with fail
    go_ret
    exact ⟨rfl, X.out.below⟩

set_option maxRecDepth 100000 in
theorem lifted (os : Os) (started : os.Started) (H : Type) (enc : TypeId × Value → H) :
    ReturnsInHanded {} Try.checked os 6 .any (Rows.fnExactAlignMapSpec.pre6 enc Try.prog Try.f6 Rows.fnExactAlignMapRow.domain false) (Rows.fnExactAlignMapSpec.post enc Try.prog Try.f6 false true false false) := by
  refine returnsInHanded_of_change (C := Try.checked) own started (by kernel_rfl) Try.func6
    (ChangeSpec.witness6 (enc := enc) (C := Try.checked) false ⟨#[], #[.agg #[.slice none 0 0, .slice none 0 0, .slice none 0 0, .slice none 0 0, .int .i64 0], .slice none 0 0], []⟩ 8 (by kernel_rfl) (by kernel_rfl) (by kernel_rfl) (by kernel_rfl)) ?_
  intro W base args ds gs before hval0 hW hcnd _
  have hval : ∀ (j : Nat) t v, Try.f6.params[j]? = some t → args[j]? = some v → Value.okWide Try.prog W .any base t v := hval0
  have hW' := hW
  obtain ⟨p, q, hA0, hV, rfl, hfz, hnd⟩ := hW
  have hA : DataW.TrodAll enc Try.prog W 0 (fun _ => true) true Try.f6.params.toList args.toList ds p := hA0
  rw [Try.params6] at hA hval
  obtain ⟨v0, vs0, d0, ds0, p0, q0, hargs, rfl, rfl, h0, r0⟩ := trodAll_cons hA
  obtain ⟨v1, vs1, d1, ds1, p1, q1, rfl, rfl, rfl, h1, r1⟩ := trodAll_cons r0
  obtain ⟨rfl, rfl, rfl⟩ := trodAll_nil r1
  obtain rfl : args = #[v0, v1] := by cases args; simp_all
  obtain ⟨rfl, rfl⟩ := trodVars_none hV
  have k0 := h0
  have lt0 : ∀ x ∈ p0, x.block < W.heap.size := by obtain ⟨m, hm⟩ := k0; exact DataW.trod_lt m _ _ _ hm
  have k1 := h1
  have lt1 : ∀ x ∈ p1, x.block < W.heap.size := by obtain ⟨m, hm⟩ := k1; exact DataW.trod_lt m _ _ _ hm
  have w0 := open_mp (hval 0 38 v0 rfl rfl) h0
  have w1 := open_intS (hval 1 22 v1 rfl rfl) h1
  clear hA0 hval0
  refine (walk W v0 w0 v1 w1).mono fun e W' ⟨he, bel⟩ => ?_
  subst he
  exact ⟨_, rfl, _, _, _, [], _, [], hW', trodAll_mk1 (shut_bool Try.underlying4 _), (trodAll_cons_mk (Below.trod laidOut (by kernel_rfl) (of_decide_eq_true (by kernel_rfl)) k0 bel lt0) (trodAll_cons_mk (Below.trod laidOut (by kernel_rfl) (of_decide_eq_true (by kernel_rfl)) k1 bel lt1) trodAll_mk0)), rfl, bel.frame _, fun h => by cases h⟩

theorem over : Rows.fnExactAlignMapRow.holds Try.pinned (OpenSpec.ofChange Rows.fnExactAlignMapSpec) :=
  OpenClaim.holds_of_wide 6 Try.f6 rfl rfl rfl rfl rfl rfl rfl ⟨rfl, rfl, rfl, rfl, rfl⟩ rfl rfl rfl rfl rfl (by kernel_rfl) Try.func6 (by kernel_rfl)
    (of_decide_eq_true (by kernel_rfl)) (by unfold Func.isWrapper; first | (rw [if_pos (by decide +kernel)]; kernel_rfl) | (rw [if_neg (by decide +kernel)]; exact ⟨rfl, rfl⟩))
    (fun os started H enc _ => lifted os started H enc)

/-- The statement. -/
theorem proved : Rows.FnExactAlignMapSaid := over
#print axioms proved
end Go.Proofs.Ytepkkeclkdlheaa.fnExactAlignMap
