/- The law FnExactEqualMaps holds: whatever the arguments, the call returns true, and they read afterwards as before. -/
import Derived.Test.YtepkkeclkdlheaaRows
import Derived.WalkKit
import Derived.ProofKit
import Derived.OpenShut
import Derived.ShutString
import Derived.ChangeOld
import Derived.Below
import Derived.Test.YtepkkeclkdlheaaMpB
import Derived.Test.YtepkkeclkdlheaaOck
namespace Go.Proofs.Ytepkkeclkdlheaa.fnExactEqualMaps
open Go.ChangeShapes Go.WideShapes Go.ChangeAt Go.RowKit
open Go.ChangeMaps (open_string shut_string)
set_option linter.unusedVariables false
set_option linter.unusedSimpArgs false

theorem own : ownKnob Try.prog.godebug = none := by kernel_rfl
theorem laidOut : laidOutB Try.prog = true := by kernel_rfl

set_option maxRecDepth 100000 in
set_option maxHeartbeats 40000000 in
theorem walk (w : World) (v0 : Value) (w0' : ∃ p0x p0y p0z p0t p0u, Mp w w.heap.size v0 p0x p0y p0z p0t p0u) (v1 : Value) (w1' : ∃ p1x p1y p1z p1t p1u, Mp w w.heap.size v1 p1x p1y p1z p1t p1u) :
    Calls Try.prog 8 #[v0, v1] w fun e w' => e = .returned (.bool true) ∧ Below w.heap.size w w' := by
  obtain ⟨p0x, p0y, p0z, p0t, p0u, hv0⟩ := w0'
  obtain ⟨s00, c00, s01, c01, s02, c02, s03, c03, rfl, -⟩ := hv0.form
  have hwf0 : MpWf p0x p0y p0z p0t p0u := hv0.wf
  have V0 := hide hv0
  clear hv0
  obtain ⟨p1x, p1y, p1z, p1t, p1u, hv1⟩ := w1'
  obtain ⟨s10, c10, s11, c11, s12, c12, s13, c13, rfl, -⟩ := hv1.form
  have hwf1 : MpWf p1x p1y p1z p1t p1u := hv1.wf
  have V1 := hide hv1
  clear hv1
  obtain ⟨wC, hwC⟩ : ∃ q, q = (w.alloc (.cells #[.slice s00 p0x.length c00, .slice s01 p0y.length c01, .slice s02 p0z.length c02, .slice s03 p0t.length c03, .int .i64 p0u] 38)).alloc (.cells #[.slice s10 p1x.length c10, .slice s11 p1y.length c11, .slice s12 p1z.length c12, .slice s13 p1t.length c13, .int .i64 p1u] 38) := ⟨_, rfl⟩
  have X : Hid (Kn w wC [(w.heap.size, #[.slice s00 p0x.length c00, .slice s01 p0y.length c01, .slice s02 p0z.length c02, .slice s03 p0t.length c03, .int .i64 p0u], 38), (w.heap.size + 1, #[.slice s10 p1x.length c10, .slice s11 p1y.length c11, .slice s12 p1z.length c12, .slice s13 p1t.length c13, .int .i64 p1u], 38)]) := hide (by rw [hwC]; simpa using (Kn.one w #[.slice s00 p0x.length c00, .slice s01 p0y.length c01, .slice s02 p0z.length c02, .slice s03 p0t.length c03, .int .i64 p0u] 38).alloc #[.slice s10 p1x.length c10, .slice s11 p1y.length c11, .slice s12 p1z.length c12, .slice s13 p1t.length c13, .int .i64 p1u] 38)
  have N0 := hide (show wC.heap.size = w.heap.size + 1 + 1 by rw [hwC]; simp)
  have hsz0 := hide (fun (W : World) (h : Below w.heap.size w W) (q1 : -1 ≤ (1048576 : Int)) (q2 : (1048576 : Int) ≤ 1048576) => szMap_any _ p0x p0y p0z p0t p0u 1048576 W w.heap.size (V0.out.below h (Nat.le_refl _)) h.size q1 q2)
  obtain ⟨z0, hz0⟩ : ∃ z, z = szC (p0x.length + p0y.length + p0z.length + p0t.length) 1048576 := ⟨_, rfl⟩
  rw [← hz0] at hsz0
  unfold szC at hz0
  have hsz1 := hide (fun (W : World) (h : Below w.heap.size w W) (q1 : -1 ≤ (z0 : Int)) (q2 : (z0 : Int) ≤ 1048576) => szMap_any _ p1x p1y p1z p1t p1u z0 W w.heap.size (V1.out.below h (Nat.le_refl _)) h.size q1 q2)
  obtain ⟨z1, hz1⟩ : ∃ z, z = szC (p1x.length + p1y.length + p1z.length + p1t.length) z0 := ⟨_, rfl⟩
  rw [← hz1] at hsz1
  unfold szC at hz1
  by_cases hneg0 : z0 < 0
  · have b0 : decide (z0 < 0) = true := by simp; omega
    clear hz0 hz1
    have c0_0 : wC.cell? ⟨w.heap.size, 0, none⟩ = some (.slice s00 p0x.length c00) := X.out.cell 0 0 rfl rfl
    have c0_1 : wC.cell? ⟨w.heap.size, 1, none⟩ = some (.slice s01 p0y.length c01) := X.out.cell 0 1 rfl rfl
    have c0_2 : wC.cell? ⟨w.heap.size, 2, none⟩ = some (.slice s02 p0z.length c02) := X.out.cell 0 2 rfl rfl
    have c0_3 : wC.cell? ⟨w.heap.size, 3, none⟩ = some (.slice s03 p0t.length c03) := X.out.cell 0 3 rfl rfl
    have c0_4 : wC.cell? ⟨w.heap.size, 4, none⟩ = some (.int .i64 p0u) := X.out.cell 0 4 rfl rfl
    have c1_0 : wC.cell? ⟨w.heap.size + 1, 0, none⟩ = some (.slice s10 p1x.length c10) := X.out.cell 1 0 rfl rfl
    have c1_1 : wC.cell? ⟨w.heap.size + 1, 1, none⟩ = some (.slice s11 p1y.length c11) := X.out.cell 1 1 rfl rfl
    have c1_2 : wC.cell? ⟨w.heap.size + 1, 2, none⟩ = some (.slice s12 p1z.length c12) := X.out.cell 1 2 rfl rfl
    have c1_3 : wC.cell? ⟨w.heap.size + 1, 3, none⟩ = some (.slice s13 p1t.length c13) := X.out.cell 1 3 rfl rfl
    have c1_4 : wC.cell? ⟨w.heap.size + 1, 4, none⟩ = some (.int .i64 p1u) := X.out.cell 1 4 rfl rfl
    rw [hwC] at c0_0 c0_1 c0_2 c0_3 c0_4 c1_0 c1_1 c1_2 c1_3 c1_4
    go_enter Try.func8, Try.ntmps8
    go_wp2_with fail
    rw [← hwC]
    clear hwC c0_0 c0_1 c0_2 c0_3 c0_4 c1_0 c1_1 c1_2 c1_3 c1_4
    go_at_call 23
    refine (hsz0.out _ X.out.below (by omega) (by omega)).mono ?_
    rintro e u1 ⟨rfl, hb⟩
    have X := hide (X.out.up hb)
    have N1 := hide hb.size
    clear hb
    go_wp2_with fail
    go_ret
    exact ⟨rfl, X.out.below⟩
  have hbig0 : p0x.length + p0y.length + p0z.length + p0t.length ≤ 1048576 := by split at hz0 <;> omega
  have hpos0 : 0 ≤ z0 ∧ z0 ≤ 1048576 := by split at hz0 <;> omega
  have b0 : decide (z0 < 0) = false := by simp; omega
  clear hneg0
  by_cases hneg1 : z1 < 0
  · have b1 : decide (z1 < 0) = true := by simp; omega
    clear hz0 hz1
    have c0_0 : wC.cell? ⟨w.heap.size, 0, none⟩ = some (.slice s00 p0x.length c00) := X.out.cell 0 0 rfl rfl
    have c0_1 : wC.cell? ⟨w.heap.size, 1, none⟩ = some (.slice s01 p0y.length c01) := X.out.cell 0 1 rfl rfl
    have c0_2 : wC.cell? ⟨w.heap.size, 2, none⟩ = some (.slice s02 p0z.length c02) := X.out.cell 0 2 rfl rfl
    have c0_3 : wC.cell? ⟨w.heap.size, 3, none⟩ = some (.slice s03 p0t.length c03) := X.out.cell 0 3 rfl rfl
    have c0_4 : wC.cell? ⟨w.heap.size, 4, none⟩ = some (.int .i64 p0u) := X.out.cell 0 4 rfl rfl
    have c1_0 : wC.cell? ⟨w.heap.size + 1, 0, none⟩ = some (.slice s10 p1x.length c10) := X.out.cell 1 0 rfl rfl
    have c1_1 : wC.cell? ⟨w.heap.size + 1, 1, none⟩ = some (.slice s11 p1y.length c11) := X.out.cell 1 1 rfl rfl
    have c1_2 : wC.cell? ⟨w.heap.size + 1, 2, none⟩ = some (.slice s12 p1z.length c12) := X.out.cell 1 2 rfl rfl
    have c1_3 : wC.cell? ⟨w.heap.size + 1, 3, none⟩ = some (.slice s13 p1t.length c13) := X.out.cell 1 3 rfl rfl
    have c1_4 : wC.cell? ⟨w.heap.size + 1, 4, none⟩ = some (.int .i64 p1u) := X.out.cell 1 4 rfl rfl
    rw [hwC] at c0_0 c0_1 c0_2 c0_3 c0_4 c1_0 c1_1 c1_2 c1_3 c1_4
    go_enter Try.func8, Try.ntmps8
    go_wp2_with fail
    rw [← hwC]
    clear hwC c0_0 c0_1 c0_2 c0_3 c0_4 c1_0 c1_1 c1_2 c1_3 c1_4
    go_at_call 23
    refine (hsz0.out _ X.out.below (by omega) (by omega)).mono ?_
    rintro e u1 ⟨rfl, hb⟩
    have X := hide (X.out.up hb)
    have N1 := hide hb.size
    clear hb
    have c1_0 : u1.cell? ⟨w.heap.size + 1, 0, none⟩ = some (.slice s10 p1x.length c10) := X.out.cell 1 0 rfl rfl
    have c1_1 : u1.cell? ⟨w.heap.size + 1, 1, none⟩ = some (.slice s11 p1y.length c11) := X.out.cell 1 1 rfl rfl
    have c1_2 : u1.cell? ⟨w.heap.size + 1, 2, none⟩ = some (.slice s12 p1z.length c12) := X.out.cell 1 2 rfl rfl
    have c1_3 : u1.cell? ⟨w.heap.size + 1, 3, none⟩ = some (.slice s13 p1t.length c13) := X.out.cell 1 3 rfl rfl
    have c1_4 : u1.cell? ⟨w.heap.size + 1, 4, none⟩ = some (.int .i64 p1u) := X.out.cell 1 4 rfl rfl
    go_wp2_with fail
    clear c1_0 c1_1 c1_2 c1_3 c1_4
    go_at_call 23
    refine (hsz1.out _ X.out.below (by omega) (by omega)).mono ?_
    rintro e u2 ⟨rfl, hb⟩
    have X := hide (X.out.up hb)
    have N2 := hide hb.size
    clear hb
    go_wp2_with fail
    go_ret
    exact ⟨rfl, X.out.below⟩
  have hbig1 : p1x.length + p1y.length + p1z.length + p1t.length ≤ 1048576 := by split at hz0 <;> split at hz1 <;> omega
  have hpos1 : 0 ≤ z1 ∧ z1 ≤ 1048576 := by split at hz0 <;> split at hz1 <;> omega
  have b1 : decide (z1 < 0) = false := by simp; omega
  clear hneg1
  clear hz0 hz1
  · skip
    have T0 := hide (fun (W : World) (h : Below w.heap.size w W) => toMap_o _ p0x p0y p0z p0t p0u W w.heap.size (V0.out.below h (Nat.le_refl _)) h.size (by omega) (by omega) (by omega) (by omega))
    have T1 := hide (fun (W : World) (h : Below w.heap.size w W) => toMap_o _ p1x p1y p1z p1t p1u W w.heap.size (V1.out.below h (Nat.le_refl _)) h.size (by omega) (by omega) (by omega) (by omega))
    have HSP := hide (fun (W : World) (v0 : Value) (k0 : Mp W W.heap.size v0 p0x p0y p0z p0t p0u) (v1 : Value) (k1 : Mp W W.heap.size v1 p1x p1y p1z p1t p1u) => show Calls Try.prog 33 #[v0, v1] W (fun e w' => e = .returned (.bool (eqM p0x p0y p0z p0t p0u p1x p1y p1z p1t p1u)) ∧ Below W.heap.size W w') from sEqMp_any v0 v1 p0x p0y p0t p1x p1y p1t p0z p1z p0u p1u W W.heap.size k0 k1 (Nat.le_refl _))
    have HIP := hide (fun (W : World) (v0 : Value) (k0 : Mp W W.heap.size v0 p0x p0y p0z p0t p0u) (v1 : Value) (k1 : Mp W W.heap.size v1 p1x p1y p1z p1t p1u) => show Calls Try.prog 34 #[v0, v1] W (fun e w' => e = .returned (.bool (eqM p0x p0y p0z p0t p0u p1x p1y p1z p1t p1u)) ∧ Below W.heap.size W w') from iEqMp_any v0 v1 p0x p0y p0t p1x p1y p1t p0z p1z p0u p1u W W.heap.size k0 k1 (Nat.le_refl _))
    obtain ⟨r0, hq⟩ : ∃ q : Bool, q = eqM p0x p0y p0z p0t p0u p1x p1y p1z p1t p1u := ⟨_, rfl⟩
    rw [← hq] at HSP HIP 
    clear hq
    have PD0 := hide (fun (W : World) (v : Value) (lo hi : Nat) (h : MpO W v p0x p0y p0z p0t p0u lo hi) => h.rd hwf0)
    have PD1 := hide (fun (W : World) (v : Value) (lo hi : Nat) (h : MpO W v p1x p1y p1z p1t p1u lo hi) => h.rd hwf1)
    have hn0 : (r0 != r0) = false := by simp
    clear  hwf0 hwf1  
    have c0_0 : wC.cell? ⟨w.heap.size, 0, none⟩ = some (.slice s00 p0x.length c00) := X.out.cell 0 0 rfl rfl
    have c0_1 : wC.cell? ⟨w.heap.size, 1, none⟩ = some (.slice s01 p0y.length c01) := X.out.cell 0 1 rfl rfl
    have c0_2 : wC.cell? ⟨w.heap.size, 2, none⟩ = some (.slice s02 p0z.length c02) := X.out.cell 0 2 rfl rfl
    have c0_3 : wC.cell? ⟨w.heap.size, 3, none⟩ = some (.slice s03 p0t.length c03) := X.out.cell 0 3 rfl rfl
    have c0_4 : wC.cell? ⟨w.heap.size, 4, none⟩ = some (.int .i64 p0u) := X.out.cell 0 4 rfl rfl
    have c1_0 : wC.cell? ⟨w.heap.size + 1, 0, none⟩ = some (.slice s10 p1x.length c10) := X.out.cell 1 0 rfl rfl
    have c1_1 : wC.cell? ⟨w.heap.size + 1, 1, none⟩ = some (.slice s11 p1y.length c11) := X.out.cell 1 1 rfl rfl
    have c1_2 : wC.cell? ⟨w.heap.size + 1, 2, none⟩ = some (.slice s12 p1z.length c12) := X.out.cell 1 2 rfl rfl
    have c1_3 : wC.cell? ⟨w.heap.size + 1, 3, none⟩ = some (.slice s13 p1t.length c13) := X.out.cell 1 3 rfl rfl
    have c1_4 : wC.cell? ⟨w.heap.size + 1, 4, none⟩ = some (.int .i64 p1u) := X.out.cell 1 4 rfl rfl
    rw [hwC] at c0_0 c0_1 c0_2 c0_3 c0_4 c1_0 c1_1 c1_2 c1_3 c1_4
    go_enter Try.func8, Try.ntmps8
    go_wp2_with fail
    rw [← hwC]
    clear hwC c0_0 c0_1 c0_2 c0_3 c0_4 c1_0 c1_1 c1_2 c1_3 c1_4
    go_at_call 23
    refine (hsz0.out _ X.out.below (by omega) (by omega)).mono ?_
    rintro e u1 ⟨rfl, hb⟩
    have X := hide (X.out.up hb)
    have N1 := hide hb.size
    clear hb
    have c1_0 : u1.cell? ⟨w.heap.size + 1, 0, none⟩ = some (.slice s10 p1x.length c10) := X.out.cell 1 0 rfl rfl
    have c1_1 : u1.cell? ⟨w.heap.size + 1, 1, none⟩ = some (.slice s11 p1y.length c11) := X.out.cell 1 1 rfl rfl
    have c1_2 : u1.cell? ⟨w.heap.size + 1, 2, none⟩ = some (.slice s12 p1z.length c12) := X.out.cell 1 2 rfl rfl
    have c1_3 : u1.cell? ⟨w.heap.size + 1, 3, none⟩ = some (.slice s13 p1t.length c13) := X.out.cell 1 3 rfl rfl
    have c1_4 : u1.cell? ⟨w.heap.size + 1, 4, none⟩ = some (.int .i64 p1u) := X.out.cell 1 4 rfl rfl
    go_wp2_with fail
    clear c1_0 c1_1 c1_2 c1_3 c1_4
    go_at_call 23
    refine (hsz1.out _ X.out.below (by omega) (by omega)).mono ?_
    rintro e u2 ⟨rfl, hb⟩
    have X := hide (X.out.up hb)
    have N2 := hide hb.size
    clear hb
    clear hpos0 hpos1
    -- region 8
    go_upto_region 8 with fail
    have X1 := X
    refine wp_region_any (by kernel_rfl) ?_
    refine wpAny_facts (w0 := u2) (fun i => ([(fun lo hi s W => s 20 = .agg #[.slice s00 p0x.length c00, .slice s01 p0y.length c01, .slice s02 p0z.length c02, .slice s03 p0t.length c03, .int .i64 p0u]),
      (fun lo hi s W => MpO W (s 21) p0x p0y p0z p0t p0u lo hi),
      (fun lo hi s W => s 22 = .agg #[.slice s10 p1x.length c10, .slice s11 p1y.length c11, .slice s12 p1z.length c12, .slice s13 p1t.length c13, .int .i64 p1u]),
      (fun lo hi s W => MpO W (s 23) p1x p1y p1z p1t p1u lo hi),
      (fun lo hi s W => s 24 = .bool r0),
      (fun lo hi s W => s 6 = s 24)] : List (Nat → Nat → (Nat → Value) → World → Prop)).getD i (fun _ _ _ _ => True)) [[], [0], [], [0, 1, 2], [0, 1, 2, 3], [0, 1, 2, 3, 4]] [0, 1, 2, 3, 4, 5] [[20], [21], [22], [23], [24], [6, 24]] [[], [], [], [], [], []] (by kernel_rfl) (by kernel_rfl) ?st ?step ?fin
    case st =>
      clear HSP HIP
      intro i hi lo hi' s W W' h q1 q2 q3 q4 k
      have hi : i < 6 := hi
      clear X X1
      rcases (show i = 0 ∨ i = 1 ∨ i = 2 ∨ i = 3 ∨ i = 4 ∨ i = 5 by omega) with rfl | rfl | rfl | rfl | rfl | rfl
      · have h : s 20 = .agg #[.slice s00 p0x.length c00, .slice s01 p0y.length c01, .slice s02 p0z.length c02, .slice s03 p0t.length c03, .int .i64 p0u] := h
        show s 20 = .agg #[.slice s00 p0x.length c00, .slice s01 p0y.length c01, .slice s02 p0z.length c02, .slice s03 p0t.length c03, .int .i64 p0u]
        exact h
      · have h : MpO W (s 21) p0x p0y p0z p0t p0u lo hi' := h
        show MpO W' (s 21) p0x p0y p0z p0t p0u lo hi'
        exact h.on k
      · have h : s 22 = .agg #[.slice s10 p1x.length c10, .slice s11 p1y.length c11, .slice s12 p1z.length c12, .slice s13 p1t.length c13, .int .i64 p1u] := h
        show s 22 = .agg #[.slice s10 p1x.length c10, .slice s11 p1y.length c11, .slice s12 p1z.length c12, .slice s13 p1t.length c13, .int .i64 p1u]
        exact h
      · have h : MpO W (s 23) p1x p1y p1z p1t p1u lo hi' := h
        show MpO W' (s 23) p1x p1y p1z p1t p1u lo hi'
        exact h.on k
      · have h : s 24 = .bool r0 := h
        show s 24 = .bool r0
        exact h
      · have h : s 6 = s 24 := h
        show s 6 = s 24
        exact h
    case step =>
      intro i hi a W iv hb hsz hdf hrest hanc hivs hap K HK
      have hi : i < 6 := hi
      have HK := hide HK
      have HAN := hide hanc
      have HIV := hide hivs
      have HRS := hide hrest
      have XU := hide (X1.out.up hb)
      have HB := hide hb
      clear hanc hivs hap hrest hb hsz hdf X X1
      rcases (show i = 0 ∨ i = 1 ∨ i = 2 ∨ i = 3 ∨ i = 4 ∨ i = 5 by omega) with rfl | rfl | rfl | rfl | rfl | rfl
      · refine wpOp_step (o := _) rfl fun K' hK => ?_
        rw [if_pos (by go_simp)]
        have e1 : a.tmps.getD 2 undef = .pointer (some ⟨w.heap.size, 0, none⟩) := (HRS.out 2 (by decide)).trans rfl
        have c0 : W.cell? ⟨w.heap.size, 0, none⟩ = some (.slice s00 p0x.length c00) := XU.out.cell 0 0 rfl rfl
        have c1 : W.cell? ⟨w.heap.size, 1, none⟩ = some (.slice s01 p0y.length c01) := XU.out.cell 0 1 rfl rfl
        have c2 : W.cell? ⟨w.heap.size, 2, none⟩ = some (.slice s02 p0z.length c02) := XU.out.cell 0 2 rfl rfl
        have c3 : W.cell? ⟨w.heap.size, 3, none⟩ = some (.slice s03 p0t.length c03) := XU.out.cell 0 3 rfl rfl
        have c4 : W.cell? ⟨w.heap.size, 4, none⟩ = some (.int .i64 p0u) := XU.out.cell 0 4 rfl rfl
        go_simp
        exact hK _ _ (HK.out _ _ ⟨fun _ => ⟨Below.refl _ _, rfl⟩, fun h => absurd rfl h⟩)
      · refine wpOp_step (o := _) rfl fun K' hK => ?_
        rw [if_pos (by go_simp)]
        have e1 : a.tmps.getD 20 undef = .agg #[.slice s00 p0x.length c00, .slice s01 p0y.length c01, .slice s02 p0z.length c02, .slice s03 p0t.length c03, .int .i64 p0u] := HAN.out 0 (by decide)
        go_simp
        go_at_call 25
        refine (T0.out _ XU.out.below).mono ?_
        rintro e W' ⟨vv, rfl, ho, hbb⟩
        skip
        exact hK _ _ (HK.out _ _ ⟨fun _ => ⟨hbb, ho⟩, fun h => absurd rfl h⟩)
      · refine wpOp_step (o := _) rfl fun K' hK => ?_
        rw [if_pos (by go_simp)]
        have e1 : a.tmps.getD 3 undef = .pointer (some ⟨w.heap.size + 1, 0, none⟩) := (HRS.out 3 (by decide)).trans rfl
        have c0 : W.cell? ⟨w.heap.size + 1, 0, none⟩ = some (.slice s10 p1x.length c10) := XU.out.cell 1 0 rfl rfl
        have c1 : W.cell? ⟨w.heap.size + 1, 1, none⟩ = some (.slice s11 p1y.length c11) := XU.out.cell 1 1 rfl rfl
        have c2 : W.cell? ⟨w.heap.size + 1, 2, none⟩ = some (.slice s12 p1z.length c12) := XU.out.cell 1 2 rfl rfl
        have c3 : W.cell? ⟨w.heap.size + 1, 3, none⟩ = some (.slice s13 p1t.length c13) := XU.out.cell 1 3 rfl rfl
        have c4 : W.cell? ⟨w.heap.size + 1, 4, none⟩ = some (.int .i64 p1u) := XU.out.cell 1 4 rfl rfl
        go_simp
        exact hK _ _ (HK.out _ _ ⟨fun _ => ⟨Below.refl _ _, rfl⟩, fun h => absurd rfl h⟩)
      · refine wpOp_step (o := _) rfl fun K' hK => ?_
        rw [if_pos (by go_simp)]
        have e1 : a.tmps.getD 22 undef = .agg #[.slice s10 p1x.length c10, .slice s11 p1y.length c11, .slice s12 p1z.length c12, .slice s13 p1t.length c13, .int .i64 p1u] := HAN.out 2 (by decide)
        go_simp
        go_at_call 25
        refine (T1.out _ XU.out.below).mono ?_
        rintro e W' ⟨vv, rfl, ho, hbb⟩
        skip
        exact hK _ _ (HK.out _ _ ⟨fun _ => ⟨hbb, ho⟩, fun h => absurd rfl h⟩)
      · refine wpOp_step (o := _) rfl fun K' hK => ?_
        rw [if_pos (by go_simp)]
        have k0 : MpO W (a.tmps.getD 21 undef) p0x p0y p0z p0t p0u _ _ := HAN.out 1 (by decide)
        obtain ⟨y0, hy0⟩ : ∃ q, a.tmps.getD 21 undef = q := ⟨_, rfl⟩
        rw [hy0] at k0
        have k0 := hide (PD0.out _ _ _ _ k0)
        have k1 : MpO W (a.tmps.getD 23 undef) p1x p1y p1z p1t p1u _ _ := HAN.out 3 (by decide)
        obtain ⟨y1, hy1⟩ : ∃ q, a.tmps.getD 23 undef = q := ⟨_, rfl⟩
        rw [hy1] at k1
        have k1 := hide (PD1.out _ _ _ _ k1)
        go_simp
        go_at_call 33
        refine (HSP.out _ _ k0.out _ k1.out).mono ?_
        rintro e W' ⟨rfl, hbb⟩
        skip
        exact hK _ _ (HK.out _ _ ⟨fun _ => ⟨hbb, rfl⟩, fun h => absurd rfl h⟩)
      · refine wpOp_step (o := _) rfl fun K' hK => ?_
        rw [if_pos (by go_simp)]
        obtain ⟨y, e1⟩ : ∃ y, a.tmps.getD 24 undef = y := ⟨_, rfl⟩
        go_simp
        exact hK _ _ (HK.out _ _ ⟨fun _ => ⟨Below.refl _ _, e1.symm⟩, fun h => absurd rfl h⟩)
    case fin =>
    intro a u3 iv I
    have hbY := I.below
    have X0 := X1
    have X := hide (X1.out.up hbY)
    clear X1
    have F0 : slot a 20 = .agg #[.slice s00 p0x.length c00, .slice s01 p0y.length c01, .slice s02 p0z.length c02, .slice s03 p0t.length c03, .int .i64 p0u] := (I.fact 0 (by decide) rfl).2
    have F1 : MpO u3 (slot a 21) p0x p0y p0z p0t p0u (iv 1).1 (iv 1).2 := (I.fact 1 (by decide) rfl).2
    have F2 : slot a 22 = .agg #[.slice s10 p1x.length c10, .slice s11 p1y.length c11, .slice s12 p1z.length c12, .slice s13 p1t.length c13, .int .i64 p1u] := (I.fact 2 (by decide) rfl).2
    have F3 : MpO u3 (slot a 23) p1x p1y p1z p1t p1u (iv 3).1 (iv 3).2 := (I.fact 3 (by decide) rfl).2
    have F4 : slot a 24 = .bool r0 := (I.fact 4 (by decide) rfl).2
    have F5 : slot a 6 = slot a 24 := (I.fact 5 (by decide) rfl).2
    have hfr := frame_of [20, 21, 22, 23, 24, 6] I.size I.defers (fun s hs => I.rest s (rfDsts_spec (by kernel_rfl) hs))
    skip
    have E24 := F4
    rw [E24] at F5
    rw [hfr]
    simp only [List.foldl_cons, List.foldl_nil, List.setIfInBounds_toArray, List.set_cons_succ, List.set_cons_zero, E24, F5]
    generalize slot a 20 = t20
    generalize slot a 21 = t21
    generalize slot a 22 = t22
    generalize slot a 23 = t23
    have NN3 := hide (hbY.size)
    try clear I
    try clear hfr
    try clear hbY
    try clear X0
    try clear F0
    try clear F1
    try clear F2
    try clear F3
    try clear F4
    try clear F5
    try clear E24
    try clear iv a
    have c0_0 : u3.cell? ⟨w.heap.size, 0, none⟩ = some (.slice s00 p0x.length c00) := X.out.cell 0 0 rfl rfl
    have c0_1 : u3.cell? ⟨w.heap.size, 1, none⟩ = some (.slice s01 p0y.length c01) := X.out.cell 0 1 rfl rfl
    have c0_2 : u3.cell? ⟨w.heap.size, 2, none⟩ = some (.slice s02 p0z.length c02) := X.out.cell 0 2 rfl rfl
    have c0_3 : u3.cell? ⟨w.heap.size, 3, none⟩ = some (.slice s03 p0t.length c03) := X.out.cell 0 3 rfl rfl
    have c0_4 : u3.cell? ⟨w.heap.size, 4, none⟩ = some (.int .i64 p0u) := X.out.cell 0 4 rfl rfl
    go_wp2_with fail
    clear c0_0 c0_1 c0_2 c0_3 c0_4
    go_at_call 25
    refine (T0.out _ X.out.below).mono ?_
    rintro e u4 ⟨vv, rfl, Cx0, hb⟩
    obtain ⟨gx00, kx00, gx01, kx01, gx02, kx02, gx03, kx03, hf⟩ := Cx0.form
    subst hf
    obtain ⟨lox0, hlo⟩ : ∃ q, q = u3.heap.size := ⟨_, rfl⟩
    obtain ⟨hix0, hhi⟩ : ∃ q, q = u4.heap.size := ⟨_, rfl⟩
    have hw : u3.heap.size ≤ lox0 := by omega
    have NXx0a := hide hw
    have hw : hix0 ≤ u4.heap.size := by omega
    have NXx0b := hide hw
    rw [← hlo, ← hhi] at Cx0
    have Cx0 := hide Cx0
    clear hw hlo hhi
    have X := hide (X.out.up hb)
    have NN4 := hide (hb.size)
    clear hb
    have hbl := below1 u4 (.cells #[.slice gx00 p0x.length kx00, .slice gx01 p0y.length kx01, .slice gx02 p0z.length kx02, .slice gx03 p0t.length kx03, .int .i64 p0u] 27)
    have X := hide (X.out.alloc #[.slice gx00 p0x.length kx00, .slice gx01 p0y.length kx01, .slice gx02 p0z.length kx02, .slice gx03 p0t.length kx03, .int .i64 p0u] 27)
    have Cx0 := hide (Cx0.out.below hbl)
    clear hbl
    obtain ⟨u5, hu5⟩ : ∃ q, q = u4.alloc (.cells #[.slice gx00 p0x.length kx00, .slice gx01 p0y.length kx01, .slice gx02 p0z.length kx02, .slice gx03 p0t.length kx03, .int .i64 p0u] 27) := ⟨_, rfl⟩
    obtain ⟨bx0, hbx0⟩ : ∃ q, q = u4.heap.size := ⟨_, rfl⟩
    have NN7 := hide (show bx0 = u4.heap.size ∧ u5.heap.size = u4.heap.size + 1 by rw [hu5, hbx0]; simp)
    rw [← hu5] at X Cx0
    rw [← hbx0] at X
    simp only [List.cons_append, List.nil_append] at X
    have c1_0 : u5.cell? ⟨w.heap.size + 1, 0, none⟩ = some (.slice s10 p1x.length c10) := X.out.cell 1 0 rfl rfl
    have c1_1 : u5.cell? ⟨w.heap.size + 1, 1, none⟩ = some (.slice s11 p1y.length c11) := X.out.cell 1 1 rfl rfl
    have c1_2 : u5.cell? ⟨w.heap.size + 1, 2, none⟩ = some (.slice s12 p1z.length c12) := X.out.cell 1 2 rfl rfl
    have c1_3 : u5.cell? ⟨w.heap.size + 1, 3, none⟩ = some (.slice s13 p1t.length c13) := X.out.cell 1 3 rfl rfl
    have c1_4 : u5.cell? ⟨w.heap.size + 1, 4, none⟩ = some (.int .i64 p1u) := X.out.cell 1 4 rfl rfl
    rw [hu5] at c1_0 c1_1 c1_2 c1_3 c1_4
    go_wp2_with fail
    rw [← hu5]
    try rw [← hbx0]
    clear hu5 hbx0
    clear c1_0 c1_1 c1_2 c1_3 c1_4
    go_at_call 25
    refine (T1.out _ X.out.below).mono ?_
    rintro e u6 ⟨vv, rfl, Cx1, hb⟩
    obtain ⟨gx10, kx10, gx11, kx11, gx12, kx12, gx13, kx13, hf⟩ := Cx1.form
    subst hf
    obtain ⟨lox1, hlo⟩ : ∃ q, q = u5.heap.size := ⟨_, rfl⟩
    obtain ⟨hix1, hhi⟩ : ∃ q, q = u6.heap.size := ⟨_, rfl⟩
    have hw : u5.heap.size ≤ lox1 := by omega
    have NXx1a := hide hw
    have hw : hix1 ≤ u6.heap.size := by omega
    have NXx1b := hide hw
    rw [← hlo, ← hhi] at Cx1
    have Cx1 := hide Cx1
    clear hw hlo hhi
    have X := hide (X.out.up hb)
    have Cx0 := hide (Cx0.out.below hb)
    have NN8 := hide (hb.size)
    clear hb
    have hbl := below1 u6 (.cells #[.slice gx10 p1x.length kx10, .slice gx11 p1y.length kx11, .slice gx12 p1z.length kx12, .slice gx13 p1t.length kx13, .int .i64 p1u] 27)
    have X := hide (X.out.alloc #[.slice gx10 p1x.length kx10, .slice gx11 p1y.length kx11, .slice gx12 p1z.length kx12, .slice gx13 p1t.length kx13, .int .i64 p1u] 27)
    have Cx0 := hide (Cx0.out.below hbl)
    have Cx1 := hide (Cx1.out.below hbl)
    clear hbl
    obtain ⟨u7, hu7⟩ : ∃ q, q = u6.alloc (.cells #[.slice gx10 p1x.length kx10, .slice gx11 p1y.length kx11, .slice gx12 p1z.length kx12, .slice gx13 p1t.length kx13, .int .i64 p1u] 27) := ⟨_, rfl⟩
    obtain ⟨bx1, hbx1⟩ : ∃ q, q = u6.heap.size := ⟨_, rfl⟩
    have NN11 := hide (show bx1 = u6.heap.size ∧ u7.heap.size = u6.heap.size + 1 by rw [hu7, hbx1]; simp)
    rw [← hu7] at X Cx0 Cx1
    rw [← hbx1] at X
    simp only [List.cons_append, List.nil_append] at X
    have c2_0 : u7.cell? ⟨bx0, 0, none⟩ = some (.slice gx00 p0x.length kx00) := X.out.cell 2 0 rfl rfl
    have c2_1 : u7.cell? ⟨bx0, 1, none⟩ = some (.slice gx01 p0y.length kx01) := X.out.cell 2 1 rfl rfl
    have c2_2 : u7.cell? ⟨bx0, 2, none⟩ = some (.slice gx02 p0z.length kx02) := X.out.cell 2 2 rfl rfl
    have c2_3 : u7.cell? ⟨bx0, 3, none⟩ = some (.slice gx03 p0t.length kx03) := X.out.cell 2 3 rfl rfl
    have c2_4 : u7.cell? ⟨bx0, 4, none⟩ = some (.int .i64 p0u) := X.out.cell 2 4 rfl rfl
    have c3_0 : u7.cell? ⟨bx1, 0, none⟩ = some (.slice gx10 p1x.length kx10) := X.out.cell 3 0 rfl rfl
    have c3_1 : u7.cell? ⟨bx1, 1, none⟩ = some (.slice gx11 p1y.length kx11) := X.out.cell 3 1 rfl rfl
    have c3_2 : u7.cell? ⟨bx1, 2, none⟩ = some (.slice gx12 p1z.length kx12) := X.out.cell 3 2 rfl rfl
    have c3_3 : u7.cell? ⟨bx1, 3, none⟩ = some (.slice gx13 p1t.length kx13) := X.out.cell 3 3 rfl rfl
    have c3_4 : u7.cell? ⟨bx1, 4, none⟩ = some (.int .i64 p1u) := X.out.cell 3 4 rfl rfl
    rw [hu7] at c2_0 c2_1 c2_2 c2_3 c2_4 c3_0 c3_1 c3_2 c3_3 c3_4
    go_wp2_with fail
    rw [← hu7]
    try rw [← hbx1]
    clear hu7 hbx1
    clear c2_0 c2_1 c2_2 c2_3 c2_4 c3_0 c3_1 c3_2 c3_3 c3_4
    go_at_call 34
    refine (HIP.out _ _ (PD0.out _ _ _ _ Cx0.out) _ (PD1.out _ _ _ _ Cx1.out)).mono ?_
    rintro e u8 ⟨rfl, hb⟩
    have X := hide (X.out.up hb)
    have Cx0 := hide (Cx0.out.below hb)
    have Cx1 := hide (Cx1.out.below hb)
    have NN12 := hide (hb.size)
    clear hb
    -- region 14
    go_upto_region 14 with fail
    have X1 := X
    refine wp_region_any (by kernel_rfl) ?_
    refine wpAny_facts (w0 := u8) (fun i => ([(fun lo hi s W => s 35 = .agg #[.slice gx00 p0x.length kx00, .slice gx01 p0y.length kx01, .slice gx02 p0z.length kx02, .slice gx03 p0t.length kx03, .int .i64 p0u]),
      (fun lo hi s W => s 36 = .agg #[.slice s00 p0x.length c00, .slice s01 p0y.length c01, .slice s02 p0z.length c02, .slice s03 p0t.length c03, .int .i64 p0u]),
      (fun lo hi s W => MpO W (s 37) p0x p0y p0z p0t p0u lo hi),
      (fun lo hi s W => s 38 = .bool true),
      (fun lo hi s W => s 39 = .bool false)] : List (Nat → Nat → (Nat → Value) → World → Prop)).getD i (fun _ _ _ _ => True)) [[], [], [1], [0, 1, 2], [0, 1, 2, 3]] [0, 1, 2, 3, 4] [[35], [36], [37], [38], [39]] [[], [], [], [], []] (by kernel_rfl) (by kernel_rfl) ?st ?step ?fin
    case st =>
      clear HSP HIP
      intro i hi lo hi' s W W' h q1 q2 q3 q4 k
      have hi : i < 5 := hi
      clear X X1 Cx0 Cx1
      rcases (show i = 0 ∨ i = 1 ∨ i = 2 ∨ i = 3 ∨ i = 4 by omega) with rfl | rfl | rfl | rfl | rfl
      · have h : s 35 = .agg #[.slice gx00 p0x.length kx00, .slice gx01 p0y.length kx01, .slice gx02 p0z.length kx02, .slice gx03 p0t.length kx03, .int .i64 p0u] := h
        show s 35 = .agg #[.slice gx00 p0x.length kx00, .slice gx01 p0y.length kx01, .slice gx02 p0z.length kx02, .slice gx03 p0t.length kx03, .int .i64 p0u]
        exact h
      · have h : s 36 = .agg #[.slice s00 p0x.length c00, .slice s01 p0y.length c01, .slice s02 p0z.length c02, .slice s03 p0t.length c03, .int .i64 p0u] := h
        show s 36 = .agg #[.slice s00 p0x.length c00, .slice s01 p0y.length c01, .slice s02 p0z.length c02, .slice s03 p0t.length c03, .int .i64 p0u]
        exact h
      · have h : MpO W (s 37) p0x p0y p0z p0t p0u lo hi' := h
        show MpO W' (s 37) p0x p0y p0z p0t p0u lo hi'
        exact h.on k
      · have h : s 38 = .bool true := h
        show s 38 = .bool true
        exact h
      · have h : s 39 = .bool false := h
        show s 39 = .bool false
        exact h
    case step =>
      intro i hi a W iv hb hsz hdf hrest hanc hivs hap K HK
      have hi : i < 5 := hi
      have HK := hide HK
      have HAN := hide hanc
      have HIV := hide hivs
      have HRS := hide hrest
      have XU := hide (X1.out.up hb)
      have HB := hide hb
      clear hanc hivs hap hrest hb hsz hdf X X1
      rcases (show i = 0 ∨ i = 1 ∨ i = 2 ∨ i = 3 ∨ i = 4 by omega) with rfl | rfl | rfl | rfl | rfl
      · refine wpOp_step (o := _) rfl fun K' hK => ?_
        rw [if_pos (by go_simp)]
        have e1 : a.tmps.getD 7 undef = .pointer (some ⟨bx0, 0, none⟩) := (HRS.out 7 (by decide)).trans rfl
        have c0 : W.cell? ⟨bx0, 0, none⟩ = some (.slice gx00 p0x.length kx00) := XU.out.cell 2 0 rfl rfl
        have c1 : W.cell? ⟨bx0, 1, none⟩ = some (.slice gx01 p0y.length kx01) := XU.out.cell 2 1 rfl rfl
        have c2 : W.cell? ⟨bx0, 2, none⟩ = some (.slice gx02 p0z.length kx02) := XU.out.cell 2 2 rfl rfl
        have c3 : W.cell? ⟨bx0, 3, none⟩ = some (.slice gx03 p0t.length kx03) := XU.out.cell 2 3 rfl rfl
        have c4 : W.cell? ⟨bx0, 4, none⟩ = some (.int .i64 p0u) := XU.out.cell 2 4 rfl rfl
        go_simp
        exact hK _ _ (HK.out _ _ ⟨fun _ => ⟨Below.refl _ _, rfl⟩, fun h => absurd rfl h⟩)
      · refine wpOp_step (o := _) rfl fun K' hK => ?_
        rw [if_pos (by go_simp)]
        have e1 : a.tmps.getD 2 undef = .pointer (some ⟨w.heap.size, 0, none⟩) := (HRS.out 2 (by decide)).trans rfl
        have c0 : W.cell? ⟨w.heap.size, 0, none⟩ = some (.slice s00 p0x.length c00) := XU.out.cell 0 0 rfl rfl
        have c1 : W.cell? ⟨w.heap.size, 1, none⟩ = some (.slice s01 p0y.length c01) := XU.out.cell 0 1 rfl rfl
        have c2 : W.cell? ⟨w.heap.size, 2, none⟩ = some (.slice s02 p0z.length c02) := XU.out.cell 0 2 rfl rfl
        have c3 : W.cell? ⟨w.heap.size, 3, none⟩ = some (.slice s03 p0t.length c03) := XU.out.cell 0 3 rfl rfl
        have c4 : W.cell? ⟨w.heap.size, 4, none⟩ = some (.int .i64 p0u) := XU.out.cell 0 4 rfl rfl
        go_simp
        exact hK _ _ (HK.out _ _ ⟨fun _ => ⟨Below.refl _ _, rfl⟩, fun h => absurd rfl h⟩)
      · refine wpOp_step (o := _) rfl fun K' hK => ?_
        rw [if_pos (by go_simp)]
        have e1 : a.tmps.getD 36 undef = .agg #[.slice s00 p0x.length c00, .slice s01 p0y.length c01, .slice s02 p0z.length c02, .slice s03 p0t.length c03, .int .i64 p0u] := HAN.out 1 (by decide)
        go_simp
        go_at_call 25
        refine (T0.out _ XU.out.below).mono ?_
        rintro e W' ⟨vv, rfl, ho, hbb⟩
        skip
        exact hK _ _ (HK.out _ _ ⟨fun _ => ⟨hbb, ho⟩, fun h => absurd rfl h⟩)
      · refine wpOp_step (o := _) rfl fun K' hK => ?_
        rw [if_pos (by go_simp)]
        have e1 : a.tmps.getD 35 undef = .agg #[.slice gx00 p0x.length kx00, .slice gx01 p0y.length kx01, .slice gx02 p0z.length kx02, .slice gx03 p0t.length kx03, .int .i64 p0u] := HAN.out 0 (by decide)
        have k1 : MpO W (a.tmps.getD 37 undef) p0x p0y p0z p0t p0u _ _ := HAN.out 2 (by decide)
        obtain ⟨y1, hy1⟩ : ∃ q, a.tmps.getD 37 undef = q := ⟨_, rfl⟩
        rw [hy1] at k1
        have k1 := hide (PD0.out _ _ _ _ k1)
        have k0 := hide (PD0.out _ _ _ _ (Cx0.out.below HB.out))
        go_simp
        go_at_call 18
        refine (eqMap_same _ _ p0x p0y p0z p0t p0u _ _ (Nat.le_refl _) k0.out k1.out).mono ?_
        rintro e W' ⟨rfl, hbb⟩
        skip
        exact hK _ _ (HK.out _ _ ⟨fun _ => ⟨hbb, rfl⟩, fun h => absurd rfl h⟩)
      · refine wpOp_step (o := _) rfl fun K' hK => ?_
        rw [if_pos (by go_simp)]
        have e1 : a.tmps.getD 38 undef = .bool true := HAN.out 3 (by decide)
        go_simp
        exact hK _ _ (HK.out _ _ ⟨fun _ => ⟨Below.refl _ _, rfl⟩, fun h => absurd rfl h⟩)
    case fin =>
    intro a u9 iv I
    have hbY := I.below
    have Cx0 := hide (Cx0.out.below hbY)
    have Cx1 := hide (Cx1.out.below hbY)
    have X0 := X1
    have X := hide (X1.out.up hbY)
    clear X1
    have F0 : slot a 35 = .agg #[.slice gx00 p0x.length kx00, .slice gx01 p0y.length kx01, .slice gx02 p0z.length kx02, .slice gx03 p0t.length kx03, .int .i64 p0u] := (I.fact 0 (by decide) rfl).2
    have F1 : slot a 36 = .agg #[.slice s00 p0x.length c00, .slice s01 p0y.length c01, .slice s02 p0z.length c02, .slice s03 p0t.length c03, .int .i64 p0u] := (I.fact 1 (by decide) rfl).2
    have F2 : MpO u9 (slot a 37) p0x p0y p0z p0t p0u (iv 2).1 (iv 2).2 := (I.fact 2 (by decide) rfl).2
    have F3 : slot a 38 = .bool true := (I.fact 3 (by decide) rfl).2
    have F4 : slot a 39 = .bool false := (I.fact 4 (by decide) rfl).2
    have hfr := frame_of [35, 36, 37, 38, 39] I.size I.defers (fun s hs => I.rest s (rfDsts_spec (by kernel_rfl) hs))
    rw [hfr]
    simp only [List.foldl_cons, List.foldl_nil, List.setIfInBounds_toArray, List.set_cons_succ, List.set_cons_zero, F4]
    generalize slot a 35 = t35
    generalize slot a 36 = t36
    generalize slot a 37 = t37
    generalize slot a 38 = t38
    have NN13 := hide (hbY.size)
    try clear I
    try clear hfr
    try clear hbY
    try clear X0
    try clear F0
    try clear F1
    try clear F2
    try clear F3
    try clear F4
    try clear iv a
    -- region 16
    go_upto_region 16 with fail
    have X1 := X
    refine wp_region_any (by kernel_rfl) ?_
    refine wpAny_facts (w0 := u9) (fun i => ([(fun lo hi s W => s 40 = .agg #[.slice gx10 p1x.length kx10, .slice gx11 p1y.length kx11, .slice gx12 p1z.length kx12, .slice gx13 p1t.length kx13, .int .i64 p1u]),
      (fun lo hi s W => s 41 = .agg #[.slice s10 p1x.length c10, .slice s11 p1y.length c11, .slice s12 p1z.length c12, .slice s13 p1t.length c13, .int .i64 p1u]),
      (fun lo hi s W => MpO W (s 42) p1x p1y p1z p1t p1u lo hi),
      (fun lo hi s W => s 43 = .bool true),
      (fun lo hi s W => s 44 = .bool false)] : List (Nat → Nat → (Nat → Value) → World → Prop)).getD i (fun _ _ _ _ => True)) [[], [], [1], [0, 1, 2], [0, 1, 2, 3]] [0, 1, 2, 3, 4] [[40], [41], [42], [43], [44]] [[], [], [], [], []] (by kernel_rfl) (by kernel_rfl) ?st ?step ?fin
    case st =>
      clear HSP HIP
      intro i hi lo hi' s W W' h q1 q2 q3 q4 k
      have hi : i < 5 := hi
      clear X X1 Cx0 Cx1
      rcases (show i = 0 ∨ i = 1 ∨ i = 2 ∨ i = 3 ∨ i = 4 by omega) with rfl | rfl | rfl | rfl | rfl
      · have h : s 40 = .agg #[.slice gx10 p1x.length kx10, .slice gx11 p1y.length kx11, .slice gx12 p1z.length kx12, .slice gx13 p1t.length kx13, .int .i64 p1u] := h
        show s 40 = .agg #[.slice gx10 p1x.length kx10, .slice gx11 p1y.length kx11, .slice gx12 p1z.length kx12, .slice gx13 p1t.length kx13, .int .i64 p1u]
        exact h
      · have h : s 41 = .agg #[.slice s10 p1x.length c10, .slice s11 p1y.length c11, .slice s12 p1z.length c12, .slice s13 p1t.length c13, .int .i64 p1u] := h
        show s 41 = .agg #[.slice s10 p1x.length c10, .slice s11 p1y.length c11, .slice s12 p1z.length c12, .slice s13 p1t.length c13, .int .i64 p1u]
        exact h
      · have h : MpO W (s 42) p1x p1y p1z p1t p1u lo hi' := h
        show MpO W' (s 42) p1x p1y p1z p1t p1u lo hi'
        exact h.on k
      · have h : s 43 = .bool true := h
        show s 43 = .bool true
        exact h
      · have h : s 44 = .bool false := h
        show s 44 = .bool false
        exact h
    case step =>
      intro i hi a W iv hb hsz hdf hrest hanc hivs hap K HK
      have hi : i < 5 := hi
      have HK := hide HK
      have HAN := hide hanc
      have HIV := hide hivs
      have HRS := hide hrest
      have XU := hide (X1.out.up hb)
      have HB := hide hb
      clear hanc hivs hap hrest hb hsz hdf X X1
      rcases (show i = 0 ∨ i = 1 ∨ i = 2 ∨ i = 3 ∨ i = 4 by omega) with rfl | rfl | rfl | rfl | rfl
      · refine wpOp_step (o := _) rfl fun K' hK => ?_
        rw [if_pos (by go_simp)]
        have e1 : a.tmps.getD 8 undef = .pointer (some ⟨bx1, 0, none⟩) := (HRS.out 8 (by decide)).trans rfl
        have c0 : W.cell? ⟨bx1, 0, none⟩ = some (.slice gx10 p1x.length kx10) := XU.out.cell 3 0 rfl rfl
        have c1 : W.cell? ⟨bx1, 1, none⟩ = some (.slice gx11 p1y.length kx11) := XU.out.cell 3 1 rfl rfl
        have c2 : W.cell? ⟨bx1, 2, none⟩ = some (.slice gx12 p1z.length kx12) := XU.out.cell 3 2 rfl rfl
        have c3 : W.cell? ⟨bx1, 3, none⟩ = some (.slice gx13 p1t.length kx13) := XU.out.cell 3 3 rfl rfl
        have c4 : W.cell? ⟨bx1, 4, none⟩ = some (.int .i64 p1u) := XU.out.cell 3 4 rfl rfl
        go_simp
        exact hK _ _ (HK.out _ _ ⟨fun _ => ⟨Below.refl _ _, rfl⟩, fun h => absurd rfl h⟩)
      · refine wpOp_step (o := _) rfl fun K' hK => ?_
        rw [if_pos (by go_simp)]
        have e1 : a.tmps.getD 3 undef = .pointer (some ⟨w.heap.size + 1, 0, none⟩) := (HRS.out 3 (by decide)).trans rfl
        have c0 : W.cell? ⟨w.heap.size + 1, 0, none⟩ = some (.slice s10 p1x.length c10) := XU.out.cell 1 0 rfl rfl
        have c1 : W.cell? ⟨w.heap.size + 1, 1, none⟩ = some (.slice s11 p1y.length c11) := XU.out.cell 1 1 rfl rfl
        have c2 : W.cell? ⟨w.heap.size + 1, 2, none⟩ = some (.slice s12 p1z.length c12) := XU.out.cell 1 2 rfl rfl
        have c3 : W.cell? ⟨w.heap.size + 1, 3, none⟩ = some (.slice s13 p1t.length c13) := XU.out.cell 1 3 rfl rfl
        have c4 : W.cell? ⟨w.heap.size + 1, 4, none⟩ = some (.int .i64 p1u) := XU.out.cell 1 4 rfl rfl
        go_simp
        exact hK _ _ (HK.out _ _ ⟨fun _ => ⟨Below.refl _ _, rfl⟩, fun h => absurd rfl h⟩)
      · refine wpOp_step (o := _) rfl fun K' hK => ?_
        rw [if_pos (by go_simp)]
        have e1 : a.tmps.getD 41 undef = .agg #[.slice s10 p1x.length c10, .slice s11 p1y.length c11, .slice s12 p1z.length c12, .slice s13 p1t.length c13, .int .i64 p1u] := HAN.out 1 (by decide)
        go_simp
        go_at_call 25
        refine (T1.out _ XU.out.below).mono ?_
        rintro e W' ⟨vv, rfl, ho, hbb⟩
        skip
        exact hK _ _ (HK.out _ _ ⟨fun _ => ⟨hbb, ho⟩, fun h => absurd rfl h⟩)
      · refine wpOp_step (o := _) rfl fun K' hK => ?_
        rw [if_pos (by go_simp)]
        have e1 : a.tmps.getD 40 undef = .agg #[.slice gx10 p1x.length kx10, .slice gx11 p1y.length kx11, .slice gx12 p1z.length kx12, .slice gx13 p1t.length kx13, .int .i64 p1u] := HAN.out 0 (by decide)
        have k1 : MpO W (a.tmps.getD 42 undef) p1x p1y p1z p1t p1u _ _ := HAN.out 2 (by decide)
        obtain ⟨y1, hy1⟩ : ∃ q, a.tmps.getD 42 undef = q := ⟨_, rfl⟩
        rw [hy1] at k1
        have k1 := hide (PD1.out _ _ _ _ k1)
        have k0 := hide (PD1.out _ _ _ _ (Cx1.out.below HB.out))
        go_simp
        go_at_call 18
        refine (eqMap_same _ _ p1x p1y p1z p1t p1u _ _ (Nat.le_refl _) k0.out k1.out).mono ?_
        rintro e W' ⟨rfl, hbb⟩
        skip
        exact hK _ _ (HK.out _ _ ⟨fun _ => ⟨hbb, rfl⟩, fun h => absurd rfl h⟩)
      · refine wpOp_step (o := _) rfl fun K' hK => ?_
        rw [if_pos (by go_simp)]
        have e1 : a.tmps.getD 43 undef = .bool true := HAN.out 3 (by decide)
        go_simp
        exact hK _ _ (HK.out _ _ ⟨fun _ => ⟨Below.refl _ _, rfl⟩, fun h => absurd rfl h⟩)
    case fin =>
    intro a u10 iv I
    have hbY := I.below
    have Cx0 := hide (Cx0.out.below hbY)
    have Cx1 := hide (Cx1.out.below hbY)
    have X0 := X1
    have X := hide (X1.out.up hbY)
    clear X1
    have F0 : slot a 40 = .agg #[.slice gx10 p1x.length kx10, .slice gx11 p1y.length kx11, .slice gx12 p1z.length kx12, .slice gx13 p1t.length kx13, .int .i64 p1u] := (I.fact 0 (by decide) rfl).2
    have F1 : slot a 41 = .agg #[.slice s10 p1x.length c10, .slice s11 p1y.length c11, .slice s12 p1z.length c12, .slice s13 p1t.length c13, .int .i64 p1u] := (I.fact 1 (by decide) rfl).2
    have F2 : MpO u10 (slot a 42) p1x p1y p1z p1t p1u (iv 2).1 (iv 2).2 := (I.fact 2 (by decide) rfl).2
    have F3 : slot a 43 = .bool true := (I.fact 3 (by decide) rfl).2
    have F4 : slot a 44 = .bool false := (I.fact 4 (by decide) rfl).2
    have hfr := frame_of [40, 41, 42, 43, 44] I.size I.defers (fun s hs => I.rest s (rfDsts_spec (by kernel_rfl) hs))
    rw [hfr]
    simp only [List.foldl_cons, List.foldl_nil, List.setIfInBounds_toArray, List.set_cons_succ, List.set_cons_zero, F4]
    generalize slot a 40 = t40
    generalize slot a 41 = t41
    generalize slot a 42 = t42
    generalize slot a 43 = t43
    have NN14 := hide (hbY.size)
    try clear I
    try clear hfr
    try clear hbY
    try clear X0
    try clear F0
    try clear F1
    try clear F2
    try clear F3
    try clear F4
    try clear iv a
    go_wp2_with fail
    go_ret
    exact ⟨rfl, X.out.below⟩

set_option maxRecDepth 100000 in
theorem lifted (os : Os) (started : os.Started) (H : Type) (enc : TypeId × Value → H) :
    ReturnsInHanded {} Try.checked os 8 .any (Rows.fnExactEqualMapsSpec.pre6 enc Try.prog Try.f8 Rows.fnExactEqualMapsRow.domain false) (Rows.fnExactEqualMapsSpec.post enc Try.prog Try.f8 false true false false) := by
  refine returnsInHanded_of_change (C := Try.checked) own started (by kernel_rfl) Try.func8
    (ChangeSpec.witness6 (enc := enc) (C := Try.checked) false ⟨#[], #[.agg #[.slice none 0 0, .slice none 0 0, .slice none 0 0, .slice none 0 0, .int .i64 0], .agg #[.slice none 0 0, .slice none 0 0, .slice none 0 0, .slice none 0 0, .int .i64 0]], []⟩ 8 (by kernel_rfl) (by kernel_rfl) (by kernel_rfl) (by kernel_rfl)) ?_
  intro W base args ds gs before hval0 hW hcnd _
  have hval : ∀ (j : Nat) t v, Try.f8.params[j]? = some t → args[j]? = some v → Value.okWide Try.prog W .any base t v := hval0
  have hW' := hW
  obtain ⟨p, q, hA0, hV, rfl, hfz, hnd⟩ := hW
  have hA : DataW.TrodAll enc Try.prog W 0 (fun _ => true) true Try.f8.params.toList args.toList ds p := hA0
  rw [Try.params8] at hA hval
  obtain ⟨v0, vs0, d0, ds0, p0, q0, hargs, rfl, rfl, h0, r0⟩ := trodAll_cons hA
  obtain ⟨v1, vs1, d1, ds1, p1, q1, rfl, rfl, rfl, h1, r1⟩ := trodAll_cons r0
  obtain ⟨rfl, rfl, rfl⟩ := trodAll_nil r1
  obtain rfl : args = #[v0, v1] := by cases args; simp_all
  obtain ⟨rfl, rfl⟩ := trodVars_none hV
  have k0 := h0
  have lt0 : ∀ x ∈ p0, x.block < W.heap.size := by obtain ⟨m, hm⟩ := k0; exact DataW.trod_lt m _ _ _ hm
  have k1 := h1
  have lt1 : ∀ x ∈ p1, x.block < W.heap.size := by obtain ⟨m, hm⟩ := k1; exact DataW.trod_lt m _ _ _ hm
  have w0 := open_mp (hval 0 38 v0 rfl rfl) h0
  have w1 := open_mp (hval 1 38 v1 rfl rfl) h1
  clear hA0 hval0
  refine (walk W v0 w0 v1 w1).mono fun e W' ⟨he, bel⟩ => ?_
  subst he
  exact ⟨_, rfl, _, _, _, [], _, [], hW', trodAll_mk1 (shut_bool Try.underlying4 _), (trodAll_cons_mk (Below.trod laidOut (by kernel_rfl) (of_decide_eq_true (by kernel_rfl)) k0 bel lt0) (trodAll_cons_mk (Below.trod laidOut (by kernel_rfl) (of_decide_eq_true (by kernel_rfl)) k1 bel lt1) trodAll_mk0)), rfl, bel.frame _, fun h => by cases h⟩

theorem over : Rows.fnExactEqualMapsRow.holds Try.pinned (OpenSpec.ofChange Rows.fnExactEqualMapsSpec) :=
  OpenClaim.holds_of_wide 8 Try.f8 rfl rfl rfl rfl rfl rfl rfl ⟨rfl, rfl, rfl, rfl, rfl⟩ rfl rfl rfl rfl rfl (by kernel_rfl) Try.func8 (by kernel_rfl)
    (of_decide_eq_true (by kernel_rfl)) (by unfold Func.isWrapper; first | (rw [if_pos (by decide +kernel)]; kernel_rfl) | (rw [if_neg (by decide +kernel)]; exact ⟨rfl, rfl⟩))
    (fun os started H enc _ => lifted os started H enc)

/-- The statement. -/
theorem proved : Rows.FnExactEqualMapsSaid := over
#print axioms proved
end Go.Proofs.Ytepkkeclkdlheaa.fnExactEqualMaps
