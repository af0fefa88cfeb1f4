/- The law FnExactAddDelete holds: whatever the arguments, the call returns true, and they read afterwards as before. -/
import Derived.Test.YtajfhalalnlejaaRows
import Derived.WalkKit
import Derived.ProofKit
import Derived.OpenShut
import Derived.ShutString
import Derived.ChangeOld
import Derived.Below
import Derived.Test.YtajfhalalnlejaaAxL
import Derived.Test.YtajfhalalnlejaaOck
namespace Go.Proofs.Ytajfhalalnlejaa.fnExactAddDelete
open Go.ChangeShapes Go.WideShapes Go.ChangeAt Go.RowKit
open Go.ChangeMaps (open_string shut_string)
set_option linter.unusedVariables false
set_option linter.unusedSimpArgs false

theorem own : ownKnob Try.prog.godebug = none := by kernel_rfl
theorem laidOut : laidOutB Try.prog = true := by kernel_rfl

set_option maxRecDepth 100000 in
set_option maxHeartbeats 40000000 in
theorem walk (w : World) (v0 : Value) (w0' : ∃ p0x p0y p0z, Ck w w.heap.size v0 p0x p0y p0z) (v1 : Value) (w1' : ∃ p1x p1y, Pd w w.heap.size v1 p1x p1y) (a2 : Int) (w2' : (Lit.int .i64 a2).wf = true) :
    Calls Try.prog 8 #[v0, v1, .int .i64 a2] w fun e w' => e = .returned (.bool true) ∧ Below w.heap.size w w' := by
  obtain ⟨p0x, p0y, p0z, hv0⟩ := w0'
  obtain ⟨s00, c00, s01, c01, s02, c02, rfl, -⟩ := hv0.form
  have hwf0 : CkWf p0x p0y p0z := hv0.wf
  have V0 := hide hv0
  clear hv0
  obtain ⟨p1x, p1y, hv1⟩ := w1'
  obtain ⟨s10, c10, s11, c11, rfl, -⟩ := hv1.form
  have hwf1 : PdWf p1x p1y := hv1.wf
  have V1 := hide hv1
  clear hv1
  have hi20 : I64 a2 := by have b := bounds_i64 w2'; exact ⟨by omega, by omega⟩
  clear w2'
  obtain ⟨wC, hwC⟩ : ∃ q, q = (w.alloc (.cells #[.slice s00 p0x.length c00, .slice s01 p0y.length c01, .slice s02 p0z.length c02] 42)).alloc (.cells #[.slice s10 p1x.length c10, .slice s11 p1y.length c11] 65) := ⟨_, rfl⟩
  have X : Hid (Kn w wC [(w.heap.size, #[.slice s00 p0x.length c00, .slice s01 p0y.length c01, .slice s02 p0z.length c02], 42), (w.heap.size + 1, #[.slice s10 p1x.length c10, .slice s11 p1y.length c11], 65)]) := hide (by rw [hwC]; simpa using (Kn.one w #[.slice s00 p0x.length c00, .slice s01 p0y.length c01, .slice s02 p0z.length c02] 42).alloc #[.slice s10 p1x.length c10, .slice s11 p1y.length c11] 65)
  have N0 := hide (show wC.heap.size = w.heap.size + 1 + 1 by rw [hwC]; simp)
  have hsz0 := hide (fun (W : World) (h : Below w.heap.size w W) (q1 : -1 ≤ (1048576 : Int)) (q2 : (1048576 : Int) ≤ 1048576) => szCracker_any _ p0x p0y p0z 1048576 W w.heap.size (V0.out.below h (Nat.le_refl _)) h.size q1 q2)
  obtain ⟨z0, hz0⟩ : ∃ z, z = szC (p0x.length + p0y.length + p0z.length) 1048576 := ⟨_, rfl⟩
  rw [← hz0] at hsz0
  unfold szC at hz0
  have hsz1 := hide (fun (W : World) (h : Below w.heap.size w W) (q1 : -1 ≤ (z0 : Int)) (q2 : (z0 : Int) ≤ 1048576) => szPending_any _ p1x p1y z0 W w.heap.size (V1.out.below h (Nat.le_refl _)) h.size q1 q2)
  obtain ⟨z1, hz1⟩ : ∃ z, z = szC (p1x.length + p1y.length) z0 := ⟨_, rfl⟩
  rw [← hz1] at hsz1
  unfold szC at hz1
  by_cases hneg0 : z0 < 0
  · have b0 : decide (z0 < 0) = true := by simp; omega
    clear hz0 hz1
    have c0_0 : wC.cell? ⟨w.heap.size, 0, none⟩ = some (.slice s00 p0x.length c00) := X.out.cell 0 0 rfl rfl
    have c0_1 : wC.cell? ⟨w.heap.size, 1, none⟩ = some (.slice s01 p0y.length c01) := X.out.cell 0 1 rfl rfl
    have c0_2 : wC.cell? ⟨w.heap.size, 2, none⟩ = some (.slice s02 p0z.length c02) := X.out.cell 0 2 rfl rfl
    have c1_0 : wC.cell? ⟨w.heap.size + 1, 0, none⟩ = some (.slice s10 p1x.length c10) := X.out.cell 1 0 rfl rfl
    have c1_1 : wC.cell? ⟨w.heap.size + 1, 1, none⟩ = some (.slice s11 p1y.length c11) := X.out.cell 1 1 rfl rfl
    rw [hwC] at c0_0 c0_1 c0_2 c1_0 c1_1
    go_enter Try.func8, Try.ntmps8
    go_wp2_with fail
    rw [← hwC]
    clear hwC c0_0 c0_1 c0_2 c1_0 c1_1
    go_at_call 21
    refine (hsz0.out _ X.out.below (by omega) (by omega)).mono ?_
    rintro e u1 ⟨rfl, hb⟩
    have X := hide (X.out.up hb)
    have N1 := hide hb.size
    clear hb
    go_wp2_with fail
    go_ret
    exact ⟨rfl, X.out.below⟩
  have hbig0 : p0x.length + p0y.length + p0z.length ≤ 1048576 := by split at hz0 <;> omega
  have hpos0 : 0 ≤ z0 ∧ z0 ≤ 1048576 := by split at hz0 <;> omega
  have b0 : decide (z0 < 0) = false := by simp; omega
  clear hneg0
  by_cases hneg1 : z1 < 0
  · have b1 : decide (z1 < 0) = true := by simp; omega
    clear hz0 hz1
    have c0_0 : wC.cell? ⟨w.heap.size, 0, none⟩ = some (.slice s00 p0x.length c00) := X.out.cell 0 0 rfl rfl
    have c0_1 : wC.cell? ⟨w.heap.size, 1, none⟩ = some (.slice s01 p0y.length c01) := X.out.cell 0 1 rfl rfl
    have c0_2 : wC.cell? ⟨w.heap.size, 2, none⟩ = some (.slice s02 p0z.length c02) := X.out.cell 0 2 rfl rfl
    have c1_0 : wC.cell? ⟨w.heap.size + 1, 0, none⟩ = some (.slice s10 p1x.length c10) := X.out.cell 1 0 rfl rfl
    have c1_1 : wC.cell? ⟨w.heap.size + 1, 1, none⟩ = some (.slice s11 p1y.length c11) := X.out.cell 1 1 rfl rfl
    rw [hwC] at c0_0 c0_1 c0_2 c1_0 c1_1
    go_enter Try.func8, Try.ntmps8
    go_wp2_with fail
    rw [← hwC]
    clear hwC c0_0 c0_1 c0_2 c1_0 c1_1
    go_at_call 21
    refine (hsz0.out _ X.out.below (by omega) (by omega)).mono ?_
    rintro e u1 ⟨rfl, hb⟩
    have X := hide (X.out.up hb)
    have N1 := hide hb.size
    clear hb
    have c1_0 : u1.cell? ⟨w.heap.size + 1, 0, none⟩ = some (.slice s10 p1x.length c10) := X.out.cell 1 0 rfl rfl
    have c1_1 : u1.cell? ⟨w.heap.size + 1, 1, none⟩ = some (.slice s11 p1y.length c11) := X.out.cell 1 1 rfl rfl
    go_wp2_with fail
    clear c1_0 c1_1
    go_at_call 37
    refine (hsz1.out _ X.out.below (by omega) (by omega)).mono ?_
    rintro e u2 ⟨rfl, hb⟩
    have X := hide (X.out.up hb)
    have N2 := hide hb.size
    clear hb
    go_wp2_with fail
    go_ret
    exact ⟨rfl, X.out.below⟩
  have hbig1 : p1x.length + p1y.length ≤ 1048576 := by split at hz0 <;> split at hz1 <;> omega
  have hpos1 : 0 ≤ z1 ∧ z1 ≤ 1048576 := by split at hz0 <;> split at hz1 <;> omega
  have b1 : decide (z1 < 0) = false := by simp; omega
  clear hneg1
  clear hz0 hz1
  · skip
    have T0 := hide (fun (W : World) (h : Below w.heap.size w W) => toCracker_o _ p0x p0y p0z W w.heap.size (V0.out.below h (Nat.le_refl _)) h.size (by omega) (by omega) (by omega))
    have T1 := hide (fun (W : World) (h : Below w.heap.size w W) => toPending_o _ p1x p1y W w.heap.size (V1.out.below h (Nat.le_refl _)) h.size (by omega) (by omega))
    have hR0 : ((axI p0x p0y p0z p1x p1y a2).length ≤ 4000000 ∧ (axD p0x p0y p0z p1x p1y a2).length ≤ 4000000) ∧ PdWf (axI p0x p0y p0z p1x p1y a2) (axD p0x p0y p0z p1x p1y a2) := ax_wf hbig1 hwf1 hi20
    have HSP := hide (fun (W : World) (v0 : Value) (k0 : Ck W W.heap.size v0 p0x p0y p0z) (v1 : Value) (k1 : Pd W W.heap.size v1 p1x p1y) => show Calls Try.prog 46 #[v0, v1, .int .i64 a2] W (fun e w' => ∃ u0, e = .returned (.tuple #[u0, .bool (axB p0x p0y p0z p1x p1y a2)]) ∧ PdOs w' u0 (axI p0x p0y p0z p1x p1y a2) (axD p0x p0y p0z p1x p1y a2) W.heap.size w'.heap.size ∧ Below W.heap.size W w') from sAx_any v0 v1 p0x p0y p0z p1x p1y a2 W k0 k1 (by omega) (by omega) (by omega) hi20)
    have HIP := hide (fun (W : World) (v0 : Value) (k0 : Ck W W.heap.size v0 p0x p0y p0z) (v1 : Value) (k1 : Pd W W.heap.size v1 p1x p1y) => show Calls Try.prog 47 #[v0, v1, .int .i64 a2] W (fun e w' => ∃ u0, e = .returned (.tuple #[u0, .bool (axB p0x p0y p0z p1x p1y a2)]) ∧ PdOs w' u0 (axI p0x p0y p0z p1x p1y a2) (axD p0x p0y p0z p1x p1y a2) W.heap.size w'.heap.size ∧ Below W.heap.size W w') from iAx_any v0 v1 p0x p0y p0z p1x p1y a2 W k0 k1 (by omega) (by omega) (by omega) (by omega) hi20)
    obtain ⟨r0x, hq⟩ : ∃ q : List Pv, q = axI p0x p0y p0z p1x p1y a2 := ⟨_, rfl⟩
    rw [← hq] at HSP HIP hR0
    clear hq
    obtain ⟨r0y, hq⟩ : ∃ q : List Int, q = axD p0x p0y p0z p1x p1y a2 := ⟨_, rfl⟩
    rw [← hq] at HSP HIP hR0
    clear hq
    obtain ⟨r1, hq⟩ : ∃ q : Bool, q = axB p0x p0y p0z p1x p1y a2 := ⟨_, rfl⟩
    rw [← hq] at HSP HIP 
    clear hq
    obtain ⟨⟨hl00, hl01⟩, hRw0⟩ := hR0
    have RD0 := hide (fun (W : World) (v : Value) (lo hi : Nat) (h : PdOs W v r0x r0y lo hi) => h.rd hRw0)
    have PD0 := hide (fun (W : World) (v : Value) (lo hi : Nat) (h : Oc W v p0x p0y p0z lo hi) => h.rd hwf0)
    have PD1 := hide (fun (W : World) (v : Value) (lo hi : Nat) (h : PdOs W v p1x p1y lo hi) => h.rd hwf1)
    obtain ⟨A0, hA0⟩ : ∃ q : Int, q = 1 + (p0x.length : Int) + (p0y.length : Int) + 2 * (p0z.length : Int) := ⟨_, rfl⟩
    have HA0 := hide (fun (W : World) (v : Value) (lo hi : Nat) (h : Oc W v p0x p0y p0z lo hi) => show Calls Try.prog 19 #[v, .int .i64 (1)] W (RetMOc W v (mkI (1) p0x.length) (mkI (1 + (p0x.length : Int)) p0y.length) (mkP (1 + (p0x.length : Int) + (p0y.length : Int)) p0z.length) lo hi A0) by rw [hA0]; exact markCracker_o v p0x p0y p0z lo hi (1) W h (by omega) (by omega))
    obtain ⟨A1, hA1⟩ : ∃ q : Int, q = A0 + 2 * (p1x.length : Int) + (p1y.length : Int) := ⟨_, rfl⟩
    have HA1 := hide (fun (W : World) (v : Value) (lo hi : Nat) (h : PdOs W v p1x p1y lo hi) => show Calls Try.prog 44 #[v, .int .i64 (A0)] W (RetMPdO W v (mkP (A0) p1x.length) (mkI (A0 + 2 * (p1x.length : Int)) p1y.length) lo hi A1) by rw [hA1]; exact markPending_o v p1x p1y lo hi (A0) W h (by omega) (by omega))
    have hAn : decide (A1 < 0) = false := by simp; omega
    obtain ⟨M0, hM0⟩ : ∃ q : Int, q = 1 + 2 * (r0x.length : Int) + (r0y.length : Int) := ⟨_, rfl⟩
    have HM0 := hide (fun (W : World) (v : Value) (lo hi : Nat) (h : PdOs W v r0x r0y lo hi) => show Calls Try.prog 44 #[v, .int .i64 (1)] W (RetMPdO W v (mkP (1) r0x.length) (mkI (1 + 2 * (r0x.length : Int)) r0y.length) lo hi M0) by rw [hM0]; exact markPending_o v r0x r0y lo hi (1) W h (by omega) (by omega))
    have HH0 := hide (fun (W : World) (v : Value) (lo hi : Nat) (h : PdOs W v (mkP (1) r0x.length) (mkI (1 + 2 * (r0x.length : Int)) r0y.length) lo hi) => show Calls Try.prog 45 #[v, .int .i64 (1)] W (RetI1 W M0) by rw [hM0]; exact heldPending_o v r0x.length r0y.length lo hi (1) W h (by omega) (by omega))
    have hMn0 : decide (M0 < 0) = false := by simp; omega
    have hMM : (M0 != M0) = false := by simp
    have hn1 : (r1 != r1) = false := by simp
    clear hA0 hA1 hM0 hwf0 hwf1 hRw0 hl00 hl01
    have c0_0 : wC.cell? ⟨w.heap.size, 0, none⟩ = some (.slice s00 p0x.length c00) := X.out.cell 0 0 rfl rfl
    have c0_1 : wC.cell? ⟨w.heap.size, 1, none⟩ = some (.slice s01 p0y.length c01) := X.out.cell 0 1 rfl rfl
    have c0_2 : wC.cell? ⟨w.heap.size, 2, none⟩ = some (.slice s02 p0z.length c02) := X.out.cell 0 2 rfl rfl
    have c1_0 : wC.cell? ⟨w.heap.size + 1, 0, none⟩ = some (.slice s10 p1x.length c10) := X.out.cell 1 0 rfl rfl
    have c1_1 : wC.cell? ⟨w.heap.size + 1, 1, none⟩ = some (.slice s11 p1y.length c11) := X.out.cell 1 1 rfl rfl
    rw [hwC] at c0_0 c0_1 c0_2 c1_0 c1_1
    go_enter Try.func8, Try.ntmps8
    go_wp2_with fail
    rw [← hwC]
    clear hwC c0_0 c0_1 c0_2 c1_0 c1_1
    go_at_call 21
    refine (hsz0.out _ X.out.below (by omega) (by omega)).mono ?_
    rintro e u1 ⟨rfl, hb⟩
    have X := hide (X.out.up hb)
    have N1 := hide hb.size
    clear hb
    have c1_0 : u1.cell? ⟨w.heap.size + 1, 0, none⟩ = some (.slice s10 p1x.length c10) := X.out.cell 1 0 rfl rfl
    have c1_1 : u1.cell? ⟨w.heap.size + 1, 1, none⟩ = some (.slice s11 p1y.length c11) := X.out.cell 1 1 rfl rfl
    go_wp2_with fail
    clear c1_0 c1_1
    go_at_call 37
    refine (hsz1.out _ X.out.below (by omega) (by omega)).mono ?_
    rintro e u2 ⟨rfl, hb⟩
    have X := hide (X.out.up hb)
    have N2 := hide hb.size
    clear hb
    clear hpos0 hpos1
    -- region 8
    go_upto_region 8 with fail
    have X1 := X
    refine wp_region_any (by kernel_rfl) ?_
    refine wpAny_facts (w0 := u2) (fun i => ([(fun lo hi s W => s 30 = .agg #[.slice s00 p0x.length c00, .slice s01 p0y.length c01, .slice s02 p0z.length c02]),
      (fun lo hi s W => Oc W (s 31) p0x p0y p0z lo hi),
      (fun lo hi s W => s 32 = .agg #[.slice s10 p1x.length c10, .slice s11 p1y.length c11]),
      (fun lo hi s W => PdOs W (s 33) p1x p1y lo hi),
      (fun lo hi s W => s 34 = .int .i64 a2),
      (fun lo hi s W => ∃ q0, s 35 = .tuple #[q0, .bool r1] ∧ PdOs W q0 r0x r0y lo hi),
      (fun lo hi s W => s 29 = s 35),
      (fun lo hi s W => s 36 = cmpV (s 29) 0),
      (fun lo hi s W => s 37 = cmpV (s 29) 1),
      (fun lo hi s W => ∃ g cs, s 8 = .pointer (some ⟨g, 0, none⟩) ∧ lo ≤ g ∧ g < hi ∧ W.heap[g]? = some (.cells cs 70 (0, 0)) ∧ cs.size = 2),
      (fun lo hi s W => ∃ g cs, s 8 = .pointer (some ⟨g, 0, none⟩) ∧ s 36 = .agg cs ∧ lo ≤ g ∧ g < hi ∧ W.heap[g]? = some (.cells cs 70 (0, 0))),
      (fun lo hi s W => s 9 = s 37)] : List (Nat → Nat → (Nat → Value) → World → Prop)).getD i (fun _ _ _ _ => True)) [[], [0], [], [0, 1, 2], [], [0, 1, 2, 3, 4], [0, 1, 2, 3, 4, 5], [0, 1, 2, 3, 4, 5, 6], [0, 1, 2, 3, 4, 5, 6], [], [0, 1, 2, 3, 4, 5, 6, 7, 9], [0, 1, 2, 3, 4, 5, 6, 7, 8, 9, 10]] [0, 1, 2, 3, 4, 5, 6, 7, 8, 9, 9, 11] [[30], [31], [32], [33], [34], [35], [29, 35], [36, 29], [37, 29], [8], [8, 36], [9, 37]] [[], [], [], [], [], [], [], [], [], [], [9], []] (by kernel_rfl) (by kernel_rfl) ?st ?step ?fin
    case st =>
      clear HSP HIP
      intro i hi lo hi' s W W' h q1 q2 q3 q4 k
      have hi : i < 12 := hi
      clear X X1
      rcases (show i = 0 ∨ i = 1 ∨ i = 2 ∨ i = 3 ∨ i = 4 ∨ i = 5 ∨ i = 6 ∨ i = 7 ∨ i = 8 ∨ i = 9 ∨ i = 10 ∨ i = 11 by omega) with rfl | rfl | rfl | rfl | rfl | rfl | rfl | rfl | rfl | rfl | rfl | rfl
      · have h : s 30 = .agg #[.slice s00 p0x.length c00, .slice s01 p0y.length c01, .slice s02 p0z.length c02] := h
        show s 30 = .agg #[.slice s00 p0x.length c00, .slice s01 p0y.length c01, .slice s02 p0z.length c02]
        exact h
      · have h : Oc W (s 31) p0x p0y p0z lo hi' := h
        show Oc W' (s 31) p0x p0y p0z lo hi'
        exact h.on k
      · have h : s 32 = .agg #[.slice s10 p1x.length c10, .slice s11 p1y.length c11] := h
        show s 32 = .agg #[.slice s10 p1x.length c10, .slice s11 p1y.length c11]
        exact h
      · have h : PdOs W (s 33) p1x p1y lo hi' := h
        show PdOs W' (s 33) p1x p1y lo hi'
        exact h.on k
      · have h : s 34 = .int .i64 a2 := h
        show s 34 = .int .i64 a2
        exact h
      · have h : ∃ q0, s 35 = .tuple #[q0, .bool r1] ∧ PdOs W q0 r0x r0y lo hi' := h
        show ∃ q0, s 35 = .tuple #[q0, .bool r1] ∧ PdOs W' q0 r0x r0y lo hi'
        obtain ⟨q, e1, e2⟩ := h; exact ⟨q, e1, e2.on k⟩
      · have h : s 29 = s 35 := h
        show s 29 = s 35
        exact h
      · have h : s 36 = cmpV (s 29) 0 := h
        show s 36 = cmpV (s 29) 0
        exact h
      · have h : s 37 = cmpV (s 29) 1 := h
        show s 37 = cmpV (s 29) 1
        exact h
      · have h : ∃ g cs, s 8 = .pointer (some ⟨g, 0, none⟩) ∧ lo ≤ g ∧ g < hi' ∧ W.heap[g]? = some (.cells cs 70 (0, 0)) ∧ cs.size = 2 := h
        show ∃ g cs, s 8 = .pointer (some ⟨g, 0, none⟩) ∧ lo ≤ g ∧ g < hi' ∧ W'.heap[g]? = some (.cells cs 70 (0, 0)) ∧ cs.size = 2
        obtain ⟨g, cs, e1, e2, e3, e4, e5⟩ := h; exact ⟨g, cs, e1, e2, e3, (k.own g e2 e3 (Array.getElem?_eq_some_iff.1 e4).1).trans e4, e5⟩
      · have h : ∃ g cs, s 8 = .pointer (some ⟨g, 0, none⟩) ∧ s 36 = .agg cs ∧ lo ≤ g ∧ g < hi' ∧ W.heap[g]? = some (.cells cs 70 (0, 0)) := h
        show ∃ g cs, s 8 = .pointer (some ⟨g, 0, none⟩) ∧ s 36 = .agg cs ∧ lo ≤ g ∧ g < hi' ∧ W'.heap[g]? = some (.cells cs 70 (0, 0))
        obtain ⟨g, cs, e1, e2, e3, e4, e5⟩ := h; exact ⟨g, cs, e1, e2, e3, e4, (k.own g e3 e4 (Array.getElem?_eq_some_iff.1 e5).1).trans e5⟩
      · have h : s 9 = s 37 := h
        show s 9 = s 37
        exact h
    case step =>
      intro i hi a W iv hb hsz hdf hrest hanc hivs hap K HK
      have hi : i < 12 := hi
      have HK := hide HK
      have HAN := hide hanc
      have HIV := hide hivs
      have HRS := hide hrest
      have XU := hide (X1.out.up hb)
      have HB := hide hb
      clear hanc hivs hap hrest hb hsz hdf X X1
      rcases (show i = 0 ∨ i = 1 ∨ i = 2 ∨ i = 3 ∨ i = 4 ∨ i = 5 ∨ i = 6 ∨ i = 7 ∨ i = 8 ∨ i = 9 ∨ i = 10 ∨ i = 11 by omega) with rfl | rfl | rfl | rfl | rfl | rfl | rfl | rfl | rfl | rfl | rfl | rfl
      · refine wpOp_step (o := _) rfl fun K' hK => ?_
        rw [if_pos (by go_simp)]
        have e1 : a.tmps.getD 3 undef = .pointer (some ⟨w.heap.size, 0, none⟩) := (HRS.out 3 (by decide)).trans rfl
        have c0 : W.cell? ⟨w.heap.size, 0, none⟩ = some (.slice s00 p0x.length c00) := XU.out.cell 0 0 rfl rfl
        have c1 : W.cell? ⟨w.heap.size, 1, none⟩ = some (.slice s01 p0y.length c01) := XU.out.cell 0 1 rfl rfl
        have c2 : W.cell? ⟨w.heap.size, 2, none⟩ = some (.slice s02 p0z.length c02) := XU.out.cell 0 2 rfl rfl
        go_simp
        exact hK _ _ (HK.out _ _ ⟨fun _ => ⟨Below.refl _ _, rfl⟩, fun h => absurd rfl h⟩)
      · refine wpOp_step (o := _) rfl fun K' hK => ?_
        rw [if_pos (by go_simp)]
        have e1 : a.tmps.getD 30 undef = .agg #[.slice s00 p0x.length c00, .slice s01 p0y.length c01, .slice s02 p0z.length c02] := HAN.out 0 (by decide)
        go_simp
        go_at_call 23
        refine (T0.out _ XU.out.below).mono ?_
        rintro e W' ⟨vv, rfl, ho, hbb⟩
        skip
        exact hK _ _ (HK.out _ _ ⟨fun _ => ⟨hbb, ho⟩, fun h => absurd rfl h⟩)
      · refine wpOp_step (o := _) rfl fun K' hK => ?_
        rw [if_pos (by go_simp)]
        have e1 : a.tmps.getD 4 undef = .pointer (some ⟨w.heap.size + 1, 0, none⟩) := (HRS.out 4 (by decide)).trans rfl
        have c0 : W.cell? ⟨w.heap.size + 1, 0, none⟩ = some (.slice s10 p1x.length c10) := XU.out.cell 1 0 rfl rfl
        have c1 : W.cell? ⟨w.heap.size + 1, 1, none⟩ = some (.slice s11 p1y.length c11) := XU.out.cell 1 1 rfl rfl
        go_simp
        exact hK _ _ (HK.out _ _ ⟨fun _ => ⟨Below.refl _ _, rfl⟩, fun h => absurd rfl h⟩)
      · refine wpOp_step (o := _) rfl fun K' hK => ?_
        rw [if_pos (by go_simp)]
        have e1 : a.tmps.getD 32 undef = .agg #[.slice s10 p1x.length c10, .slice s11 p1y.length c11] := HAN.out 2 (by decide)
        go_simp
        go_at_call 39
        refine (T1.out _ XU.out.below).mono ?_
        rintro e W' ⟨vv, rfl, ho, hbb⟩
        skip
        exact hK _ _ (HK.out _ _ ⟨fun _ => ⟨hbb, ho⟩, fun h => absurd rfl h⟩)
      · refine wpOp_step (o := _) rfl fun K' hK => ?_
        rw [if_pos (by go_simp)]
        have e1 : a.tmps.getD 2 undef = .int .i64 a2 := (HRS.out 2 (by decide)).trans rfl
        go_simp
        exact hK _ _ (HK.out _ _ ⟨fun _ => ⟨Below.refl _ _, rfl⟩, fun h => absurd rfl h⟩)
      · refine wpOp_step (o := _) rfl fun K' hK => ?_
        rw [if_pos (by go_simp)]
        have e2 : a.tmps.getD 34 undef = .int .i64 a2 := HAN.out 4 (by decide)
        have k0 : Oc W (a.tmps.getD 31 undef) p0x p0y p0z _ _ := HAN.out 1 (by decide)
        obtain ⟨y0, hy0⟩ : ∃ q, a.tmps.getD 31 undef = q := ⟨_, rfl⟩
        rw [hy0] at k0
        have k0 := hide (PD0.out _ _ _ _ k0)
        have k1 : PdOs W (a.tmps.getD 33 undef) p1x p1y _ _ := HAN.out 3 (by decide)
        obtain ⟨y1, hy1⟩ : ∃ q, a.tmps.getD 33 undef = q := ⟨_, rfl⟩
        rw [hy1] at k1
        have k1 := hide (PD1.out _ _ _ _ k1)
        go_simp
        go_at_call 46
        refine (HSP.out _ _ k0.out _ k1.out).mono ?_
        rintro e W' ⟨q0, rfl, ho, hbb⟩
        skip
        exact hK _ _ (HK.out _ _ ⟨fun _ => ⟨hbb, ⟨_, rfl, ho⟩⟩, fun h => absurd rfl h⟩)
      · refine wpOp_step (o := _) rfl fun K' hK => ?_
        rw [if_pos (by go_simp)]
        obtain ⟨y, e1⟩ : ∃ y, a.tmps.getD 35 undef = y := ⟨_, rfl⟩
        go_simp
        exact hK _ _ (HK.out _ _ ⟨fun _ => ⟨Below.refl _ _, e1.symm⟩, fun h => absurd rfl h⟩)
      · refine wpOp_step (o := _) rfl fun K' hK => ?_
        rw [if_pos (by go_simp)]
        have h0 := HAN.out 5 (by decide)
        obtain ⟨q0, h0, -⟩ : ∃ q0, a.tmps.getD 35 undef = .tuple #[q0, .bool r1] ∧ _ := h0
        have h1 : a.tmps.getD 29 undef = a.tmps.getD 35 undef := HAN.out 6 (by decide)
        rw [h0] at h1
        clear h0
        have h0 := h1
        clear h1
        go_simp
        exact hK _ _ (HK.out _ _ ⟨fun _ => ⟨Below.refl _ _, by show _ = cmpV (a.tmps.getD 29 undef) 0; rw [h0]; rfl⟩, fun h => absurd rfl h⟩)
      · refine wpOp_step (o := _) rfl fun K' hK => ?_
        rw [if_pos (by go_simp)]
        have h0 := HAN.out 5 (by decide)
        obtain ⟨q0, h0, -⟩ : ∃ q0, a.tmps.getD 35 undef = .tuple #[q0, .bool r1] ∧ _ := h0
        have h1 : a.tmps.getD 29 undef = a.tmps.getD 35 undef := HAN.out 6 (by decide)
        rw [h0] at h1
        clear h0
        have h0 := h1
        clear h1
        go_simp
        exact hK _ _ (HK.out _ _ ⟨fun _ => ⟨Below.refl _ _, by show _ = cmpV (a.tmps.getD 29 undef) 1; rw [h0]; rfl⟩, fun h => absurd rfl h⟩)
      · refine wpOp_step (o := _) rfl fun K' hK => ?_
        rw [if_pos (by go_simp)]
        go_simp
        exact hK _ _ (HK.out _ _ ⟨fun _ => ⟨below1 W _, ⟨W.heap.size, _, rfl, Nat.le_refl _, by simp, heap_alloc_new W _, rfl⟩⟩, fun h => absurd rfl h⟩)
      · refine wpOp_step (o := _) rfl fun K' hK => ?_
        rw [if_pos (by go_simp)]
        obtain ⟨g, cs, e1, g1, g2, g3, g4⟩ : ∃ g cs, a.tmps.getD 8 undef = .pointer (some ⟨g, 0, none⟩) ∧ (iv 9).1 ≤ g ∧ g < (iv 9).2 ∧ W.heap[g]? = some (.cells cs 70 (0, 0)) ∧ cs.size = 2 := HAN.out 9 (by decide)
        obtain ⟨q0, h0, o0⟩ : ∃ q0, a.tmps.getD 35 undef = .tuple #[q0, .bool r1] ∧ PdOs W q0 r0x r0y (iv 5).1 (iv 5).2 := HAN.out 5 (by decide)
        obtain ⟨x0, y0, x1, y1, hf⟩ := o0.form
        rw [hf] at h0
        clear hf o0
        have h1 : a.tmps.getD 29 undef = a.tmps.getD 35 undef := HAN.out 6 (by decide)
        rw [h0] at h1
        clear h0
        have h0 := h1
        clear h1
        have h1 : a.tmps.getD 36 undef = cmpV (a.tmps.getD 29 undef) 0 := HAN.out 7 (by decide)
        rw [h0] at h1
        clear h0
        have h0 : a.tmps.getD 36 undef = .agg #[.slice x0 r0x.length y0, .slice x1 r0y.length y1] := h1
        clear h1
        have G3 := hide g3
        obtain ⟨z0, z1, rfl⟩ := size2 g4
        have c0 : W.cell? ⟨g, 0, none⟩ = some z0 := cell_of_row W g 0 _ _ (0, 0) g3
        have f0 : W.frozen? ⟨g, 0, none⟩ = false := frozen_of_row W g 0 _ _ g3
        have c1 : W.cell? ⟨g, 1, none⟩ = some z1 := cell_of_row W g 1 _ _ (0, 0) g3
        have f1 : W.frozen? ⟨g, 1, none⟩ = false := frozen_of_row W g 1 _ _ g3
        clear g3 g4
        go_simp
        exact hK _ _ (HK.out undef _ ⟨fun h => absurd h (by decide), fun _ => ⟨segS2 g1 g2 _ _, ⟨g, _, e1, h0, g1, g2, heap_put2 G3.out rfl _ _⟩, fun j hj => by
          obtain rfl : j = 9 := by simpa using hj
          intro _
          exact ⟨g, _, e1, g1, g2, heap_put2 G3.out rfl _ _, rfl⟩⟩⟩)
      · refine wpOp_step (o := _) rfl fun K' hK => ?_
        rw [if_pos (by go_simp)]
        obtain ⟨y, e1⟩ : ∃ y, a.tmps.getD 37 undef = y := ⟨_, rfl⟩
        go_simp
        exact hK _ _ (HK.out _ _ ⟨fun _ => ⟨Below.refl _ _, e1.symm⟩, fun h => absurd rfl h⟩)
    case fin =>
    intro a u3 iv I
    have hbY := I.below
    have X0 := X1
    have X := hide (X1.out.up hbY)
    clear X1
    have F0 : slot a 30 = .agg #[.slice s00 p0x.length c00, .slice s01 p0y.length c01, .slice s02 p0z.length c02] := (I.fact 0 (by decide) rfl).2
    have F1 : Oc u3 (slot a 31) p0x p0y p0z (iv 1).1 (iv 1).2 := (I.fact 1 (by decide) rfl).2
    have F2 : slot a 32 = .agg #[.slice s10 p1x.length c10, .slice s11 p1y.length c11] := (I.fact 2 (by decide) rfl).2
    have F3 : PdOs u3 (slot a 33) p1x p1y (iv 3).1 (iv 3).2 := (I.fact 3 (by decide) rfl).2
    have F4 : slot a 34 = .int .i64 a2 := (I.fact 4 (by decide) rfl).2
    have F5 : ∃ q0, slot a 35 = .tuple #[q0, .bool r1] ∧ PdOs u3 q0 r0x r0y (iv 5).1 (iv 5).2 := (I.fact 5 (by decide) rfl).2
    have F6 : slot a 29 = slot a 35 := (I.fact 6 (by decide) rfl).2
    have F7 : slot a 36 = cmpV (slot a 29) 0 := (I.fact 7 (by decide) rfl).2
    have F8 : slot a 37 = cmpV (slot a 29) 1 := (I.fact 8 (by decide) rfl).2
    have F9 : ∃ g cs, slot a 8 = .pointer (some ⟨g, 0, none⟩) ∧ (iv 9).1 ≤ g ∧ g < (iv 9).2 ∧ u3.heap[g]? = some (.cells cs 70 (0, 0)) ∧ cs.size = 2 := (I.fact 9 (by decide) rfl).2
    have F10 : ∃ g cs, slot a 8 = .pointer (some ⟨g, 0, none⟩) ∧ slot a 36 = .agg cs ∧ (iv 9).1 ≤ g ∧ g < (iv 9).2 ∧ u3.heap[g]? = some (.cells cs 70 (0, 0)) := (I.fact 10 (by decide) rfl).2
    have F11 : slot a 9 = slot a 37 := (I.fact 11 (by decide) rfl).2
    obtain ⟨iv5a, iv5b, iv5c⟩ := I.ivs 5 (by decide) rfl rfl
    obtain ⟨iv9a, iv9b, iv9c⟩ := I.ivs 9 (by decide) rfl rfl
    have ap5_9 := I.apart 5 9 (by decide) (by decide) rfl rfl rfl rfl (by decide)
    have hfr := frame_of [30, 31, 32, 33, 34, 35, 29, 36, 37, 8, 9] I.size I.defers (fun s hs => I.rest s (rfDsts_spec (by kernel_rfl) hs))
    skip
    obtain ⟨qA0, E35, CA0⟩ := F5
    obtain ⟨gA00, kA00, gA01, kA01, hf⟩ := CA0.form
    subst hf
    rw [E35] at F6
    rw [F6] at F7
    have F7 : slot a 36 = .agg #[.slice gA00 r0x.length kA00, .slice gA01 r0y.length kA01] := F7
    rw [F6] at F8
    have F8 : slot a 37 = .bool r1 := F8
    obtain ⟨bA0, cs, E8, hv, g1bA0, g2bA0, hcbA0⟩ := F10
    rw [F7] at hv
    obtain rfl : cs = #[.slice gA00 r0x.length kA00, .slice gA01 r0y.length kA01] := by injection hv with hv; exact hv.symm
    clear hv
    rw [F8] at F11
    rw [hfr]
    simp only [List.foldl_cons, List.foldl_nil, List.setIfInBounds_toArray, List.set_cons_succ, List.set_cons_zero, E35, F6, F7, F8, E8, F11]
    generalize slot a 30 = t30
    generalize slot a 31 = t31
    generalize slot a 32 = t32
    generalize slot a 33 = t33
    generalize slot a 34 = t34
    have XN := Kn.add (Kn.none hbY) hcbA0 (Nat.le_trans iv9a g1bA0) (fun e he => by simp at he)
    have X := hide (Kn.joinR X0.out XN)
    simp only [List.cons_append, List.nil_append] at X
    clear XN
    have NN3 := hide (hbY.size)
    obtain ⟨loA0, hloA0⟩ : ∃ q, q = (iv 5).1 := ⟨_, rfl⟩
    obtain ⟨hiA0, hhiA0⟩ : ∃ q, q = (iv 5).2 := ⟨_, rfl⟩
    rw [← hloA0, ← hhiA0] at CA0
    have hw : u2.heap.size ≤ loA0 := by omega
    have NN4 := hide (hw)
    clear hw
    have hw : hiA0 ≤ u3.heap.size := by omega
    have NN5 := hide (hw)
    clear hw
    have hw : u2.heap.size ≤ bA0 := by omega
    have NN6 := hide (hw)
    clear hw
    have hw : bA0 < u3.heap.size := by omega
    have NN7 := hide (hw)
    clear hw
    have DA0_bA0 := hide (show bA0 < loA0 ∨ hiA0 ≤ bA0 by omega)
    have CA0 := hide CA0
    try clear I
    try clear hfr
    try clear hbY
    try clear X0
    try clear F0
    try clear F1
    try clear F2
    try clear F3
    try clear F4
    try clear F5
    try clear F6
    try clear F7
    try clear F8
    try clear F9
    try clear F10
    try clear F11
    try clear E35
    try clear E8
    try clear iv5a
    try clear iv5b
    try clear iv5c
    try clear iv9a
    try clear iv9b
    try clear iv9c
    try clear ap5_9
    try clear g1bA0
    try clear g2bA0
    try clear hcbA0
    try clear hloA0
    try clear hhiA0
    try clear iv a
    have c0_0 : u3.cell? ⟨w.heap.size, 0, none⟩ = some (.slice s00 p0x.length c00) := X.out.cell 0 0 rfl rfl
    have c0_1 : u3.cell? ⟨w.heap.size, 1, none⟩ = some (.slice s01 p0y.length c01) := X.out.cell 0 1 rfl rfl
    have c0_2 : u3.cell? ⟨w.heap.size, 2, none⟩ = some (.slice s02 p0z.length c02) := X.out.cell 0 2 rfl rfl
    go_wp2_with fail
    clear c0_0 c0_1 c0_2
    go_at_call 23
    refine (T0.out _ X.out.below).mono ?_
    rintro e u4 ⟨vv, rfl, Cx0, hb⟩
    obtain ⟨gx00, kx00, gx01, kx01, gx02, kx02, hf⟩ := Cx0.form
    subst hf
    obtain ⟨lox0, hlo⟩ : ∃ q, q = u3.heap.size := ⟨_, rfl⟩
    obtain ⟨hix0, hhi⟩ : ∃ q, q = u4.heap.size := ⟨_, rfl⟩
    have hw : u3.heap.size ≤ lox0 := by omega
    have NX0a := hide hw
    have hw : hix0 ≤ u4.heap.size := by omega
    have NX0b := hide hw
    rw [← hlo, ← hhi] at Cx0
    have Cx0 := hide Cx0
    clear hw hlo hhi
    have X := hide (X.out.up hb)
    have CA0 := hide (CA0.out.below hb)
    have NN8 := hide (hb.size)
    clear hb
    have hbl := below1 u4 (.cells #[.slice gx00 p0x.length kx00, .slice gx01 p0y.length kx01, .slice gx02 p0z.length kx02] 27)
    have X := hide (X.out.alloc #[.slice gx00 p0x.length kx00, .slice gx01 p0y.length kx01, .slice gx02 p0z.length kx02] 27)
    have CA0 := hide (CA0.out.below hbl)
    have Cx0 := hide (Cx0.out.below hbl)
    clear hbl
    obtain ⟨u5, hu5⟩ : ∃ q, q = u4.alloc (.cells #[.slice gx00 p0x.length kx00, .slice gx01 p0y.length kx01, .slice gx02 p0z.length kx02] 27) := ⟨_, rfl⟩
    obtain ⟨bx0, hbx0⟩ : ∃ q, q = u4.heap.size := ⟨_, rfl⟩
    have NN11 := hide (show bx0 = u4.heap.size ∧ u5.heap.size = u4.heap.size + 1 by rw [hu5, hbx0]; simp)
    rw [← hu5] at X CA0 Cx0
    rw [← hbx0] at X
    simp only [List.cons_append, List.nil_append] at X
    have c1_0 : u5.cell? ⟨w.heap.size + 1, 0, none⟩ = some (.slice s10 p1x.length c10) := X.out.cell 1 0 rfl rfl
    have c1_1 : u5.cell? ⟨w.heap.size + 1, 1, none⟩ = some (.slice s11 p1y.length c11) := X.out.cell 1 1 rfl rfl
    rw [hu5] at c1_0 c1_1
    go_wp2_with fail
    rw [← hu5]
    try rw [← hbx0]
    clear hu5 hbx0
    clear c1_0 c1_1
    go_at_call 39
    refine (T1.out _ X.out.below).mono ?_
    rintro e u6 ⟨vv, rfl, Cx1, hb⟩
    obtain ⟨gx10, kx10, gx11, kx11, hf⟩ := Cx1.form
    subst hf
    obtain ⟨lox1, hlo⟩ : ∃ q, q = u5.heap.size := ⟨_, rfl⟩
    obtain ⟨hix1, hhi⟩ : ∃ q, q = u6.heap.size := ⟨_, rfl⟩
    have hw : u5.heap.size ≤ lox1 := by omega
    have NX1a := hide hw
    have hw : hix1 ≤ u6.heap.size := by omega
    have NX1b := hide hw
    rw [← hlo, ← hhi] at Cx1
    have Cx1 := hide Cx1
    clear hw hlo hhi
    have X := hide (X.out.up hb)
    have CA0 := hide (CA0.out.below hb)
    have Cx0 := hide (Cx0.out.below hb)
    have NN12 := hide (hb.size)
    clear hb
    have hbl := below1 u6 (.cells #[.slice gx10 p1x.length kx10, .slice gx11 p1y.length kx11] 70)
    have X := hide (X.out.alloc #[.slice gx10 p1x.length kx10, .slice gx11 p1y.length kx11] 70)
    have CA0 := hide (CA0.out.below hbl)
    have Cx0 := hide (Cx0.out.below hbl)
    have Cx1 := hide (Cx1.out.below hbl)
    clear hbl
    obtain ⟨u7, hu7⟩ : ∃ q, q = u6.alloc (.cells #[.slice gx10 p1x.length kx10, .slice gx11 p1y.length kx11] 70) := ⟨_, rfl⟩
    obtain ⟨bx1, hbx1⟩ : ∃ q, q = u6.heap.size := ⟨_, rfl⟩
    have NN15 := hide (show bx1 = u6.heap.size ∧ u7.heap.size = u6.heap.size + 1 by rw [hu7, hbx1]; simp)
    rw [← hu7] at X CA0 Cx0 Cx1
    rw [← hbx1] at X
    simp only [List.cons_append, List.nil_append] at X
    have c3_0 : u7.cell? ⟨bx0, 0, none⟩ = some (.slice gx00 p0x.length kx00) := X.out.cell 3 0 rfl rfl
    have c3_1 : u7.cell? ⟨bx0, 1, none⟩ = some (.slice gx01 p0y.length kx01) := X.out.cell 3 1 rfl rfl
    have c3_2 : u7.cell? ⟨bx0, 2, none⟩ = some (.slice gx02 p0z.length kx02) := X.out.cell 3 2 rfl rfl
    have c4_0 : u7.cell? ⟨bx1, 0, none⟩ = some (.slice gx10 p1x.length kx10) := X.out.cell 4 0 rfl rfl
    have c4_1 : u7.cell? ⟨bx1, 1, none⟩ = some (.slice gx11 p1y.length kx11) := X.out.cell 4 1 rfl rfl
    rw [hu7] at c3_0 c3_1 c3_2 c4_0 c4_1
    go_wp2_with fail
    rw [← hu7]
    try rw [← hbx1]
    clear hu7 hbx1
    clear c3_0 c3_1 c3_2 c4_0 c4_1
    go_at_call 47
    refine (HIP.out _ _ (PD0.out _ _ _ _ Cx0.out) _ (PD1.out _ _ _ _ Cx1.out)).mono ?_
    rintro e u8 ⟨qG0, rfl, CG0, hb⟩
    obtain ⟨gG00, kG00, gG01, kG01, hf⟩ := CG0.form
    subst hf
    obtain ⟨loG0, hlo⟩ : ∃ q, q = u7.heap.size := ⟨_, rfl⟩
    obtain ⟨hiG0, hhi⟩ : ∃ q, q = u8.heap.size := ⟨_, rfl⟩
    have hw : u7.heap.size ≤ loG0 := by omega
    have NXG0a := hide hw
    have hw : hiG0 ≤ u8.heap.size := by omega
    have NXG0b := hide hw
    rw [← hlo, ← hhi] at CG0
    have CG0 := hide CG0
    clear hw hlo hhi
    have X := hide (X.out.up hb)
    have CA0 := hide (CA0.out.below hb)
    have Cx0 := hide (Cx0.out.below hb)
    have Cx1 := hide (Cx1.out.below hb)
    have NN16 := hide (hb.size)
    clear hb
    have hbl := below1 u8 (.cells #[.slice gG00 r0x.length kG00, .slice gG01 r0y.length kG01] 70)
    have X := hide (X.out.alloc #[.slice gG00 r0x.length kG00, .slice gG01 r0y.length kG01] 70)
    have CA0 := hide (CA0.out.below hbl)
    have Cx0 := hide (Cx0.out.below hbl)
    have Cx1 := hide (Cx1.out.below hbl)
    have CG0 := hide (CG0.out.below hbl)
    clear hbl
    obtain ⟨u9, hu9⟩ : ∃ q, q = u8.alloc (.cells #[.slice gG00 r0x.length kG00, .slice gG01 r0y.length kG01] 70) := ⟨_, rfl⟩
    obtain ⟨bxG0, hbxG0⟩ : ∃ q, q = u8.heap.size := ⟨_, rfl⟩
    have NN19 := hide (show bxG0 = u8.heap.size ∧ u9.heap.size = u8.heap.size + 1 by rw [hu9, hbxG0]; simp)
    rw [← hu9] at X CA0 Cx0 Cx1 CG0
    rw [← hbxG0] at X
    simp only [List.cons_append, List.nil_append] at X
    have c5_0 : u9.cell? ⟨bxG0, 0, none⟩ = some (.slice gG00 r0x.length kG00) := X.out.cell 5 0 rfl rfl
    have c5_1 : u9.cell? ⟨bxG0, 1, none⟩ = some (.slice gG01 r0y.length kG01) := X.out.cell 5 1 rfl rfl
    have c2_0 : u9.cell? ⟨bA0, 0, none⟩ = some (.slice gA00 r0x.length kA00) := X.out.cell 2 0 rfl rfl
    have c2_1 : u9.cell? ⟨bA0, 1, none⟩ = some (.slice gA01 r0y.length kA01) := X.out.cell 2 1 rfl rfl
    rw [hu9] at c5_0 c5_1 c2_0 c2_1
    go_wp2_with fail
    rw [← hu9]
    try rw [← hbxG0]
    clear hu9 hbxG0
    clear c5_0 c5_1 c2_0 c2_1
    go_at_call 41
    refine (eqPending_same _ _ r0x r0y _ _ (Nat.le_refl _) (RD0.out _ _ _ _ CG0.out) (RD0.out _ _ _ _ CA0.out)).mono ?_
    rintro e u10 ⟨rfl, hb⟩
    have X := hide (X.out.up hb)
    have CA0 := hide (CA0.out.below hb)
    have Cx0 := hide (Cx0.out.below hb)
    have Cx1 := hide (Cx1.out.below hb)
    have CG0 := hide (CG0.out.below hb)
    have NN20 := hide (hb.size)
    clear hb
    -- region 14
    go_upto_region 14 with fail
    have X1 := X
    refine wp_region_any (by kernel_rfl) ?_
    refine wpAny_facts (w0 := u10) (fun i => ([(fun lo hi s W => s 58 = .agg #[.slice gx00 p0x.length kx00, .slice gx01 p0y.length kx01, .slice gx02 p0z.length kx02]),
      (fun lo hi s W => s 59 = .agg #[.slice s00 p0x.length c00, .slice s01 p0y.length c01, .slice s02 p0z.length c02]),
      (fun lo hi s W => Oc W (s 60) p0x p0y p0z lo hi),
      (fun lo hi s W => s 61 = .bool true),
      (fun lo hi s W => s 62 = .bool false)] : List (Nat → Nat → (Nat → Value) → World → Prop)).getD i (fun _ _ _ _ => True)) [[], [], [1], [0, 1, 2], [0, 1, 2, 3]] [0, 1, 2, 3, 4] [[58], [59], [60], [61], [62]] [[], [], [], [], []] (by kernel_rfl) (by kernel_rfl) ?st ?step ?fin
    case st =>
      clear HSP HIP
      intro i hi lo hi' s W W' h q1 q2 q3 q4 k
      have hi : i < 5 := hi
      clear X X1 CA0 Cx0 Cx1 CG0
      rcases (show i = 0 ∨ i = 1 ∨ i = 2 ∨ i = 3 ∨ i = 4 by omega) with rfl | rfl | rfl | rfl | rfl
      · have h : s 58 = .agg #[.slice gx00 p0x.length kx00, .slice gx01 p0y.length kx01, .slice gx02 p0z.length kx02] := h
        show s 58 = .agg #[.slice gx00 p0x.length kx00, .slice gx01 p0y.length kx01, .slice gx02 p0z.length kx02]
        exact h
      · have h : s 59 = .agg #[.slice s00 p0x.length c00, .slice s01 p0y.length c01, .slice s02 p0z.length c02] := h
        show s 59 = .agg #[.slice s00 p0x.length c00, .slice s01 p0y.length c01, .slice s02 p0z.length c02]
        exact h
      · have h : Oc W (s 60) p0x p0y p0z lo hi' := h
        show Oc W' (s 60) p0x p0y p0z lo hi'
        exact h.on k
      · have h : s 61 = .bool true := h
        show s 61 = .bool true
        exact h
      · have h : s 62 = .bool false := h
        show s 62 = .bool false
        exact h
    case step =>
      intro i hi a W iv hb hsz hdf hrest hanc hivs hap K HK
      have hi : i < 5 := hi
      have HK := hide HK
      have HAN := hide hanc
      have HIV := hide hivs
      have HRS := hide hrest
      have XU := hide (X1.out.up hb)
      have HB := hide hb
      clear hanc hivs hap hrest hb hsz hdf X X1
      rcases (show i = 0 ∨ i = 1 ∨ i = 2 ∨ i = 3 ∨ i = 4 by omega) with rfl | rfl | rfl | rfl | rfl
      · refine wpOp_step (o := _) rfl fun K' hK => ?_
        rw [if_pos (by go_simp)]
        have e1 : a.tmps.getD 10 undef = .pointer (some ⟨bx0, 0, none⟩) := (HRS.out 10 (by decide)).trans rfl
        have c0 : W.cell? ⟨bx0, 0, none⟩ = some (.slice gx00 p0x.length kx00) := XU.out.cell 3 0 rfl rfl
        have c1 : W.cell? ⟨bx0, 1, none⟩ = some (.slice gx01 p0y.length kx01) := XU.out.cell 3 1 rfl rfl
        have c2 : W.cell? ⟨bx0, 2, none⟩ = some (.slice gx02 p0z.length kx02) := XU.out.cell 3 2 rfl rfl
        go_simp
        exact hK _ _ (HK.out _ _ ⟨fun _ => ⟨Below.refl _ _, rfl⟩, fun h => absurd rfl h⟩)
      · refine wpOp_step (o := _) rfl fun K' hK => ?_
        rw [if_pos (by go_simp)]
        have e1 : a.tmps.getD 3 undef = .pointer (some ⟨w.heap.size, 0, none⟩) := (HRS.out 3 (by decide)).trans rfl
        have c0 : W.cell? ⟨w.heap.size, 0, none⟩ = some (.slice s00 p0x.length c00) := XU.out.cell 0 0 rfl rfl
        have c1 : W.cell? ⟨w.heap.size, 1, none⟩ = some (.slice s01 p0y.length c01) := XU.out.cell 0 1 rfl rfl
        have c2 : W.cell? ⟨w.heap.size, 2, none⟩ = some (.slice s02 p0z.length c02) := XU.out.cell 0 2 rfl rfl
        go_simp
        exact hK _ _ (HK.out _ _ ⟨fun _ => ⟨Below.refl _ _, rfl⟩, fun h => absurd rfl h⟩)
      · refine wpOp_step (o := _) rfl fun K' hK => ?_
        rw [if_pos (by go_simp)]
        have e1 : a.tmps.getD 59 undef = .agg #[.slice s00 p0x.length c00, .slice s01 p0y.length c01, .slice s02 p0z.length c02] := HAN.out 1 (by decide)
        go_simp
        go_at_call 23
        refine (T0.out _ XU.out.below).mono ?_
        rintro e W' ⟨vv, rfl, ho, hbb⟩
        skip
        exact hK _ _ (HK.out _ _ ⟨fun _ => ⟨hbb, ho⟩, fun h => absurd rfl h⟩)
      · refine wpOp_step (o := _) rfl fun K' hK => ?_
        rw [if_pos (by go_simp)]
        have e1 : a.tmps.getD 58 undef = .agg #[.slice gx00 p0x.length kx00, .slice gx01 p0y.length kx01, .slice gx02 p0z.length kx02] := HAN.out 0 (by decide)
        have k1 : Oc W (a.tmps.getD 60 undef) p0x p0y p0z _ _ := HAN.out 2 (by decide)
        obtain ⟨y1, hy1⟩ : ∃ q, a.tmps.getD 60 undef = q := ⟨_, rfl⟩
        rw [hy1] at k1
        have k1 := hide (PD0.out _ _ _ _ k1)
        have k0 := hide (PD0.out _ _ _ _ (Cx0.out.below HB.out))
        go_simp
        go_at_call 14
        refine (eqCracker_same _ _ p0x p0y p0z _ _ (Nat.le_refl _) k0.out k1.out).mono ?_
        rintro e W' ⟨rfl, hbb⟩
        skip
        exact hK _ _ (HK.out _ _ ⟨fun _ => ⟨hbb, rfl⟩, fun h => absurd rfl h⟩)
      · refine wpOp_step (o := _) rfl fun K' hK => ?_
        rw [if_pos (by go_simp)]
        have e1 : a.tmps.getD 61 undef = .bool true := HAN.out 3 (by decide)
        go_simp
        exact hK _ _ (HK.out _ _ ⟨fun _ => ⟨Below.refl _ _, rfl⟩, fun h => absurd rfl h⟩)
    case fin =>
    intro a u11 iv I
    have hbY := I.below
    have CA0 := hide (CA0.out.below hbY)
    have Cx0 := hide (Cx0.out.below hbY)
    have Cx1 := hide (Cx1.out.below hbY)
    have CG0 := hide (CG0.out.below hbY)
    have X0 := X1
    have X := hide (X1.out.up hbY)
    clear X1
    have F0 : slot a 58 = .agg #[.slice gx00 p0x.length kx00, .slice gx01 p0y.length kx01, .slice gx02 p0z.length kx02] := (I.fact 0 (by decide) rfl).2
    have F1 : slot a 59 = .agg #[.slice s00 p0x.length c00, .slice s01 p0y.length c01, .slice s02 p0z.length c02] := (I.fact 1 (by decide) rfl).2
    have F2 : Oc u11 (slot a 60) p0x p0y p0z (iv 2).1 (iv 2).2 := (I.fact 2 (by decide) rfl).2
    have F3 : slot a 61 = .bool true := (I.fact 3 (by decide) rfl).2
    have F4 : slot a 62 = .bool false := (I.fact 4 (by decide) rfl).2
    have hfr := frame_of [58, 59, 60, 61, 62] I.size I.defers (fun s hs => I.rest s (rfDsts_spec (by kernel_rfl) hs))
    rw [hfr]
    simp only [List.foldl_cons, List.foldl_nil, List.setIfInBounds_toArray, List.set_cons_succ, List.set_cons_zero, F4]
    generalize slot a 58 = t58
    generalize slot a 59 = t59
    generalize slot a 60 = t60
    generalize slot a 61 = t61
    have NN21 := hide (hbY.size)
    try clear I
    try clear hfr
    try clear hbY
    try clear X0
    try clear F0
    try clear F1
    try clear F2
    try clear F3
    try clear F4
    try clear iv a
    -- region 16
    go_upto_region 16 with fail
    have X1 := X
    refine wp_region_any (by kernel_rfl) ?_
    refine wpAny_facts (w0 := u11) (fun i => ([(fun lo hi s W => s 63 = .agg #[.slice gx10 p1x.length kx10, .slice gx11 p1y.length kx11]),
      (fun lo hi s W => s 64 = .agg #[.slice s10 p1x.length c10, .slice s11 p1y.length c11]),
      (fun lo hi s W => PdOs W (s 65) p1x p1y lo hi),
      (fun lo hi s W => s 66 = .bool true),
      (fun lo hi s W => s 67 = .bool false)] : List (Nat → Nat → (Nat → Value) → World → Prop)).getD i (fun _ _ _ _ => True)) [[], [], [1], [0, 1, 2], [0, 1, 2, 3]] [0, 1, 2, 3, 4] [[63], [64], [65], [66], [67]] [[], [], [], [], []] (by kernel_rfl) (by kernel_rfl) ?st ?step ?fin
    case st =>
      clear HSP HIP
      intro i hi lo hi' s W W' h q1 q2 q3 q4 k
      have hi : i < 5 := hi
      clear X X1 CA0 Cx0 Cx1 CG0
      rcases (show i = 0 ∨ i = 1 ∨ i = 2 ∨ i = 3 ∨ i = 4 by omega) with rfl | rfl | rfl | rfl | rfl
      · have h : s 63 = .agg #[.slice gx10 p1x.length kx10, .slice gx11 p1y.length kx11] := h
        show s 63 = .agg #[.slice gx10 p1x.length kx10, .slice gx11 p1y.length kx11]
        exact h
      · have h : s 64 = .agg #[.slice s10 p1x.length c10, .slice s11 p1y.length c11] := h
        show s 64 = .agg #[.slice s10 p1x.length c10, .slice s11 p1y.length c11]
        exact h
      · have h : PdOs W (s 65) p1x p1y lo hi' := h
        show PdOs W' (s 65) p1x p1y lo hi'
        exact h.on k
      · have h : s 66 = .bool true := h
        show s 66 = .bool true
        exact h
      · have h : s 67 = .bool false := h
        show s 67 = .bool false
        exact h
    case step =>
      intro i hi a W iv hb hsz hdf hrest hanc hivs hap K HK
      have hi : i < 5 := hi
      have HK := hide HK
      have HAN := hide hanc
      have HIV := hide hivs
      have HRS := hide hrest
      have XU := hide (X1.out.up hb)
      have HB := hide hb
      clear hanc hivs hap hrest hb hsz hdf X X1
      rcases (show i = 0 ∨ i = 1 ∨ i = 2 ∨ i = 3 ∨ i = 4 by omega) with rfl | rfl | rfl | rfl | rfl
      · refine wpOp_step (o := _) rfl fun K' hK => ?_
        rw [if_pos (by go_simp)]
        have e1 : a.tmps.getD 11 undef = .pointer (some ⟨bx1, 0, none⟩) := (HRS.out 11 (by decide)).trans rfl
        have c0 : W.cell? ⟨bx1, 0, none⟩ = some (.slice gx10 p1x.length kx10) := XU.out.cell 4 0 rfl rfl
        have c1 : W.cell? ⟨bx1, 1, none⟩ = some (.slice gx11 p1y.length kx11) := XU.out.cell 4 1 rfl rfl
        go_simp
        exact hK _ _ (HK.out _ _ ⟨fun _ => ⟨Below.refl _ _, rfl⟩, fun h => absurd rfl h⟩)
      · refine wpOp_step (o := _) rfl fun K' hK => ?_
        rw [if_pos (by go_simp)]
        have e1 : a.tmps.getD 4 undef = .pointer (some ⟨w.heap.size + 1, 0, none⟩) := (HRS.out 4 (by decide)).trans rfl
        have c0 : W.cell? ⟨w.heap.size + 1, 0, none⟩ = some (.slice s10 p1x.length c10) := XU.out.cell 1 0 rfl rfl
        have c1 : W.cell? ⟨w.heap.size + 1, 1, none⟩ = some (.slice s11 p1y.length c11) := XU.out.cell 1 1 rfl rfl
        go_simp
        exact hK _ _ (HK.out _ _ ⟨fun _ => ⟨Below.refl _ _, rfl⟩, fun h => absurd rfl h⟩)
      · refine wpOp_step (o := _) rfl fun K' hK => ?_
        rw [if_pos (by go_simp)]
        have e1 : a.tmps.getD 64 undef = .agg #[.slice s10 p1x.length c10, .slice s11 p1y.length c11] := HAN.out 1 (by decide)
        go_simp
        go_at_call 39
        refine (T1.out _ XU.out.below).mono ?_
        rintro e W' ⟨vv, rfl, ho, hbb⟩
        skip
        exact hK _ _ (HK.out _ _ ⟨fun _ => ⟨hbb, ho⟩, fun h => absurd rfl h⟩)
      · refine wpOp_step (o := _) rfl fun K' hK => ?_
        rw [if_pos (by go_simp)]
        have e1 : a.tmps.getD 63 undef = .agg #[.slice gx10 p1x.length kx10, .slice gx11 p1y.length kx11] := HAN.out 0 (by decide)
        have k1 : PdOs W (a.tmps.getD 65 undef) p1x p1y _ _ := HAN.out 2 (by decide)
        obtain ⟨y1, hy1⟩ : ∃ q, a.tmps.getD 65 undef = q := ⟨_, rfl⟩
        rw [hy1] at k1
        have k1 := hide (PD1.out _ _ _ _ k1)
        have k0 := hide (PD1.out _ _ _ _ (Cx1.out.below HB.out))
        go_simp
        go_at_call 41
        refine (eqPending_same _ _ p1x p1y _ _ (Nat.le_refl _) k0.out k1.out).mono ?_
        rintro e W' ⟨rfl, hbb⟩
        skip
        exact hK _ _ (HK.out _ _ ⟨fun _ => ⟨hbb, rfl⟩, fun h => absurd rfl h⟩)
      · refine wpOp_step (o := _) rfl fun K' hK => ?_
        rw [if_pos (by go_simp)]
        have e1 : a.tmps.getD 66 undef = .bool true := HAN.out 3 (by decide)
        go_simp
        exact hK _ _ (HK.out _ _ ⟨fun _ => ⟨Below.refl _ _, rfl⟩, fun h => absurd rfl h⟩)
    case fin =>
    intro a u12 iv I
    have hbY := I.below
    have CA0 := hide (CA0.out.below hbY)
    have Cx0 := hide (Cx0.out.below hbY)
    have Cx1 := hide (Cx1.out.below hbY)
    have CG0 := hide (CG0.out.below hbY)
    have X0 := X1
    have X := hide (X1.out.up hbY)
    clear X1
    have F0 : slot a 63 = .agg #[.slice gx10 p1x.length kx10, .slice gx11 p1y.length kx11] := (I.fact 0 (by decide) rfl).2
    have F1 : slot a 64 = .agg #[.slice s10 p1x.length c10, .slice s11 p1y.length c11] := (I.fact 1 (by decide) rfl).2
    have F2 : PdOs u12 (slot a 65) p1x p1y (iv 2).1 (iv 2).2 := (I.fact 2 (by decide) rfl).2
    have F3 : slot a 66 = .bool true := (I.fact 3 (by decide) rfl).2
    have F4 : slot a 67 = .bool false := (I.fact 4 (by decide) rfl).2
    have hfr := frame_of [63, 64, 65, 66, 67] I.size I.defers (fun s hs => I.rest s (rfDsts_spec (by kernel_rfl) hs))
    rw [hfr]
    simp only [List.foldl_cons, List.foldl_nil, List.setIfInBounds_toArray, List.set_cons_succ, List.set_cons_zero, F4]
    generalize slot a 63 = t63
    generalize slot a 64 = t64
    generalize slot a 65 = t65
    generalize slot a 66 = t66
    have NN22 := hide (hbY.size)
    try clear I
    try clear hfr
    try clear hbY
    try clear X0
    try clear F0
    try clear F1
    try clear F2
    try clear F3
    try clear F4
    try clear iv a
    have c3_0 : u12.cell? ⟨bx0, 0, none⟩ = some (.slice gx00 p0x.length kx00) := X.out.cell 3 0 rfl rfl
    have c3_1 : u12.cell? ⟨bx0, 1, none⟩ = some (.slice gx01 p0y.length kx01) := X.out.cell 3 1 rfl rfl
    have c3_2 : u12.cell? ⟨bx0, 2, none⟩ = some (.slice gx02 p0z.length kx02) := X.out.cell 3 2 rfl rfl
    go_wp2_with fail
    clear c3_0 c3_1 c3_2
    go_at_call 19
    refine (HA0.out _ _ _ _ Cx0.out).mono ?_
    rintro e u13 ⟨rfl, ho, s⟩
    have qN0 := N0.out
    have qN1 := N1.out
    have qN2 := N2.out
    have qNN3 := NN3.out
    have qNN4 := NN4.out
    have qNN5 := NN5.out
    have qNN6 := NN6.out
    have qNN7 := NN7.out
    have qNN8 := NN8.out
    have qNX0a := NX0a.out
    have qNX0b := NX0b.out
    have qNN11 := NN11.out
    have qNN12 := NN12.out
    have qNX1a := NX1a.out
    have qNX1b := NX1b.out
    have qNN15 := NN15.out
    have qNN16 := NN16.out
    have qNXG0a := NXG0a.out
    have qNXG0b := NXG0b.out
    have qNN19 := NN19.out
    have qNN20 := NN20.out
    have qNN21 := NN21.out
    have qNN22 := NN22.out
    have tA0 := CA0.out.top.1
    have tx0 := Cx0.out.top.1
    have tx1 := Cx1.out.top.1
    have tG0 := CG0.out.top.1
    have X := hide (X.out.seg s (by omega) (by simp; omega))
    have CA0 := hide (CA0.out.seg s (by omega))
    have Cx1 := hide (Cx1.out.seg s (by omega))
    have CG0 := hide (CG0.out.seg s (by omega))
    have hbs := s.below.size
    clear s qN0 qN1 qN2 qNN3 qNN4 qNN5 qNN6 qNN7 qNN8 qNX0a qNX0b qNN11 qNN12 qNX1a qNX1b qNN15 qNN16 qNXG0a qNXG0b qNN19 qNN20 qNN21 qNN22  tA0 tx0 tx1 tG0
    have NN23 := hide hbs
    clear hbs
    clear ho Cx0
    have c4_0 : u13.cell? ⟨bx1, 0, none⟩ = some (.slice gx10 p1x.length kx10) := X.out.cell 4 0 rfl rfl
    have c4_1 : u13.cell? ⟨bx1, 1, none⟩ = some (.slice gx11 p1y.length kx11) := X.out.cell 4 1 rfl rfl
    go_wp2_with fail
    clear c4_0 c4_1
    go_at_call 44
    refine (HA1.out _ _ _ _ Cx1.out).mono ?_
    rintro e u14 ⟨rfl, ho, s⟩
    have qN0 := N0.out
    have qN1 := N1.out
    have qN2 := N2.out
    have qNN3 := NN3.out
    have qNN4 := NN4.out
    have qNN5 := NN5.out
    have qNN6 := NN6.out
    have qNN7 := NN7.out
    have qNN8 := NN8.out
    have qNX0a := NX0a.out
    have qNX0b := NX0b.out
    have qNN11 := NN11.out
    have qNN12 := NN12.out
    have qNX1a := NX1a.out
    have qNX1b := NX1b.out
    have qNN15 := NN15.out
    have qNN16 := NN16.out
    have qNXG0a := NXG0a.out
    have qNXG0b := NXG0b.out
    have qNN19 := NN19.out
    have qNN20 := NN20.out
    have qNN21 := NN21.out
    have qNN22 := NN22.out
    have qNN23 := NN23.out
    have tA0 := CA0.out.top.1
    have tx1 := Cx1.out.top.1
    have tG0 := CG0.out.top.1
    have X := hide (X.out.seg s (by omega) (by simp; omega))
    have CA0 := hide (CA0.out.seg s (by omega))
    have CG0 := hide (CG0.out.seg s (by omega))
    have hbs := s.below.size
    clear s qN0 qN1 qN2 qNN3 qNN4 qNN5 qNN6 qNN7 qNN8 qNX0a qNX0b qNN11 qNN12 qNX1a qNX1b qNN15 qNN16 qNXG0a qNXG0b qNN19 qNN20 qNN21 qNN22 qNN23  tA0 tx1 tG0
    have NN24 := hide hbs
    clear hbs
    clear ho Cx1
    have c5_0 : u14.cell? ⟨bxG0, 0, none⟩ = some (.slice gG00 r0x.length kG00) := X.out.cell 5 0 rfl rfl
    have c5_1 : u14.cell? ⟨bxG0, 1, none⟩ = some (.slice gG01 r0y.length kG01) := X.out.cell 5 1 rfl rfl
    have c2_0 : u14.cell? ⟨bA0, 0, none⟩ = some (.slice gA00 r0x.length kA00) := X.out.cell 2 0 rfl rfl
    have c2_1 : u14.cell? ⟨bA0, 1, none⟩ = some (.slice gA01 r0y.length kA01) := X.out.cell 2 1 rfl rfl
    go_wp2_with fail
    clear c5_0 c5_1 c2_0 c2_1
    go_at_call 41
    refine (eqPending_same _ _ r0x r0y _ _ (Nat.le_refl _) (RD0.out _ _ _ _ CG0.out) (RD0.out _ _ _ _ CA0.out)).mono ?_
    rintro e u15 ⟨rfl, hb⟩
    have X := hide (X.out.up hb)
    have CA0 := hide (CA0.out.below hb)
    have CG0 := hide (CG0.out.below hb)
    have NN25 := hide (hb.size)
    clear hb
    have c5_0 : u15.cell? ⟨bxG0, 0, none⟩ = some (.slice gG00 r0x.length kG00) := X.out.cell 5 0 rfl rfl
    have c5_1 : u15.cell? ⟨bxG0, 1, none⟩ = some (.slice gG01 r0y.length kG01) := X.out.cell 5 1 rfl rfl
    go_wp2_with fail
    clear c5_0 c5_1
    go_at_call 44
    refine (HM0.out _ _ _ _ CG0.out).mono ?_
    rintro e u16 ⟨rfl, ho, s⟩
    have qN0 := N0.out
    have qN1 := N1.out
    have qN2 := N2.out
    have qNN3 := NN3.out
    have qNN4 := NN4.out
    have qNN5 := NN5.out
    have qNN6 := NN6.out
    have qNN7 := NN7.out
    have qNN8 := NN8.out
    have qNX0a := NX0a.out
    have qNX0b := NX0b.out
    have qNN11 := NN11.out
    have qNN12 := NN12.out
    have qNX1a := NX1a.out
    have qNX1b := NX1b.out
    have qNN15 := NN15.out
    have qNN16 := NN16.out
    have qNXG0a := NXG0a.out
    have qNXG0b := NXG0b.out
    have qNN19 := NN19.out
    have qNN20 := NN20.out
    have qNN21 := NN21.out
    have qNN22 := NN22.out
    have qNN23 := NN23.out
    have qNN24 := NN24.out
    have qNN25 := NN25.out
    have tA0 := CA0.out.top.1
    have tG0 := CG0.out.top.1
    have X := hide (X.out.seg s (by omega) (by simp; omega))
    have CA0 := hide (CA0.out.seg s (by omega))
    have hbs := s.below.size
    clear s qN0 qN1 qN2 qNN3 qNN4 qNN5 qNN6 qNN7 qNN8 qNX0a qNX0b qNN11 qNN12 qNX1a qNX1b qNN15 qNN16 qNXG0a qNXG0b qNN19 qNN20 qNN21 qNN22 qNN23 qNN24 qNN25  tA0 tG0
    have NN26 := hide hbs
    clear hbs
    have CG0 := hide ho
    clear ho
    have c5_0 : u16.cell? ⟨bxG0, 0, none⟩ = some (.slice gG00 r0x.length kG00) := X.out.cell 5 0 rfl rfl
    have c5_1 : u16.cell? ⟨bxG0, 1, none⟩ = some (.slice gG01 r0y.length kG01) := X.out.cell 5 1 rfl rfl
    go_wp2_with fail
    clear c5_0 c5_1
    go_at_call 45
    refine (HH0.out _ _ _ _ CG0.out).mono ?_
    rintro e u17 ⟨rfl, hb⟩
    have X := hide (X.out.up hb)
    have CA0 := hide (CA0.out.below hb)
    have CG0 := hide (CG0.out.below hb)
    have NN27 := hide (hb.size)
    clear hb
    -- region 31
    go_upto_region 31 with fail
    have X1 := X
    refine wp_region_any (by kernel_rfl) ?_
    refine wpAny_facts (w0 := u17) (fun i => ([(fun lo hi s W => s 99 = .agg #[.slice s00 p0x.length c00, .slice s01 p0y.length c01, .slice s02 p0z.length c02]),
      (fun lo hi s W => Oc W (s 100) p0x p0y p0z lo hi),
      (fun lo hi s W => s 101 = .agg #[.slice s10 p1x.length c10, .slice s11 p1y.length c11]),
      (fun lo hi s W => PdOs W (s 102) p1x p1y lo hi),
      (fun lo hi s W => s 103 = .int .i64 a2),
      (fun lo hi s W => ∃ q0, s 104 = .tuple #[q0, .bool r1] ∧ PdOs W q0 r0x r0y lo hi),
      (fun lo hi s W => s 98 = s 104),
      (fun lo hi s W => s 105 = cmpV (s 98) 0),
      (fun lo hi s W => s 106 = cmpV (s 98) 1),
      (fun lo hi s W => ∃ g cs, s 17 = .pointer (some ⟨g, 0, none⟩) ∧ lo ≤ g ∧ g < hi ∧ W.heap[g]? = some (.cells cs 70 (0, 0)) ∧ cs.size = 2),
      (fun lo hi s W => ∃ g cs, s 17 = .pointer (some ⟨g, 0, none⟩) ∧ s 105 = .agg cs ∧ lo ≤ g ∧ g < hi ∧ W.heap[g]? = some (.cells cs 70 (0, 0))),
      (fun lo hi s W => s 18 = s 106)] : List (Nat → Nat → (Nat → Value) → World → Prop)).getD i (fun _ _ _ _ => True)) [[], [0], [], [0, 1, 2], [], [0, 1, 2, 3, 4], [0, 1, 2, 3, 4, 5], [0, 1, 2, 3, 4, 5, 6], [0, 1, 2, 3, 4, 5, 6], [], [0, 1, 2, 3, 4, 5, 6, 7, 9], [0, 1, 2, 3, 4, 5, 6, 7, 8, 9, 10]] [0, 1, 2, 3, 4, 5, 6, 7, 8, 9, 9, 11] [[99], [100], [101], [102], [103], [104], [98, 104], [105, 98], [106, 98], [17], [17, 105], [18, 106]] [[], [], [], [], [], [], [], [], [], [], [9], []] (by kernel_rfl) (by kernel_rfl) ?st ?step ?fin
    case st =>
      clear HSP HIP
      intro i hi lo hi' s W W' h q1 q2 q3 q4 k
      have hi : i < 12 := hi
      clear X X1 CA0 CG0
      rcases (show i = 0 ∨ i = 1 ∨ i = 2 ∨ i = 3 ∨ i = 4 ∨ i = 5 ∨ i = 6 ∨ i = 7 ∨ i = 8 ∨ i = 9 ∨ i = 10 ∨ i = 11 by omega) with rfl | rfl | rfl | rfl | rfl | rfl | rfl | rfl | rfl | rfl | rfl | rfl
      · have h : s 99 = .agg #[.slice s00 p0x.length c00, .slice s01 p0y.length c01, .slice s02 p0z.length c02] := h
        show s 99 = .agg #[.slice s00 p0x.length c00, .slice s01 p0y.length c01, .slice s02 p0z.length c02]
        exact h
      · have h : Oc W (s 100) p0x p0y p0z lo hi' := h
        show Oc W' (s 100) p0x p0y p0z lo hi'
        exact h.on k
      · have h : s 101 = .agg #[.slice s10 p1x.length c10, .slice s11 p1y.length c11] := h
        show s 101 = .agg #[.slice s10 p1x.length c10, .slice s11 p1y.length c11]
        exact h
      · have h : PdOs W (s 102) p1x p1y lo hi' := h
        show PdOs W' (s 102) p1x p1y lo hi'
        exact h.on k
      · have h : s 103 = .int .i64 a2 := h
        show s 103 = .int .i64 a2
        exact h
      · have h : ∃ q0, s 104 = .tuple #[q0, .bool r1] ∧ PdOs W q0 r0x r0y lo hi' := h
        show ∃ q0, s 104 = .tuple #[q0, .bool r1] ∧ PdOs W' q0 r0x r0y lo hi'
        obtain ⟨q, e1, e2⟩ := h; exact ⟨q, e1, e2.on k⟩
      · have h : s 98 = s 104 := h
        show s 98 = s 104
        exact h
      · have h : s 105 = cmpV (s 98) 0 := h
        show s 105 = cmpV (s 98) 0
        exact h
      · have h : s 106 = cmpV (s 98) 1 := h
        show s 106 = cmpV (s 98) 1
        exact h
      · have h : ∃ g cs, s 17 = .pointer (some ⟨g, 0, none⟩) ∧ lo ≤ g ∧ g < hi' ∧ W.heap[g]? = some (.cells cs 70 (0, 0)) ∧ cs.size = 2 := h
        show ∃ g cs, s 17 = .pointer (some ⟨g, 0, none⟩) ∧ lo ≤ g ∧ g < hi' ∧ W'.heap[g]? = some (.cells cs 70 (0, 0)) ∧ cs.size = 2
        obtain ⟨g, cs, e1, e2, e3, e4, e5⟩ := h; exact ⟨g, cs, e1, e2, e3, (k.own g e2 e3 (Array.getElem?_eq_some_iff.1 e4).1).trans e4, e5⟩
      · have h : ∃ g cs, s 17 = .pointer (some ⟨g, 0, none⟩) ∧ s 105 = .agg cs ∧ lo ≤ g ∧ g < hi' ∧ W.heap[g]? = some (.cells cs 70 (0, 0)) := h
        show ∃ g cs, s 17 = .pointer (some ⟨g, 0, none⟩) ∧ s 105 = .agg cs ∧ lo ≤ g ∧ g < hi' ∧ W'.heap[g]? = some (.cells cs 70 (0, 0))
        obtain ⟨g, cs, e1, e2, e3, e4, e5⟩ := h; exact ⟨g, cs, e1, e2, e3, e4, (k.own g e3 e4 (Array.getElem?_eq_some_iff.1 e5).1).trans e5⟩
      · have h : s 18 = s 106 := h
        show s 18 = s 106
        exact h
    case step =>
      intro i hi a W iv hb hsz hdf hrest hanc hivs hap K HK
      have hi : i < 12 := hi
      have HK := hide HK
      have HAN := hide hanc
      have HIV := hide hivs
      have HRS := hide hrest
      have XU := hide (X1.out.up hb)
      have HB := hide hb
      clear hanc hivs hap hrest hb hsz hdf X X1
      rcases (show i = 0 ∨ i = 1 ∨ i = 2 ∨ i = 3 ∨ i = 4 ∨ i = 5 ∨ i = 6 ∨ i = 7 ∨ i = 8 ∨ i = 9 ∨ i = 10 ∨ i = 11 by omega) with rfl | rfl | rfl | rfl | rfl | rfl | rfl | rfl | rfl | rfl | rfl | rfl
      · refine wpOp_step (o := _) rfl fun K' hK => ?_
        rw [if_pos (by go_simp)]
        have e1 : a.tmps.getD 3 undef = .pointer (some ⟨w.heap.size, 0, none⟩) := (HRS.out 3 (by decide)).trans rfl
        have c0 : W.cell? ⟨w.heap.size, 0, none⟩ = some (.slice s00 p0x.length c00) := XU.out.cell 0 0 rfl rfl
        have c1 : W.cell? ⟨w.heap.size, 1, none⟩ = some (.slice s01 p0y.length c01) := XU.out.cell 0 1 rfl rfl
        have c2 : W.cell? ⟨w.heap.size, 2, none⟩ = some (.slice s02 p0z.length c02) := XU.out.cell 0 2 rfl rfl
        go_simp
        exact hK _ _ (HK.out _ _ ⟨fun _ => ⟨Below.refl _ _, rfl⟩, fun h => absurd rfl h⟩)
      · refine wpOp_step (o := _) rfl fun K' hK => ?_
        rw [if_pos (by go_simp)]
        have e1 : a.tmps.getD 99 undef = .agg #[.slice s00 p0x.length c00, .slice s01 p0y.length c01, .slice s02 p0z.length c02] := HAN.out 0 (by decide)
        go_simp
        go_at_call 23
        refine (T0.out _ XU.out.below).mono ?_
        rintro e W' ⟨vv, rfl, ho, hbb⟩
        skip
        exact hK _ _ (HK.out _ _ ⟨fun _ => ⟨hbb, ho⟩, fun h => absurd rfl h⟩)
      · refine wpOp_step (o := _) rfl fun K' hK => ?_
        rw [if_pos (by go_simp)]
        have e1 : a.tmps.getD 4 undef = .pointer (some ⟨w.heap.size + 1, 0, none⟩) := (HRS.out 4 (by decide)).trans rfl
        have c0 : W.cell? ⟨w.heap.size + 1, 0, none⟩ = some (.slice s10 p1x.length c10) := XU.out.cell 1 0 rfl rfl
        have c1 : W.cell? ⟨w.heap.size + 1, 1, none⟩ = some (.slice s11 p1y.length c11) := XU.out.cell 1 1 rfl rfl
        go_simp
        exact hK _ _ (HK.out _ _ ⟨fun _ => ⟨Below.refl _ _, rfl⟩, fun h => absurd rfl h⟩)
      · refine wpOp_step (o := _) rfl fun K' hK => ?_
        rw [if_pos (by go_simp)]
        have e1 : a.tmps.getD 101 undef = .agg #[.slice s10 p1x.length c10, .slice s11 p1y.length c11] := HAN.out 2 (by decide)
        go_simp
        go_at_call 39
        refine (T1.out _ XU.out.below).mono ?_
        rintro e W' ⟨vv, rfl, ho, hbb⟩
        skip
        exact hK _ _ (HK.out _ _ ⟨fun _ => ⟨hbb, ho⟩, fun h => absurd rfl h⟩)
      · refine wpOp_step (o := _) rfl fun K' hK => ?_
        rw [if_pos (by go_simp)]
        have e1 : a.tmps.getD 2 undef = .int .i64 a2 := (HRS.out 2 (by decide)).trans rfl
        go_simp
        exact hK _ _ (HK.out _ _ ⟨fun _ => ⟨Below.refl _ _, rfl⟩, fun h => absurd rfl h⟩)
      · refine wpOp_step (o := _) rfl fun K' hK => ?_
        rw [if_pos (by go_simp)]
        have e2 : a.tmps.getD 103 undef = .int .i64 a2 := HAN.out 4 (by decide)
        have k0 : Oc W (a.tmps.getD 100 undef) p0x p0y p0z _ _ := HAN.out 1 (by decide)
        obtain ⟨y0, hy0⟩ : ∃ q, a.tmps.getD 100 undef = q := ⟨_, rfl⟩
        rw [hy0] at k0
        have k0 := hide (PD0.out _ _ _ _ k0)
        have k1 : PdOs W (a.tmps.getD 102 undef) p1x p1y _ _ := HAN.out 3 (by decide)
        obtain ⟨y1, hy1⟩ : ∃ q, a.tmps.getD 102 undef = q := ⟨_, rfl⟩
        rw [hy1] at k1
        have k1 := hide (PD1.out _ _ _ _ k1)
        go_simp
        go_at_call 47
        refine (HIP.out _ _ k0.out _ k1.out).mono ?_
        rintro e W' ⟨q0, rfl, ho, hbb⟩
        skip
        exact hK _ _ (HK.out _ _ ⟨fun _ => ⟨hbb, ⟨_, rfl, ho⟩⟩, fun h => absurd rfl h⟩)
      · refine wpOp_step (o := _) rfl fun K' hK => ?_
        rw [if_pos (by go_simp)]
        obtain ⟨y, e1⟩ : ∃ y, a.tmps.getD 104 undef = y := ⟨_, rfl⟩
        go_simp
        exact hK _ _ (HK.out _ _ ⟨fun _ => ⟨Below.refl _ _, e1.symm⟩, fun h => absurd rfl h⟩)
      · refine wpOp_step (o := _) rfl fun K' hK => ?_
        rw [if_pos (by go_simp)]
        have h0 := HAN.out 5 (by decide)
        obtain ⟨q0, h0, -⟩ : ∃ q0, a.tmps.getD 104 undef = .tuple #[q0, .bool r1] ∧ _ := h0
        have h1 : a.tmps.getD 98 undef = a.tmps.getD 104 undef := HAN.out 6 (by decide)
        rw [h0] at h1
        clear h0
        have h0 := h1
        clear h1
        go_simp
        exact hK _ _ (HK.out _ _ ⟨fun _ => ⟨Below.refl _ _, by show _ = cmpV (a.tmps.getD 98 undef) 0; rw [h0]; rfl⟩, fun h => absurd rfl h⟩)
      · refine wpOp_step (o := _) rfl fun K' hK => ?_
        rw [if_pos (by go_simp)]
        have h0 := HAN.out 5 (by decide)
        obtain ⟨q0, h0, -⟩ : ∃ q0, a.tmps.getD 104 undef = .tuple #[q0, .bool r1] ∧ _ := h0
        have h1 : a.tmps.getD 98 undef = a.tmps.getD 104 undef := HAN.out 6 (by decide)
        rw [h0] at h1
        clear h0
        have h0 := h1
        clear h1
        go_simp
        exact hK _ _ (HK.out _ _ ⟨fun _ => ⟨Below.refl _ _, by show _ = cmpV (a.tmps.getD 98 undef) 1; rw [h0]; rfl⟩, fun h => absurd rfl h⟩)
      · refine wpOp_step (o := _) rfl fun K' hK => ?_
        rw [if_pos (by go_simp)]
        go_simp
        exact hK _ _ (HK.out _ _ ⟨fun _ => ⟨below1 W _, ⟨W.heap.size, _, rfl, Nat.le_refl _, by simp, heap_alloc_new W _, rfl⟩⟩, fun h => absurd rfl h⟩)
      · refine wpOp_step (o := _) rfl fun K' hK => ?_
        rw [if_pos (by go_simp)]
        obtain ⟨g, cs, e1, g1, g2, g3, g4⟩ : ∃ g cs, a.tmps.getD 17 undef = .pointer (some ⟨g, 0, none⟩) ∧ (iv 9).1 ≤ g ∧ g < (iv 9).2 ∧ W.heap[g]? = some (.cells cs 70 (0, 0)) ∧ cs.size = 2 := HAN.out 9 (by decide)
        obtain ⟨q0, h0, o0⟩ : ∃ q0, a.tmps.getD 104 undef = .tuple #[q0, .bool r1] ∧ PdOs W q0 r0x r0y (iv 5).1 (iv 5).2 := HAN.out 5 (by decide)
        obtain ⟨x0, y0, x1, y1, hf⟩ := o0.form
        rw [hf] at h0
        clear hf o0
        have h1 : a.tmps.getD 98 undef = a.tmps.getD 104 undef := HAN.out 6 (by decide)
        rw [h0] at h1
        clear h0
        have h0 := h1
        clear h1
        have h1 : a.tmps.getD 105 undef = cmpV (a.tmps.getD 98 undef) 0 := HAN.out 7 (by decide)
        rw [h0] at h1
        clear h0
        have h0 : a.tmps.getD 105 undef = .agg #[.slice x0 r0x.length y0, .slice x1 r0y.length y1] := h1
        clear h1
        have G3 := hide g3
        obtain ⟨z0, z1, rfl⟩ := size2 g4
        have c0 : W.cell? ⟨g, 0, none⟩ = some z0 := cell_of_row W g 0 _ _ (0, 0) g3
        have f0 : W.frozen? ⟨g, 0, none⟩ = false := frozen_of_row W g 0 _ _ g3
        have c1 : W.cell? ⟨g, 1, none⟩ = some z1 := cell_of_row W g 1 _ _ (0, 0) g3
        have f1 : W.frozen? ⟨g, 1, none⟩ = false := frozen_of_row W g 1 _ _ g3
        clear g3 g4
        go_simp
        exact hK _ _ (HK.out undef _ ⟨fun h => absurd h (by decide), fun _ => ⟨segS2 g1 g2 _ _, ⟨g, _, e1, h0, g1, g2, heap_put2 G3.out rfl _ _⟩, fun j hj => by
          obtain rfl : j = 9 := by simpa using hj
          intro _
          exact ⟨g, _, e1, g1, g2, heap_put2 G3.out rfl _ _, rfl⟩⟩⟩)
      · refine wpOp_step (o := _) rfl fun K' hK => ?_
        rw [if_pos (by go_simp)]
        obtain ⟨y, e1⟩ : ∃ y, a.tmps.getD 106 undef = y := ⟨_, rfl⟩
        go_simp
        exact hK _ _ (HK.out _ _ ⟨fun _ => ⟨Below.refl _ _, e1.symm⟩, fun h => absurd rfl h⟩)
    case fin =>
    intro a u18 iv I
    have hbY := I.below
    have CA0 := hide (CA0.out.below hbY)
    have CG0 := hide (CG0.out.below hbY)
    have X0 := X1
    have X := hide (X1.out.up hbY)
    clear X1
    have F0 : slot a 99 = .agg #[.slice s00 p0x.length c00, .slice s01 p0y.length c01, .slice s02 p0z.length c02] := (I.fact 0 (by decide) rfl).2
    have F1 : Oc u18 (slot a 100) p0x p0y p0z (iv 1).1 (iv 1).2 := (I.fact 1 (by decide) rfl).2
    have F2 : slot a 101 = .agg #[.slice s10 p1x.length c10, .slice s11 p1y.length c11] := (I.fact 2 (by decide) rfl).2
    have F3 : PdOs u18 (slot a 102) p1x p1y (iv 3).1 (iv 3).2 := (I.fact 3 (by decide) rfl).2
    have F4 : slot a 103 = .int .i64 a2 := (I.fact 4 (by decide) rfl).2
    have F5 : ∃ q0, slot a 104 = .tuple #[q0, .bool r1] ∧ PdOs u18 q0 r0x r0y (iv 5).1 (iv 5).2 := (I.fact 5 (by decide) rfl).2
    have F6 : slot a 98 = slot a 104 := (I.fact 6 (by decide) rfl).2
    have F7 : slot a 105 = cmpV (slot a 98) 0 := (I.fact 7 (by decide) rfl).2
    have F8 : slot a 106 = cmpV (slot a 98) 1 := (I.fact 8 (by decide) rfl).2
    have F9 : ∃ g cs, slot a 17 = .pointer (some ⟨g, 0, none⟩) ∧ (iv 9).1 ≤ g ∧ g < (iv 9).2 ∧ u18.heap[g]? = some (.cells cs 70 (0, 0)) ∧ cs.size = 2 := (I.fact 9 (by decide) rfl).2
    have F10 : ∃ g cs, slot a 17 = .pointer (some ⟨g, 0, none⟩) ∧ slot a 105 = .agg cs ∧ (iv 9).1 ≤ g ∧ g < (iv 9).2 ∧ u18.heap[g]? = some (.cells cs 70 (0, 0)) := (I.fact 10 (by decide) rfl).2
    have F11 : slot a 18 = slot a 106 := (I.fact 11 (by decide) rfl).2
    obtain ⟨iv5a, iv5b, iv5c⟩ := I.ivs 5 (by decide) rfl rfl
    obtain ⟨iv9a, iv9b, iv9c⟩ := I.ivs 9 (by decide) rfl rfl
    have ap5_9 := I.apart 5 9 (by decide) (by decide) rfl rfl rfl rfl (by decide)
    have hfr := frame_of [99, 100, 101, 102, 103, 104, 98, 105, 106, 17, 18] I.size I.defers (fun s hs => I.rest s (rfDsts_spec (by kernel_rfl) hs))
    skip
    obtain ⟨qH0, E104, CH0⟩ := F5
    obtain ⟨gH00, kH00, gH01, kH01, hf⟩ := CH0.form
    subst hf
    rw [E104] at F6
    rw [F6] at F7
    have F7 : slot a 105 = .agg #[.slice gH00 r0x.length kH00, .slice gH01 r0y.length kH01] := F7
    rw [F6] at F8
    have F8 : slot a 106 = .bool r1 := F8
    obtain ⟨bH0, cs, E17, hv, g1bH0, g2bH0, hcbH0⟩ := F10
    rw [F7] at hv
    obtain rfl : cs = #[.slice gH00 r0x.length kH00, .slice gH01 r0y.length kH01] := by injection hv with hv; exact hv.symm
    clear hv
    rw [F8] at F11
    rw [hfr]
    simp only [List.foldl_cons, List.foldl_nil, List.setIfInBounds_toArray, List.set_cons_succ, List.set_cons_zero, E104, F6, F7, F8, E17, F11]
    generalize slot a 99 = t99
    generalize slot a 100 = t100
    generalize slot a 101 = t101
    generalize slot a 102 = t102
    generalize slot a 103 = t103
    have XN := Kn.add (Kn.none hbY) hcbH0 (Nat.le_trans iv9a g1bH0) (fun e he => by simp at he)
    have X := hide (Kn.joinR X0.out XN)
    simp only [List.cons_append, List.nil_append] at X
    clear XN
    have NN28 := hide (hbY.size)
    obtain ⟨loH0, hloH0⟩ : ∃ q, q = (iv 5).1 := ⟨_, rfl⟩
    obtain ⟨hiH0, hhiH0⟩ : ∃ q, q = (iv 5).2 := ⟨_, rfl⟩
    rw [← hloH0, ← hhiH0] at CH0
    have hw : u17.heap.size ≤ loH0 := by omega
    have NN29 := hide (hw)
    clear hw
    have hw : hiH0 ≤ u18.heap.size := by omega
    have NN30 := hide (hw)
    clear hw
    have hw : u17.heap.size ≤ bH0 := by omega
    have NN31 := hide (hw)
    clear hw
    have hw : bH0 < u18.heap.size := by omega
    have NN32 := hide (hw)
    clear hw
    have DH0_bH0 := hide (show bH0 < loH0 ∨ hiH0 ≤ bH0 by omega)
    have CH0 := hide CH0
    try clear I
    try clear hfr
    try clear hbY
    try clear X0
    try clear F0
    try clear F1
    try clear F2
    try clear F3
    try clear F4
    try clear F5
    try clear F6
    try clear F7
    try clear F8
    try clear F9
    try clear F10
    try clear F11
    try clear E104
    try clear E17
    try clear iv5a
    try clear iv5b
    try clear iv5c
    try clear iv9a
    try clear iv9b
    try clear iv9c
    try clear ap5_9
    try clear g1bH0
    try clear g2bH0
    try clear hcbH0
    try clear hloH0
    try clear hhiH0
    try clear iv a
    have c6_0 : u18.cell? ⟨bH0, 0, none⟩ = some (.slice gH00 r0x.length kH00) := X.out.cell 6 0 rfl rfl
    have c6_1 : u18.cell? ⟨bH0, 1, none⟩ = some (.slice gH01 r0y.length kH01) := X.out.cell 6 1 rfl rfl
    have c2_0 : u18.cell? ⟨bA0, 0, none⟩ = some (.slice gA00 r0x.length kA00) := X.out.cell 2 0 rfl rfl
    have c2_1 : u18.cell? ⟨bA0, 1, none⟩ = some (.slice gA01 r0y.length kA01) := X.out.cell 2 1 rfl rfl
    go_wp2_with fail
    clear c6_0 c6_1 c2_0 c2_1
    go_at_call 41
    refine (eqPending_same _ _ r0x r0y _ _ (Nat.le_refl _) (RD0.out _ _ _ _ CH0.out) (RD0.out _ _ _ _ CA0.out)).mono ?_
    rintro e u19 ⟨rfl, hb⟩
    have X := hide (X.out.up hb)
    have CA0 := hide (CA0.out.below hb)
    have CG0 := hide (CG0.out.below hb)
    have CH0 := hide (CH0.out.below hb)
    have NN33 := hide (hb.size)
    clear hb
    have c5_0 : u19.cell? ⟨bxG0, 0, none⟩ = some (.slice gG00 r0x.length kG00) := X.out.cell 5 0 rfl rfl
    have c5_1 : u19.cell? ⟨bxG0, 1, none⟩ = some (.slice gG01 r0y.length kG01) := X.out.cell 5 1 rfl rfl
    go_wp2_with fail
    clear c5_0 c5_1
    go_at_call 45
    refine (HH0.out _ _ _ _ CG0.out).mono ?_
    rintro e u20 ⟨rfl, hb⟩
    have X := hide (X.out.up hb)
    have CA0 := hide (CA0.out.below hb)
    have CG0 := hide (CG0.out.below hb)
    have CH0 := hide (CH0.out.below hb)
    have NN34 := hide (hb.size)
    clear hb
    go_wp2_with fail
    go_ret
    exact ⟨rfl, X.out.below⟩

set_option maxRecDepth 100000 in
theorem lifted (os : Os) (started : os.Started) (H : Type) (enc : TypeId × Value → H) :
    ReturnsInHanded {} Try.checked os 8 .any (Rows.fnExactAddDeleteSpec.pre6 enc Try.prog Try.f8 Rows.fnExactAddDeleteRow.domain false) (Rows.fnExactAddDeleteSpec.post enc Try.prog Try.f8 false true false false) := by
  refine returnsInHanded_of_change (C := Try.checked) own started (by kernel_rfl) Try.func8
    (ChangeSpec.witness6 (enc := enc) (C := Try.checked) false ⟨#[], #[.agg #[.slice none 0 0, .slice none 0 0, .slice none 0 0], .agg #[.slice none 0 0, .slice none 0 0], .int .i64 0], []⟩ 8 (by kernel_rfl) (by kernel_rfl) (by kernel_rfl) (by kernel_rfl)) ?_
  intro W base args ds gs before hval0 hW hcnd _
  have hval : ∀ (j : Nat) t v, Try.f8.params[j]? = some t → args[j]? = some v → Value.okWide Try.prog W .any base t v := hval0
  have hW' := hW
  obtain ⟨p, q, hA0, hV, rfl, hfz, hnd⟩ := hW
  have hA : DataW.TrodAll enc Try.prog W 0 (fun _ => true) true Try.f8.params.toList args.toList ds p := hA0
  rw [Try.params8] at hA hval
  obtain ⟨v0, vs0, d0, ds0, p0, q0, hargs, rfl, rfl, h0, r0⟩ := trodAll_cons hA
  obtain ⟨v1, vs1, d1, ds1, p1, q1, rfl, rfl, rfl, h1, r1⟩ := trodAll_cons r0
  obtain ⟨v2, vs2, d2, ds2, p2, q2, rfl, rfl, rfl, h2, r2⟩ := trodAll_cons r1
  obtain ⟨rfl, rfl, rfl⟩ := trodAll_nil r2
  obtain rfl : args = #[v0, v1, v2] := by cases args; simp_all
  obtain ⟨rfl, rfl⟩ := trodVars_none hV
  have k0 := h0
  have lt0 : ∀ x ∈ p0, x.block < W.heap.size := by obtain ⟨m, hm⟩ := k0; exact DataW.trod_lt m _ _ _ hm
  have k1 := h1
  have lt1 : ∀ x ∈ p1, x.block < W.heap.size := by obtain ⟨m, hm⟩ := k1; exact DataW.trod_lt m _ _ _ hm
  have k2 := h2
  have lt2 : ∀ x ∈ p2, x.block < W.heap.size := by obtain ⟨m, hm⟩ := k2; exact DataW.trod_lt m _ _ _ hm
  have w0 := open_ck (hval 0 42 v0 rfl rfl) h0
  have w1 := open_pd (hval 1 65 v1 rfl rfl) h1
  obtain ⟨a2, rfl, e2, f2, w2⟩ := open_int Try.underlying3 (hval 2 3 v2 rfl rfl) h2
  clear hA0 hval0
  refine (walk W v0 w0 v1 w1 a2 w2).mono fun e W' ⟨he, bel⟩ => ?_
  subst he
  exact ⟨_, rfl, _, _, _, [], _, [], hW', trodAll_mk1 (shut_bool Try.underlying4 _), (trodAll_cons_mk (Below.trod laidOut (by kernel_rfl) (of_decide_eq_true (by kernel_rfl)) k0 bel lt0) (trodAll_cons_mk (Below.trod laidOut (by kernel_rfl) (of_decide_eq_true (by kernel_rfl)) k1 bel lt1) (trodAll_cons_mk (Below.trod laidOut (by kernel_rfl) (of_decide_eq_true (by kernel_rfl)) k2 bel lt2) trodAll_mk0))), rfl, bel.frame _, fun h => by cases h⟩

theorem over : Rows.fnExactAddDeleteRow.holds Try.pinned (OpenSpec.ofChange Rows.fnExactAddDeleteSpec) :=
  OpenClaim.holds_of_wide 8 Try.f8 rfl rfl rfl rfl rfl rfl rfl ⟨rfl, rfl, rfl, rfl, rfl⟩ rfl rfl rfl rfl rfl (by kernel_rfl) Try.func8 (by kernel_rfl)
    (of_decide_eq_true (by kernel_rfl)) (by unfold Func.isWrapper; first | (rw [if_pos (by decide +kernel)]; kernel_rfl) | (rw [if_neg (by decide +kernel)]; exact ⟨rfl, rfl⟩))
    (fun os started H enc _ => lifted os started H enc)

/-- The statement. -/
theorem proved : Rows.FnExactAddDeleteSaid := over
#print axioms proved
end Go.Proofs.Ytajfhalalnlejaa.fnExactAddDelete
