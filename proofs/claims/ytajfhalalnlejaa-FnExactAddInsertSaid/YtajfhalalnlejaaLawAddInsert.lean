/- The law FnExactAddInsert holds: whatever the arguments, the call returns true, and they read afterwards as before. -/
import Derived.Test.YtajfhalalnlejaaRows
import Derived.WalkKit
import Derived.ProofKit
import Derived.OpenShut
import Derived.ShutString
import Derived.ChangeOld
import Derived.Below
import Derived.Test.YtajfhalalnlejaaAiL
import Derived.Test.YtajfhalalnlejaaOck
namespace Go.Proofs.Ytajfhalalnlejaa.fnExactAddInsert
open Go.ChangeShapes Go.WideShapes Go.ChangeAt Go.RowKit
open Go.ChangeMaps (open_string shut_string)
set_option linter.unusedVariables false
set_option linter.unusedSimpArgs false

theorem own : ownKnob Try.prog.godebug = none := by kernel_rfl
theorem laidOut : laidOutB Try.prog = true := by kernel_rfl

set_option maxRecDepth 100000 in
set_option maxHeartbeats 40000000 in
theorem walk (w : World) (v0 : Value) (w0' : ∃ p0x p0y p0z, Ck w w.heap.size v0 p0x p0y p0z) (v1 : Value) (w1' : ∃ p1x p1y, Pd w w.heap.size v1 p1x p1y) (v2 : Value) (w2' : ∃ p2f p2g : Int, v2 = .agg #[.int .i64 p2f, .int .i64 p2g] ∧ I64 p2f ∧ I64 p2g) :
    Calls Try.prog 7 #[v0, v1, v2] w fun e w' => e = .returned (.bool true) ∧ Below w.heap.size w w' := by
  obtain ⟨p0x, p0y, p0z, hv0⟩ := w0'
  obtain ⟨s00, c00, s01, c01, s02, c02, rfl, -⟩ := hv0.form
  have hwf0 : CkWf p0x p0y p0z := hv0.wf
  have V0 := hide hv0
  clear hv0
  obtain ⟨p1x, p1y, hv1⟩ := w1'
  obtain ⟨s10, c10, s11, c11, rfl, -⟩ := hv1.form
  have hwf1 : PdWf p1x p1y := hv1.wf
  have V1 := hide hv1
  clear hv1
  obtain ⟨p2f, p2g, rfl, hi20, hi21⟩ := w2'
  obtain ⟨wC, hwC⟩ : ∃ q, q = ((w.alloc (.cells #[.slice s00 p0x.length c00, .slice s01 p0y.length c01, .slice s02 p0z.length c02] 42)).alloc (.cells #[.slice s10 p1x.length c10, .slice s11 p1y.length c11] 65)).alloc (.cells #[.int .i64 p2f, .int .i64 p2g] 44) := ⟨_, rfl⟩
  have X : Hid (Kn w wC [(w.heap.size, #[.slice s00 p0x.length c00, .slice s01 p0y.length c01, .slice s02 p0z.length c02], 42), (w.heap.size + 1, #[.slice s10 p1x.length c10, .slice s11 p1y.length c11], 65), (w.heap.size + 1 + 1, #[.int .i64 p2f, .int .i64 p2g], 44)]) := hide (by rw [hwC]; simpa using ((Kn.one w #[.slice s00 p0x.length c00, .slice s01 p0y.length c01, .slice s02 p0z.length c02] 42).alloc #[.slice s10 p1x.length c10, .slice s11 p1y.length c11] 65).alloc #[.int .i64 p2f, .int .i64 p2g] 44)
  have N0 := hide (show wC.heap.size = w.heap.size + 1 + 1 + 1 by rw [hwC]; simp)
  have hsz0 := hide (fun (W : World) (h : Below w.heap.size w W) (q1 : -1 ≤ (1048576 : Int)) (q2 : (1048576 : Int) ≤ 1048576) => szCracker_any _ p0x p0y p0z 1048576 W w.heap.size (V0.out.below h (Nat.le_refl _)) h.size q1 q2)
  obtain ⟨z0, hz0⟩ : ∃ z, z = szC (p0x.length + p0y.length + p0z.length) 1048576 := ⟨_, rfl⟩
  rw [← hz0] at hsz0
  unfold szC at hz0
  have hsz1 := hide (fun (W : World) (h : Below w.heap.size w W) (q1 : -1 ≤ (z0 : Int)) (q2 : (z0 : Int) ≤ 1048576) => szPending_any _ p1x p1y z0 W w.heap.size (V1.out.below h (Nat.le_refl _)) h.size q1 q2)
  obtain ⟨z1, hz1⟩ : ∃ z, z = szC (p1x.length + p1y.length) z0 := ⟨_, rfl⟩
  rw [← hz1] at hsz1
  unfold szC at hz1
  by_cases hneg0 : z0 < 0
  · have b0 : decide (z0 < 0) = true := by simp; omega
    clear hz0 hz1
    have c0_0 : wC.cell? ⟨w.heap.size, 0, none⟩ = some (.slice s00 p0x.length c00) := X.out.cell 0 0 rfl rfl
    have c0_1 : wC.cell? ⟨w.heap.size, 1, none⟩ = some (.slice s01 p0y.length c01) := X.out.cell 0 1 rfl rfl
    have c0_2 : wC.cell? ⟨w.heap.size, 2, none⟩ = some (.slice s02 p0z.length c02) := X.out.cell 0 2 rfl rfl
    have c1_0 : wC.cell? ⟨w.heap.size + 1, 0, none⟩ = some (.slice s10 p1x.length c10) := X.out.cell 1 0 rfl rfl
    have c1_1 : wC.cell? ⟨w.heap.size + 1, 1, none⟩ = some (.slice s11 p1y.length c11) := X.out.cell 1 1 rfl rfl
    have c2_0 : wC.cell? ⟨w.heap.size + 1 + 1, 0, none⟩ = some (.int .i64 p2f) := X.out.cell 2 0 rfl rfl
    have c2_1 : wC.cell? ⟨w.heap.size + 1 + 1, 1, none⟩ = some (.int .i64 p2g) := X.out.cell 2 1 rfl rfl
    rw [hwC] at c0_0 c0_1 c0_2 c1_0 c1_1 c2_0 c2_1
    go_enter Try.func7, Try.ntmps7
    go_wp2_with fail
    rw [← hwC]
    clear hwC c0_0 c0_1 c0_2 c1_0 c1_1 c2_0 c2_1
    go_at_call 21
    refine (hsz0.out _ X.out.below (by omega) (by omega)).mono ?_
    rintro e u1 ⟨rfl, hb⟩
    have X := hide (X.out.up hb)
    have N1 := hide hb.size
    clear hb
    go_wp2_with fail
    go_ret
    exact ⟨rfl, X.out.below⟩
  have hbig0 : p0x.length + p0y.length + p0z.length ≤ 1048576 := by split at hz0 <;> omega
  have hpos0 : 0 ≤ z0 ∧ z0 ≤ 1048576 := by split at hz0 <;> omega
  have b0 : decide (z0 < 0) = false := by simp; omega
  clear hneg0
  by_cases hneg1 : z1 < 0
  · have b1 : decide (z1 < 0) = true := by simp; omega
    clear hz0 hz1
    have c0_0 : wC.cell? ⟨w.heap.size, 0, none⟩ = some (.slice s00 p0x.length c00) := X.out.cell 0 0 rfl rfl
    have c0_1 : wC.cell? ⟨w.heap.size, 1, none⟩ = some (.slice s01 p0y.length c01) := X.out.cell 0 1 rfl rfl
    have c0_2 : wC.cell? ⟨w.heap.size, 2, none⟩ = some (.slice s02 p0z.length c02) := X.out.cell 0 2 rfl rfl
    have c1_0 : wC.cell? ⟨w.heap.size + 1, 0, none⟩ = some (.slice s10 p1x.length c10) := X.out.cell 1 0 rfl rfl
    have c1_1 : wC.cell? ⟨w.heap.size + 1, 1, none⟩ = some (.slice s11 p1y.length c11) := X.out.cell 1 1 rfl rfl
    have c2_0 : wC.cell? ⟨w.heap.size + 1 + 1, 0, none⟩ = some (.int .i64 p2f) := X.out.cell 2 0 rfl rfl
    have c2_1 : wC.cell? ⟨w.heap.size + 1 + 1, 1, none⟩ = some (.int .i64 p2g) := X.out.cell 2 1 rfl rfl
    rw [hwC] at c0_0 c0_1 c0_2 c1_0 c1_1 c2_0 c2_1
    go_enter Try.func7, Try.ntmps7
    go_wp2_with fail
    rw [← hwC]
    clear hwC c0_0 c0_1 c0_2 c1_0 c1_1 c2_0 c2_1
    go_at_call 21
    refine (hsz0.out _ X.out.below (by omega) (by omega)).mono ?_
    rintro e u1 ⟨rfl, hb⟩
    have X := hide (X.out.up hb)
    have N1 := hide hb.size
    clear hb
    have c1_0 : u1.cell? ⟨w.heap.size + 1, 0, none⟩ = some (.slice s10 p1x.length c10) := X.out.cell 1 0 rfl rfl
    have c1_1 : u1.cell? ⟨w.heap.size + 1, 1, none⟩ = some (.slice s11 p1y.length c11) := X.out.cell 1 1 rfl rfl
    go_wp2_with fail
    clear c1_0 c1_1
    go_at_call 37
    refine (hsz1.out _ X.out.below (by omega) (by omega)).mono ?_
    rintro e u2 ⟨rfl, hb⟩
    have X := hide (X.out.up hb)
    have N2 := hide hb.size
    clear hb
    go_wp2_with fail
    go_ret
    exact ⟨rfl, X.out.below⟩
  have hbig1 : p1x.length + p1y.length ≤ 1048576 := by split at hz0 <;> split at hz1 <;> omega
  have hpos1 : 0 ≤ z1 ∧ z1 ≤ 1048576 := by split at hz0 <;> split at hz1 <;> omega
  have b1 : decide (z1 < 0) = false := by simp; omega
  clear hneg1
  clear hz0 hz1
  · skip
    have T0 := hide (fun (W : World) (h : Below w.heap.size w W) => toCracker_o _ p0x p0y p0z W w.heap.size (V0.out.below h (Nat.le_refl _)) h.size (by omega) (by omega) (by omega))
    have T1 := hide (fun (W : World) (h : Below w.heap.size w W) => toPending_o _ p1x p1y W w.heap.size (V1.out.below h (Nat.le_refl _)) h.size (by omega) (by omega))
    have hR0 : ((aiI p0x p0y p0z p1x p1y p2f p2g).length ≤ 4000000 ∧ (p1y).length ≤ 4000000) ∧ PdWf (aiI p0x p0y p0z p1x p1y p2f p2g) (p1y) := ai_wf hbig1 hwf1 hi20 hi21
    have HSP := hide (fun (W : World) (v0 : Value) (k0 : Ck W W.heap.size v0 p0x p0y p0z) (v1 : Value) (k1 : Pd W W.heap.size v1 p1x p1y) => show Calls Try.prog 42 #[v0, v1, .agg #[.int .i64 p2f, .int .i64 p2g]] W (fun e w' => ∃ u0, e = .returned (.tuple #[u0, .bool (aiB p0x p0y p0z p1x p1y p2f p2g)]) ∧ PdOs w' u0 (aiI p0x p0y p0z p1x (p1y) p2f p2g) (p1y) W.heap.size w'.heap.size ∧ Below W.heap.size W w') from sAi_any v0 v1 p0x p0y p0z p1x p1y p2f p2g W k0 k1 (by omega) (by omega) (by omega) hi20 hi21)
    have HIP := hide (fun (W : World) (v0 : Value) (k0 : Ck W W.heap.size v0 p0x p0y p0z) (v1 : Value) (k1 : Pd W W.heap.size v1 p1x p1y) => show Calls Try.prog 43 #[v0, v1, .agg #[.int .i64 p2f, .int .i64 p2g]] W (fun e w' => ∃ u0, e = .returned (.tuple #[u0, .bool (aiB p0x p0y p0z p1x p1y p2f p2g)]) ∧ PdOs w' u0 (aiI p0x p0y p0z p1x (p1y) p2f p2g) (p1y) W.heap.size w'.heap.size ∧ Below W.heap.size W w') from iAi_any v0 v1 p0x p0y p0z p1x p1y p2f p2g W k0 k1 (by omega) (by omega) (by omega) (by omega) hi20 hi21)
    obtain ⟨r0x, hq⟩ : ∃ q : List Pv, q = aiI p0x p0y p0z p1x p1y p2f p2g := ⟨_, rfl⟩
    rw [← hq] at HSP HIP hR0
    clear hq
    obtain ⟨r1, hq⟩ : ∃ q : Bool, q = aiB p0x p0y p0z p1x p1y p2f p2g := ⟨_, rfl⟩
    rw [← hq] at HSP HIP 
    clear hq
    obtain ⟨⟨hl00, hl01⟩, hRw0⟩ := hR0
    have RD0 := hide (fun (W : World) (v : Value) (lo hi : Nat) (h : PdOs W v r0x p1y lo hi) => h.rd hRw0)
    have PD0 := hide (fun (W : World) (v : Value) (lo hi : Nat) (h : Oc W v p0x p0y p0z lo hi) => h.rd hwf0)
    have PD1 := hide (fun (W : World) (v : Value) (lo hi : Nat) (h : PdOs W v p1x p1y lo hi) => h.rd hwf1)
    obtain ⟨A0, hA0⟩ : ∃ q : Int, q = 1 + (p0x.length : Int) + (p0y.length : Int) + 2 * (p0z.length : Int) := ⟨_, rfl⟩
    have HA0 := hide (fun (W : World) (v : Value) (lo hi : Nat) (h : Oc W v p0x p0y p0z lo hi) => show Calls Try.prog 19 #[v, .int .i64 (1)] W (RetMOc W v (mkI (1) p0x.length) (mkI (1 + (p0x.length : Int)) p0y.length) (mkP (1 + (p0x.length : Int) + (p0y.length : Int)) p0z.length) lo hi A0) by rw [hA0]; exact markCracker_o v p0x p0y p0z lo hi (1) W h (by omega) (by omega))
    obtain ⟨A1, hA1⟩ : ∃ q : Int, q = A0 + 2 * (p1x.length : Int) + (p1y.length : Int) := ⟨_, rfl⟩
    have HA1 := hide (fun (W : World) (v : Value) (lo hi : Nat) (h : PdOs W v p1x p1y lo hi) => show Calls Try.prog 44 #[v, .int .i64 (A0)] W (RetMPdO W v (mkP (A0) p1x.length) (mkI (A0 + 2 * (p1x.length : Int)) p1y.length) lo hi A1) by rw [hA1]; exact markPending_o v p1x p1y lo hi (A0) W h (by omega) (by omega))
    have hAn : decide (A1 < 0) = false := by simp; omega
    obtain ⟨M0, hM0⟩ : ∃ q : Int, q = 1 + 2 * (r0x.length : Int) + (p1y.length : Int) := ⟨_, rfl⟩
    have HM0 := hide (fun (W : World) (v : Value) (lo hi : Nat) (h : PdOs W v r0x p1y lo hi) => show Calls Try.prog 44 #[v, .int .i64 (1)] W (RetMPdO W v (mkP (1) r0x.length) (mkI (1 + 2 * (r0x.length : Int)) p1y.length) lo hi M0) by rw [hM0]; exact markPending_o v r0x p1y lo hi (1) W h (by omega) (by omega))
    have HH0 := hide (fun (W : World) (v : Value) (lo hi : Nat) (h : PdOs W v (mkP (1) r0x.length) (mkI (1 + 2 * (r0x.length : Int)) p1y.length) lo hi) => show Calls Try.prog 45 #[v, .int .i64 (1)] W (RetI1 W M0) by rw [hM0]; exact heldPending_o v r0x.length p1y.length lo hi (1) W h (by omega) (by omega))
    have hMn0 : decide (M0 < 0) = false := by simp; omega
    have hMM : (M0 != M0) = false := by simp
    have hn1 : (r1 != r1) = false := by simp
    clear hA0 hA1 hM0 hwf0 hwf1 hRw0 hl00 hl01
    have c0_0 : wC.cell? ⟨w.heap.size, 0, none⟩ = some (.slice s00 p0x.length c00) := X.out.cell 0 0 rfl rfl
    have c0_1 : wC.cell? ⟨w.heap.size, 1, none⟩ = some (.slice s01 p0y.length c01) := X.out.cell 0 1 rfl rfl
    have c0_2 : wC.cell? ⟨w.heap.size, 2, none⟩ = some (.slice s02 p0z.length c02) := X.out.cell 0 2 rfl rfl
    have c1_0 : wC.cell? ⟨w.heap.size + 1, 0, none⟩ = some (.slice s10 p1x.length c10) := X.out.cell 1 0 rfl rfl
    have c1_1 : wC.cell? ⟨w.heap.size + 1, 1, none⟩ = some (.slice s11 p1y.length c11) := X.out.cell 1 1 rfl rfl
    have c2_0 : wC.cell? ⟨w.heap.size + 1 + 1, 0, none⟩ = some (.int .i64 p2f) := X.out.cell 2 0 rfl rfl
    have c2_1 : wC.cell? ⟨w.heap.size + 1 + 1, 1, none⟩ = some (.int .i64 p2g) := X.out.cell 2 1 rfl rfl
    rw [hwC] at c0_0 c0_1 c0_2 c1_0 c1_1 c2_0 c2_1
    go_enter Try.func7, Try.ntmps7
    go_wp2_with fail
    rw [← hwC]
    clear hwC c0_0 c0_1 c0_2 c1_0 c1_1 c2_0 c2_1
    go_at_call 21
    refine (hsz0.out _ X.out.below (by omega) (by omega)).mono ?_
    rintro e u1 ⟨rfl, hb⟩
    have X := hide (X.out.up hb)
    have N1 := hide hb.size
    clear hb
    have c1_0 : u1.cell? ⟨w.heap.size + 1, 0, none⟩ = some (.slice s10 p1x.length c10) := X.out.cell 1 0 rfl rfl
    have c1_1 : u1.cell? ⟨w.heap.size + 1, 1, none⟩ = some (.slice s11 p1y.length c11) := X.out.cell 1 1 rfl rfl
    go_wp2_with fail
    clear c1_0 c1_1
    go_at_call 37
    refine (hsz1.out _ X.out.below (by omega) (by omega)).mono ?_
    rintro e u2 ⟨rfl, hb⟩
    have X := hide (X.out.up hb)
    have N2 := hide hb.size
    clear hb
    clear hpos0 hpos1
    -- region 8
    go_upto_region 8 with fail
    have X1 := X
    refine wp_region_any (by kernel_rfl) ?_
    refine wpAny_facts (w0 := u2) (fun i => ([(fun lo hi s W => s 30 = .agg #[.slice s00 p0x.length c00, .slice s01 p0y.length c01, .slice s02 p0z.length c02]),
      (fun lo hi s W => Oc W (s 31) p0x p0y p0z lo hi),
      (fun lo hi s W => s 32 = .agg #[.slice s10 p1x.length c10, .slice s11 p1y.length c11]),
      (fun lo hi s W => PdOs W (s 33) p1x p1y lo hi),
      (fun lo hi s W => s 34 = .agg #[.int .i64 p2f, .int .i64 p2g]),
      (fun lo hi s W => s 35 = .agg #[.int .i64 p2f, .int .i64 p2g]),
      (fun lo hi s W => ∃ q0, s 36 = .tuple #[q0, .bool r1] ∧ PdOs W q0 r0x p1y lo hi),
      (fun lo hi s W => s 29 = s 36),
      (fun lo hi s W => s 37 = cmpV (s 29) 0),
      (fun lo hi s W => s 38 = cmpV (s 29) 1),
      (fun lo hi s W => ∃ g cs, s 8 = .pointer (some ⟨g, 0, none⟩) ∧ lo ≤ g ∧ g < hi ∧ W.heap[g]? = some (.cells cs 70 (0, 0)) ∧ cs.size = 2),
      (fun lo hi s W => ∃ g cs, s 8 = .pointer (some ⟨g, 0, none⟩) ∧ s 37 = .agg cs ∧ lo ≤ g ∧ g < hi ∧ W.heap[g]? = some (.cells cs 70 (0, 0))),
      (fun lo hi s W => s 9 = s 38)] : List (Nat → Nat → (Nat → Value) → World → Prop)).getD i (fun _ _ _ _ => True)) [[], [0], [], [0, 1, 2], [], [0, 1, 2, 3, 4], [0, 1, 2, 3, 4, 5], [0, 1, 2, 3, 4, 5, 6], [0, 1, 2, 3, 4, 5, 6, 7], [0, 1, 2, 3, 4, 5, 6, 7], [], [0, 1, 2, 3, 4, 5, 6, 7, 8, 10], [0, 1, 2, 3, 4, 5, 6, 7, 8, 9, 10, 11]] [0, 1, 2, 3, 4, 5, 6, 7, 8, 9, 10, 10, 12] [[30], [31], [32], [33], [34], [35], [36], [29, 36], [37, 29], [38, 29], [8], [8, 37], [9, 38]] [[], [], [], [], [], [], [], [], [], [], [], [10], []] (by kernel_rfl) (by kernel_rfl) ?st ?step ?fin
    case st =>
      clear HSP HIP
      intro i hi lo hi' s W W' h q1 q2 q3 q4 k
      have hi : i < 13 := hi
      clear X X1
      rcases (show i = 0 ∨ i = 1 ∨ i = 2 ∨ i = 3 ∨ i = 4 ∨ i = 5 ∨ i = 6 ∨ i = 7 ∨ i = 8 ∨ i = 9 ∨ i = 10 ∨ i = 11 ∨ i = 12 by omega) with rfl | rfl | rfl | rfl | rfl | rfl | rfl | rfl | rfl | rfl | rfl | rfl | rfl
      · have h : s 30 = .agg #[.slice s00 p0x.length c00, .slice s01 p0y.length c01, .slice s02 p0z.length c02] := h
        show s 30 = .agg #[.slice s00 p0x.length c00, .slice s01 p0y.length c01, .slice s02 p0z.length c02]
        exact h
      · have h : Oc W (s 31) p0x p0y p0z lo hi' := h
        show Oc W' (s 31) p0x p0y p0z lo hi'
        exact h.on k
      · have h : s 32 = .agg #[.slice s10 p1x.length c10, .slice s11 p1y.length c11] := h
        show s 32 = .agg #[.slice s10 p1x.length c10, .slice s11 p1y.length c11]
        exact h
      · have h : PdOs W (s 33) p1x p1y lo hi' := h
        show PdOs W' (s 33) p1x p1y lo hi'
        exact h.on k
      · have h : s 34 = .agg #[.int .i64 p2f, .int .i64 p2g] := h
        show s 34 = .agg #[.int .i64 p2f, .int .i64 p2g]
        exact h
      · have h : s 35 = .agg #[.int .i64 p2f, .int .i64 p2g] := h
        show s 35 = .agg #[.int .i64 p2f, .int .i64 p2g]
        exact h
      · have h : ∃ q0, s 36 = .tuple #[q0, .bool r1] ∧ PdOs W q0 r0x p1y lo hi' := h
        show ∃ q0, s 36 = .tuple #[q0, .bool r1] ∧ PdOs W' q0 r0x p1y lo hi'
        obtain ⟨q, e1, e2⟩ := h; exact ⟨q, e1, e2.on k⟩
      · have h : s 29 = s 36 := h
        show s 29 = s 36
        exact h
      · have h : s 37 = cmpV (s 29) 0 := h
        show s 37 = cmpV (s 29) 0
        exact h
      · have h : s 38 = cmpV (s 29) 1 := h
        show s 38 = cmpV (s 29) 1
        exact h
      · have h : ∃ g cs, s 8 = .pointer (some ⟨g, 0, none⟩) ∧ lo ≤ g ∧ g < hi' ∧ W.heap[g]? = some (.cells cs 70 (0, 0)) ∧ cs.size = 2 := h
        show ∃ g cs, s 8 = .pointer (some ⟨g, 0, none⟩) ∧ lo ≤ g ∧ g < hi' ∧ W'.heap[g]? = some (.cells cs 70 (0, 0)) ∧ cs.size = 2
        obtain ⟨g, cs, e1, e2, e3, e4, e5⟩ := h; exact ⟨g, cs, e1, e2, e3, (k.own g e2 e3 (Array.getElem?_eq_some_iff.1 e4).1).trans e4, e5⟩
      · have h : ∃ g cs, s 8 = .pointer (some ⟨g, 0, none⟩) ∧ s 37 = .agg cs ∧ lo ≤ g ∧ g < hi' ∧ W.heap[g]? = some (.cells cs 70 (0, 0)) := h
        show ∃ g cs, s 8 = .pointer (some ⟨g, 0, none⟩) ∧ s 37 = .agg cs ∧ lo ≤ g ∧ g < hi' ∧ W'.heap[g]? = some (.cells cs 70 (0, 0))
        obtain ⟨g, cs, e1, e2, e3, e4, e5⟩ := h; exact ⟨g, cs, e1, e2, e3, e4, (k.own g e3 e4 (Array.getElem?_eq_some_iff.1 e5).1).trans e5⟩
      · have h : s 9 = s 38 := h
        show s 9 = s 38
        exact h
    case step =>
      intro i hi a W iv hb hsz hdf hrest hanc hivs hap K HK
      have hi : i < 13 := hi
      have HK := hide HK
      have HAN := hide hanc
      have HIV := hide hivs
      have HRS := hide hrest
      have XU := hide (X1.out.up hb)
      have HB := hide hb
      clear hanc hivs hap hrest hb hsz hdf X X1
      rcases (show i = 0 ∨ i = 1 ∨ i = 2 ∨ i = 3 ∨ i = 4 ∨ i = 5 ∨ i = 6 ∨ i = 7 ∨ i = 8 ∨ i = 9 ∨ i = 10 ∨ i = 11 ∨ i = 12 by omega) with rfl | rfl | rfl | rfl | rfl | rfl | rfl | rfl | rfl | rfl | rfl | rfl | rfl
      · refine wpOp_step (o := _) rfl fun K' hK => ?_
        rw [if_pos (by go_simp)]
        have e1 : a.tmps.getD 3 undef = .pointer (some ⟨w.heap.size, 0, none⟩) := (HRS.out 3 (by decide)).trans rfl
        have c0 : W.cell? ⟨w.heap.size, 0, none⟩ = some (.slice s00 p0x.length c00) := XU.out.cell 0 0 rfl rfl
        have c1 : W.cell? ⟨w.heap.size, 1, none⟩ = some (.slice s01 p0y.length c01) := XU.out.cell 0 1 rfl rfl
        have c2 : W.cell? ⟨w.heap.size, 2, none⟩ = some (.slice s02 p0z.length c02) := XU.out.cell 0 2 rfl rfl
        go_simp
        exact hK _ _ (HK.out _ _ ⟨fun _ => ⟨Below.refl _ _, rfl⟩, fun h => absurd rfl h⟩)
      · refine wpOp_step (o := _) rfl fun K' hK => ?_
        rw [if_pos (by go_simp)]
        have e1 : a.tmps.getD 30 undef = .agg #[.slice s00 p0x.length c00, .slice s01 p0y.length c01, .slice s02 p0z.length c02] := HAN.out 0 (by decide)
        go_simp
        go_at_call 23
        refine (T0.out _ XU.out.below).mono ?_
        rintro e W' ⟨vv, rfl, ho, hbb⟩
        skip
        exact hK _ _ (HK.out _ _ ⟨fun _ => ⟨hbb, ho⟩, fun h => absurd rfl h⟩)
      · refine wpOp_step (o := _) rfl fun K' hK => ?_
        rw [if_pos (by go_simp)]
        have e1 : a.tmps.getD 4 undef = .pointer (some ⟨w.heap.size + 1, 0, none⟩) := (HRS.out 4 (by decide)).trans rfl
        have c0 : W.cell? ⟨w.heap.size + 1, 0, none⟩ = some (.slice s10 p1x.length c10) := XU.out.cell 1 0 rfl rfl
        have c1 : W.cell? ⟨w.heap.size + 1, 1, none⟩ = some (.slice s11 p1y.length c11) := XU.out.cell 1 1 rfl rfl
        go_simp
        exact hK _ _ (HK.out _ _ ⟨fun _ => ⟨Below.refl _ _, rfl⟩, fun h => absurd rfl h⟩)
      · refine wpOp_step (o := _) rfl fun K' hK => ?_
        rw [if_pos (by go_simp)]
        have e1 : a.tmps.getD 32 undef = .agg #[.slice s10 p1x.length c10, .slice s11 p1y.length c11] := HAN.out 2 (by decide)
        go_simp
        go_at_call 39
        refine (T1.out _ XU.out.below).mono ?_
        rintro e W' ⟨vv, rfl, ho, hbb⟩
        skip
        exact hK _ _ (HK.out _ _ ⟨fun _ => ⟨hbb, ho⟩, fun h => absurd rfl h⟩)
      · refine wpOp_step (o := _) rfl fun K' hK => ?_
        rw [if_pos (by go_simp)]
        have e1 : a.tmps.getD 5 undef = .pointer (some ⟨w.heap.size + 1 + 1, 0, none⟩) := (HRS.out 5 (by decide)).trans rfl
        have c0 : W.cell? ⟨w.heap.size + 1 + 1, 0, none⟩ = some (.int .i64 p2f) := XU.out.cell 2 0 rfl rfl
        have c1 : W.cell? ⟨w.heap.size + 1 + 1, 1, none⟩ = some (.int .i64 p2g) := XU.out.cell 2 1 rfl rfl
        go_simp
        exact hK _ _ (HK.out _ _ ⟨fun _ => ⟨Below.refl _ _, rfl⟩, fun h => absurd rfl h⟩)
      · refine wpOp_step (o := _) rfl fun K' hK => ?_
        rw [if_pos (by go_simp)]
        have e1 : a.tmps.getD 34 undef = .agg #[.int .i64 p2f, .int .i64 p2g] := HAN.out 4 (by decide)
        go_simp
        go_at_call 24
        refine (toItem_any _ _ _).mono ?_
        rintro e W' ⟨rfl, hbb⟩
        skip
        exact hK _ _ (HK.out _ _ ⟨fun _ => ⟨hbb, rfl⟩, fun h => absurd rfl h⟩)
      · refine wpOp_step (o := _) rfl fun K' hK => ?_
        rw [if_pos (by go_simp)]
        have e2 : a.tmps.getD 35 undef = .agg #[.int .i64 p2f, .int .i64 p2g] := HAN.out 5 (by decide)
        have k0 : Oc W (a.tmps.getD 31 undef) p0x p0y p0z _ _ := HAN.out 1 (by decide)
        obtain ⟨y0, hy0⟩ : ∃ q, a.tmps.getD 31 undef = q := ⟨_, rfl⟩
        rw [hy0] at k0
        have k0 := hide (PD0.out _ _ _ _ k0)
        have k1 : PdOs W (a.tmps.getD 33 undef) p1x p1y _ _ := HAN.out 3 (by decide)
        obtain ⟨y1, hy1⟩ : ∃ q, a.tmps.getD 33 undef = q := ⟨_, rfl⟩
        rw [hy1] at k1
        have k1 := hide (PD1.out _ _ _ _ k1)
        go_simp
        go_at_call 42
        refine (HSP.out _ _ k0.out _ k1.out).mono ?_
        rintro e W' ⟨q0, rfl, ho, hbb⟩
        skip
        exact hK _ _ (HK.out _ _ ⟨fun _ => ⟨hbb, ⟨_, rfl, ho⟩⟩, fun h => absurd rfl h⟩)
      · refine wpOp_step (o := _) rfl fun K' hK => ?_
        rw [if_pos (by go_simp)]
        obtain ⟨y, e1⟩ : ∃ y, a.tmps.getD 36 undef = y := ⟨_, rfl⟩
        go_simp
        exact hK _ _ (HK.out _ _ ⟨fun _ => ⟨Below.refl _ _, e1.symm⟩, fun h => absurd rfl h⟩)
      · refine wpOp_step (o := _) rfl fun K' hK => ?_
        rw [if_pos (by go_simp)]
        have h0 := HAN.out 6 (by decide)
        obtain ⟨q0, h0, -⟩ : ∃ q0, a.tmps.getD 36 undef = .tuple #[q0, .bool r1] ∧ _ := h0
        have h1 : a.tmps.getD 29 undef = a.tmps.getD 36 undef := HAN.out 7 (by decide)
        rw [h0] at h1
        clear h0
        have h0 := h1
        clear h1
        go_simp
        exact hK _ _ (HK.out _ _ ⟨fun _ => ⟨Below.refl _ _, by show _ = cmpV (a.tmps.getD 29 undef) 0; rw [h0]; rfl⟩, fun h => absurd rfl h⟩)
      · refine wpOp_step (o := _) rfl fun K' hK => ?_
        rw [if_pos (by go_simp)]
        have h0 := HAN.out 6 (by decide)
        obtain ⟨q0, h0, -⟩ : ∃ q0, a.tmps.getD 36 undef = .tuple #[q0, .bool r1] ∧ _ := h0
        have h1 : a.tmps.getD 29 undef = a.tmps.getD 36 undef := HAN.out 7 (by decide)
        rw [h0] at h1
        clear h0
        have h0 := h1
        clear h1
        go_simp
        exact hK _ _ (HK.out _ _ ⟨fun _ => ⟨Below.refl _ _, by show _ = cmpV (a.tmps.getD 29 undef) 1; rw [h0]; rfl⟩, fun h => absurd rfl h⟩)
      · refine wpOp_step (o := _) rfl fun K' hK => ?_
        rw [if_pos (by go_simp)]
        go_simp
        exact hK _ _ (HK.out _ _ ⟨fun _ => ⟨below1 W _, ⟨W.heap.size, _, rfl, Nat.le_refl _, by simp, heap_alloc_new W _, rfl⟩⟩, fun h => absurd rfl h⟩)
      · refine wpOp_step (o := _) rfl fun K' hK => ?_
        rw [if_pos (by go_simp)]
        obtain ⟨g, cs, e1, g1, g2, g3, g4⟩ : ∃ g cs, a.tmps.getD 8 undef = .pointer (some ⟨g, 0, none⟩) ∧ (iv 10).1 ≤ g ∧ g < (iv 10).2 ∧ W.heap[g]? = some (.cells cs 70 (0, 0)) ∧ cs.size = 2 := HAN.out 10 (by decide)
        obtain ⟨q0, h0, o0⟩ : ∃ q0, a.tmps.getD 36 undef = .tuple #[q0, .bool r1] ∧ PdOs W q0 r0x p1y (iv 6).1 (iv 6).2 := HAN.out 6 (by decide)
        obtain ⟨x0, y0, x1, y1, hf⟩ := o0.form
        rw [hf] at h0
        clear hf o0
        have h1 : a.tmps.getD 29 undef = a.tmps.getD 36 undef := HAN.out 7 (by decide)
        rw [h0] at h1
        clear h0
        have h0 := h1
        clear h1
        have h1 : a.tmps.getD 37 undef = cmpV (a.tmps.getD 29 undef) 0 := HAN.out 8 (by decide)
        rw [h0] at h1
        clear h0
        have h0 : a.tmps.getD 37 undef = .agg #[.slice x0 r0x.length y0, .slice x1 p1y.length y1] := h1
        clear h1
        have G3 := hide g3
        obtain ⟨z0, z1, rfl⟩ := size2 g4
        have c0 : W.cell? ⟨g, 0, none⟩ = some z0 := cell_of_row W g 0 _ _ (0, 0) g3
        have f0 : W.frozen? ⟨g, 0, none⟩ = false := frozen_of_row W g 0 _ _ g3
        have c1 : W.cell? ⟨g, 1, none⟩ = some z1 := cell_of_row W g 1 _ _ (0, 0) g3
        have f1 : W.frozen? ⟨g, 1, none⟩ = false := frozen_of_row W g 1 _ _ g3
        clear g3 g4
        go_simp
        exact hK _ _ (HK.out undef _ ⟨fun h => absurd h (by decide), fun _ => ⟨segS2 g1 g2 _ _, ⟨g, _, e1, h0, g1, g2, heap_put2 G3.out rfl _ _⟩, fun j hj => by
          obtain rfl : j = 10 := by simpa using hj
          intro _
          exact ⟨g, _, e1, g1, g2, heap_put2 G3.out rfl _ _, rfl⟩⟩⟩)
      · refine wpOp_step (o := _) rfl fun K' hK => ?_
        rw [if_pos (by go_simp)]
        obtain ⟨y, e1⟩ : ∃ y, a.tmps.getD 38 undef = y := ⟨_, rfl⟩
        go_simp
        exact hK _ _ (HK.out _ _ ⟨fun _ => ⟨Below.refl _ _, e1.symm⟩, fun h => absurd rfl h⟩)
    case fin =>
    intro a u3 iv I
    have hbY := I.below
    have X0 := X1
    have X := hide (X1.out.up hbY)
    clear X1
    have F0 : slot a 30 = .agg #[.slice s00 p0x.length c00, .slice s01 p0y.length c01, .slice s02 p0z.length c02] := (I.fact 0 (by decide) rfl).2
    have F1 : Oc u3 (slot a 31) p0x p0y p0z (iv 1).1 (iv 1).2 := (I.fact 1 (by decide) rfl).2
    have F2 : slot a 32 = .agg #[.slice s10 p1x.length c10, .slice s11 p1y.length c11] := (I.fact 2 (by decide) rfl).2
    have F3 : PdOs u3 (slot a 33) p1x p1y (iv 3).1 (iv 3).2 := (I.fact 3 (by decide) rfl).2
    have F4 : slot a 34 = .agg #[.int .i64 p2f, .int .i64 p2g] := (I.fact 4 (by decide) rfl).2
    have F5 : slot a 35 = .agg #[.int .i64 p2f, .int .i64 p2g] := (I.fact 5 (by decide) rfl).2
    have F6 : ∃ q0, slot a 36 = .tuple #[q0, .bool r1] ∧ PdOs u3 q0 r0x p1y (iv 6).1 (iv 6).2 := (I.fact 6 (by decide) rfl).2
    have F7 : slot a 29 = slot a 36 := (I.fact 7 (by decide) rfl).2
    have F8 : slot a 37 = cmpV (slot a 29) 0 := (I.fact 8 (by decide) rfl).2
    have F9 : slot a 38 = cmpV (slot a 29) 1 := (I.fact 9 (by decide) rfl).2
    have F10 : ∃ g cs, slot a 8 = .pointer (some ⟨g, 0, none⟩) ∧ (iv 10).1 ≤ g ∧ g < (iv 10).2 ∧ u3.heap[g]? = some (.cells cs 70 (0, 0)) ∧ cs.size = 2 := (I.fact 10 (by decide) rfl).2
    have F11 : ∃ g cs, slot a 8 = .pointer (some ⟨g, 0, none⟩) ∧ slot a 37 = .agg cs ∧ (iv 10).1 ≤ g ∧ g < (iv 10).2 ∧ u3.heap[g]? = some (.cells cs 70 (0, 0)) := (I.fact 11 (by decide) rfl).2
    have F12 : slot a 9 = slot a 38 := (I.fact 12 (by decide) rfl).2
    obtain ⟨iv6a, iv6b, iv6c⟩ := I.ivs 6 (by decide) rfl rfl
    obtain ⟨iv10a, iv10b, iv10c⟩ := I.ivs 10 (by decide) rfl rfl
    have ap6_10 := I.apart 6 10 (by decide) (by decide) rfl rfl rfl rfl (by decide)
    have hfr := frame_of [30, 31, 32, 33, 34, 35, 36, 29, 37, 38, 8, 9] I.size I.defers (fun s hs => I.rest s (rfDsts_spec (by kernel_rfl) hs))
    skip
    obtain ⟨qA0, E36, CA0⟩ := F6
    obtain ⟨gA00, kA00, gA01, kA01, hf⟩ := CA0.form
    subst hf
    rw [E36] at F7
    rw [F7] at F8
    have F8 : slot a 37 = .agg #[.slice gA00 r0x.length kA00, .slice gA01 p1y.length kA01] := F8
    rw [F7] at F9
    have F9 : slot a 38 = .bool r1 := F9
    obtain ⟨bA0, cs, E8, hv, g1bA0, g2bA0, hcbA0⟩ := F11
    rw [F8] at hv
    obtain rfl : cs = #[.slice gA00 r0x.length kA00, .slice gA01 p1y.length kA01] := by injection hv with hv; exact hv.symm
    clear hv
    rw [F9] at F12
    rw [hfr]
    simp only [List.foldl_cons, List.foldl_nil, List.setIfInBounds_toArray, List.set_cons_succ, List.set_cons_zero, E36, F7, F8, F9, E8, F12]
    generalize slot a 30 = t30
    generalize slot a 31 = t31
    generalize slot a 32 = t32
    generalize slot a 33 = t33
    generalize slot a 34 = t34
    generalize slot a 35 = t35
    have XN := Kn.add (Kn.none hbY) hcbA0 (Nat.le_trans iv10a g1bA0) (fun e he => by simp at he)
    have X := hide (Kn.joinR X0.out XN)
    simp only [List.cons_append, List.nil_append] at X
    clear XN
    have NN3 := hide (hbY.size)
    obtain ⟨loA0, hloA0⟩ : ∃ q, q = (iv 6).1 := ⟨_, rfl⟩
    obtain ⟨hiA0, hhiA0⟩ : ∃ q, q = (iv 6).2 := ⟨_, rfl⟩
    rw [← hloA0, ← hhiA0] at CA0
    have hw : u2.heap.size ≤ loA0 := by omega
    have NN4 := hide (hw)
    clear hw
    have hw : hiA0 ≤ u3.heap.size := by omega
    have NN5 := hide (hw)
    clear hw
    have hw : u2.heap.size ≤ bA0 := by omega
    have NN6 := hide (hw)
    clear hw
    have hw : bA0 < u3.heap.size := by omega
    have NN7 := hide (hw)
    clear hw
    have DA0_bA0 := hide (show bA0 < loA0 ∨ hiA0 ≤ bA0 by omega)
    have CA0 := hide CA0
    try clear I
    try clear hfr
    try clear hbY
    try clear X0
    try clear F0
    try clear F1
    try clear F2
    try clear F3
    try clear F4
    try clear F5
    try clear F6
    try clear F7
    try clear F8
    try clear F9
    try clear F10
    try clear F11
    try clear F12
    try clear E36
    try clear E8
    try clear iv6a
    try clear iv6b
    try clear iv6c
    try clear iv10a
    try clear iv10b
    try clear iv10c
    try clear ap6_10
    try clear g1bA0
    try clear g2bA0
    try clear hcbA0
    try clear hloA0
    try clear hhiA0
    try clear iv a
    have c0_0 : u3.cell? ⟨w.heap.size, 0, none⟩ = some (.slice s00 p0x.length c00) := X.out.cell 0 0 rfl rfl
    have c0_1 : u3.cell? ⟨w.heap.size, 1, none⟩ = some (.slice s01 p0y.length c01) := X.out.cell 0 1 rfl rfl
    have c0_2 : u3.cell? ⟨w.heap.size, 2, none⟩ = some (.slice s02 p0z.length c02) := X.out.cell 0 2 rfl rfl
    go_wp2_with fail
    clear c0_0 c0_1 c0_2
    go_at_call 23
    refine (T0.out _ X.out.below).mono ?_
    rintro e u4 ⟨vv, rfl, Cx0, hb⟩
    obtain ⟨gx00, kx00, gx01, kx01, gx02, kx02, hf⟩ := Cx0.form
    subst hf
    obtain ⟨lox0, hlo⟩ : ∃ q, q = u3.heap.size := ⟨_, rfl⟩
    obtain ⟨hix0, hhi⟩ : ∃ q, q = u4.heap.size := ⟨_, rfl⟩
    have hw : u3.heap.size ≤ lox0 := by omega
    have NX0a := hide hw
    have hw : hix0 ≤ u4.heap.size := by omega
    have NX0b := hide hw
    rw [← hlo, ← hhi] at Cx0
    have Cx0 := hide Cx0
    clear hw hlo hhi
    have X := hide (X.out.up hb)
    have CA0 := hide (CA0.out.below hb)
    have NN8 := hide (hb.size)
    clear hb
    have hbl := below1 u4 (.cells #[.slice gx00 p0x.length kx00, .slice gx01 p0y.length kx01, .slice gx02 p0z.length kx02] 27)
    have X := hide (X.out.alloc #[.slice gx00 p0x.length kx00, .slice gx01 p0y.length kx01, .slice gx02 p0z.length kx02] 27)
    have CA0 := hide (CA0.out.below hbl)
    have Cx0 := hide (Cx0.out.below hbl)
    clear hbl
    obtain ⟨u5, hu5⟩ : ∃ q, q = u4.alloc (.cells #[.slice gx00 p0x.length kx00, .slice gx01 p0y.length kx01, .slice gx02 p0z.length kx02] 27) := ⟨_, rfl⟩
    obtain ⟨bx0, hbx0⟩ : ∃ q, q = u4.heap.size := ⟨_, rfl⟩
    have NN11 := hide (show bx0 = u4.heap.size ∧ u5.heap.size = u4.heap.size + 1 by rw [hu5, hbx0]; simp)
    rw [← hu5] at X CA0 Cx0
    rw [← hbx0] at X
    simp only [List.cons_append, List.nil_append] at X
    have c1_0 : u5.cell? ⟨w.heap.size + 1, 0, none⟩ = some (.slice s10 p1x.length c10) := X.out.cell 1 0 rfl rfl
    have c1_1 : u5.cell? ⟨w.heap.size + 1, 1, none⟩ = some (.slice s11 p1y.length c11) := X.out.cell 1 1 rfl rfl
    rw [hu5] at c1_0 c1_1
    go_wp2_with fail
    rw [← hu5]
    try rw [← hbx0]
    clear hu5 hbx0
    clear c1_0 c1_1
    go_at_call 39
    refine (T1.out _ X.out.below).mono ?_
    rintro e u6 ⟨vv, rfl, Cx1, hb⟩
    obtain ⟨gx10, kx10, gx11, kx11, hf⟩ := Cx1.form
    subst hf
    obtain ⟨lox1, hlo⟩ : ∃ q, q = u5.heap.size := ⟨_, rfl⟩
    obtain ⟨hix1, hhi⟩ : ∃ q, q = u6.heap.size := ⟨_, rfl⟩
    have hw : u5.heap.size ≤ lox1 := by omega
    have NX1a := hide hw
    have hw : hix1 ≤ u6.heap.size := by omega
    have NX1b := hide hw
    rw [← hlo, ← hhi] at Cx1
    have Cx1 := hide Cx1
    clear hw hlo hhi
    have X := hide (X.out.up hb)
    have CA0 := hide (CA0.out.below hb)
    have Cx0 := hide (Cx0.out.below hb)
    have NN12 := hide (hb.size)
    clear hb
    have hbl := below1 u6 (.cells #[.slice gx10 p1x.length kx10, .slice gx11 p1y.length kx11] 70)
    have X := hide (X.out.alloc #[.slice gx10 p1x.length kx10, .slice gx11 p1y.length kx11] 70)
    have CA0 := hide (CA0.out.below hbl)
    have Cx0 := hide (Cx0.out.below hbl)
    have Cx1 := hide (Cx1.out.below hbl)
    clear hbl
    obtain ⟨u7, hu7⟩ : ∃ q, q = u6.alloc (.cells #[.slice gx10 p1x.length kx10, .slice gx11 p1y.length kx11] 70) := ⟨_, rfl⟩
    obtain ⟨bx1, hbx1⟩ : ∃ q, q = u6.heap.size := ⟨_, rfl⟩
    have NN15 := hide (show bx1 = u6.heap.size ∧ u7.heap.size = u6.heap.size + 1 by rw [hu7, hbx1]; simp)
    rw [← hu7] at X CA0 Cx0 Cx1
    rw [← hbx1] at X
    simp only [List.cons_append, List.nil_append] at X
    -- region 11
    go_upto_region 11 with fail
    rw [← hu7]
    try rw [← hbx1]
    clear hu7 hbx1
    have X1 := X
    refine wp_region_any (by kernel_rfl) ?_
    refine wpAny_facts (w0 := u7) (fun i => ([(fun lo hi s W => s 44 = .agg #[.slice gx00 p0x.length kx00, .slice gx01 p0y.length kx01, .slice gx02 p0z.length kx02]),
      (fun lo hi s W => s 45 = .agg #[.slice gx10 p1x.length kx10, .slice gx11 p1y.length kx11]),
      (fun lo hi s W => s 46 = .agg #[.int .i64 p2f, .int .i64 p2g]),
      (fun lo hi s W => s 47 = .agg #[.int .i64 p2f, .int .i64 p2g]),
      (fun lo hi s W => ∃ q0, s 48 = .tuple #[q0, .bool r1] ∧ PdOs W q0 r0x p1y lo hi),
      (fun lo hi s W => s 43 = s 48),
      (fun lo hi s W => s 49 = cmpV (s 43) 0),
      (fun lo hi s W => s 50 = cmpV (s 43) 1),
      (fun lo hi s W => ∃ g cs, s 12 = .pointer (some ⟨g, 0, none⟩) ∧ lo ≤ g ∧ g < hi ∧ W.heap[g]? = some (.cells cs 70 (0, 0)) ∧ cs.size = 2),
      (fun lo hi s W => ∃ g cs, s 12 = .pointer (some ⟨g, 0, none⟩) ∧ s 49 = .agg cs ∧ lo ≤ g ∧ g < hi ∧ W.heap[g]? = some (.cells cs 70 (0, 0))),
      (fun lo hi s W => s 13 = s 50)] : List (Nat → Nat → (Nat → Value) → World → Prop)).getD i (fun _ _ _ _ => True)) [[], [], [], [2], [0, 1, 2, 3], [0, 1, 2, 3, 4], [0, 1, 2, 3, 4, 5], [0, 1, 2, 3, 4, 5], [], [0, 1, 2, 3, 4, 5, 6, 8], [0, 1, 2, 3, 4, 5, 6, 7, 8, 9]] [0, 1, 2, 3, 4, 5, 6, 7, 8, 8, 10] [[44], [45], [46], [47], [48], [43, 48], [49, 43], [50, 43], [12], [12, 49], [13, 50]] [[], [], [], [], [], [], [], [], [], [8], []] (by kernel_rfl) (by kernel_rfl) ?st ?step ?fin
    case st =>
      clear HSP HIP
      intro i hi lo hi' s W W' h q1 q2 q3 q4 k
      have hi : i < 11 := hi
      clear X X1 CA0 Cx0 Cx1
      rcases (show i = 0 ∨ i = 1 ∨ i = 2 ∨ i = 3 ∨ i = 4 ∨ i = 5 ∨ i = 6 ∨ i = 7 ∨ i = 8 ∨ i = 9 ∨ i = 10 by omega) with rfl | rfl | rfl | rfl | rfl | rfl | rfl | rfl | rfl | rfl | rfl
      · have h : s 44 = .agg #[.slice gx00 p0x.length kx00, .slice gx01 p0y.length kx01, .slice gx02 p0z.length kx02] := h
        show s 44 = .agg #[.slice gx00 p0x.length kx00, .slice gx01 p0y.length kx01, .slice gx02 p0z.length kx02]
        exact h
      · have h : s 45 = .agg #[.slice gx10 p1x.length kx10, .slice gx11 p1y.length kx11] := h
        show s 45 = .agg #[.slice gx10 p1x.length kx10, .slice gx11 p1y.length kx11]
        exact h
      · have h : s 46 = .agg #[.int .i64 p2f, .int .i64 p2g] := h
        show s 46 = .agg #[.int .i64 p2f, .int .i64 p2g]
        exact h
      · have h : s 47 = .agg #[.int .i64 p2f, .int .i64 p2g] := h
        show s 47 = .agg #[.int .i64 p2f, .int .i64 p2g]
        exact h
      · have h : ∃ q0, s 48 = .tuple #[q0, .bool r1] ∧ PdOs W q0 r0x p1y lo hi' := h
        show ∃ q0, s 48 = .tuple #[q0, .bool r1] ∧ PdOs W' q0 r0x p1y lo hi'
        obtain ⟨q, e1, e2⟩ := h; exact ⟨q, e1, e2.on k⟩
      · have h : s 43 = s 48 := h
        show s 43 = s 48
        exact h
      · have h : s 49 = cmpV (s 43) 0 := h
        show s 49 = cmpV (s 43) 0
        exact h
      · have h : s 50 = cmpV (s 43) 1 := h
        show s 50 = cmpV (s 43) 1
        exact h
      · have h : ∃ g cs, s 12 = .pointer (some ⟨g, 0, none⟩) ∧ lo ≤ g ∧ g < hi' ∧ W.heap[g]? = some (.cells cs 70 (0, 0)) ∧ cs.size = 2 := h
        show ∃ g cs, s 12 = .pointer (some ⟨g, 0, none⟩) ∧ lo ≤ g ∧ g < hi' ∧ W'.heap[g]? = some (.cells cs 70 (0, 0)) ∧ cs.size = 2
        obtain ⟨g, cs, e1, e2, e3, e4, e5⟩ := h; exact ⟨g, cs, e1, e2, e3, (k.own g e2 e3 (Array.getElem?_eq_some_iff.1 e4).1).trans e4, e5⟩
      · have h : ∃ g cs, s 12 = .pointer (some ⟨g, 0, none⟩) ∧ s 49 = .agg cs ∧ lo ≤ g ∧ g < hi' ∧ W.heap[g]? = some (.cells cs 70 (0, 0)) := h
        show ∃ g cs, s 12 = .pointer (some ⟨g, 0, none⟩) ∧ s 49 = .agg cs ∧ lo ≤ g ∧ g < hi' ∧ W'.heap[g]? = some (.cells cs 70 (0, 0))
        obtain ⟨g, cs, e1, e2, e3, e4, e5⟩ := h; exact ⟨g, cs, e1, e2, e3, e4, (k.own g e3 e4 (Array.getElem?_eq_some_iff.1 e5).1).trans e5⟩
      · have h : s 13 = s 50 := h
        show s 13 = s 50
        exact h
    case step =>
      intro i hi a W iv hb hsz hdf hrest hanc hivs hap K HK
      have hi : i < 11 := hi
      have HK := hide HK
      have HAN := hide hanc
      have HIV := hide hivs
      have HRS := hide hrest
      have XU := hide (X1.out.up hb)
      have HB := hide hb
      clear hanc hivs hap hrest hb hsz hdf X X1
      rcases (show i = 0 ∨ i = 1 ∨ i = 2 ∨ i = 3 ∨ i = 4 ∨ i = 5 ∨ i = 6 ∨ i = 7 ∨ i = 8 ∨ i = 9 ∨ i = 10 by omega) with rfl | rfl | rfl | rfl | rfl | rfl | rfl | rfl | rfl | rfl | rfl
      · refine wpOp_step (o := _) rfl fun K' hK => ?_
        rw [if_pos (by go_simp)]
        have e1 : a.tmps.getD 10 undef = .pointer (some ⟨bx0, 0, none⟩) := (HRS.out 10 (by decide)).trans rfl
        have c0 : W.cell? ⟨bx0, 0, none⟩ = some (.slice gx00 p0x.length kx00) := XU.out.cell 4 0 rfl rfl
        have c1 : W.cell? ⟨bx0, 1, none⟩ = some (.slice gx01 p0y.length kx01) := XU.out.cell 4 1 rfl rfl
        have c2 : W.cell? ⟨bx0, 2, none⟩ = some (.slice gx02 p0z.length kx02) := XU.out.cell 4 2 rfl rfl
        go_simp
        exact hK _ _ (HK.out _ _ ⟨fun _ => ⟨Below.refl _ _, rfl⟩, fun h => absurd rfl h⟩)
      · refine wpOp_step (o := _) rfl fun K' hK => ?_
        rw [if_pos (by go_simp)]
        have e1 : a.tmps.getD 11 undef = .pointer (some ⟨bx1, 0, none⟩) := (HRS.out 11 (by decide)).trans rfl
        have c0 : W.cell? ⟨bx1, 0, none⟩ = some (.slice gx10 p1x.length kx10) := XU.out.cell 5 0 rfl rfl
        have c1 : W.cell? ⟨bx1, 1, none⟩ = some (.slice gx11 p1y.length kx11) := XU.out.cell 5 1 rfl rfl
        go_simp
        exact hK _ _ (HK.out _ _ ⟨fun _ => ⟨Below.refl _ _, rfl⟩, fun h => absurd rfl h⟩)
      · refine wpOp_step (o := _) rfl fun K' hK => ?_
        rw [if_pos (by go_simp)]
        have e1 : a.tmps.getD 5 undef = .pointer (some ⟨w.heap.size + 1 + 1, 0, none⟩) := (HRS.out 5 (by decide)).trans rfl
        have c0 : W.cell? ⟨w.heap.size + 1 + 1, 0, none⟩ = some (.int .i64 p2f) := XU.out.cell 2 0 rfl rfl
        have c1 : W.cell? ⟨w.heap.size + 1 + 1, 1, none⟩ = some (.int .i64 p2g) := XU.out.cell 2 1 rfl rfl
        go_simp
        exact hK _ _ (HK.out _ _ ⟨fun _ => ⟨Below.refl _ _, rfl⟩, fun h => absurd rfl h⟩)
      · refine wpOp_step (o := _) rfl fun K' hK => ?_
        rw [if_pos (by go_simp)]
        have e1 : a.tmps.getD 46 undef = .agg #[.int .i64 p2f, .int .i64 p2g] := HAN.out 2 (by decide)
        go_simp
        go_at_call 24
        refine (toItem_any _ _ _).mono ?_
        rintro e W' ⟨rfl, hbb⟩
        skip
        exact hK _ _ (HK.out _ _ ⟨fun _ => ⟨hbb, rfl⟩, fun h => absurd rfl h⟩)
      · refine wpOp_step (o := _) rfl fun K' hK => ?_
        rw [if_pos (by go_simp)]
        have e0 : a.tmps.getD 44 undef = .agg #[.slice gx00 p0x.length kx00, .slice gx01 p0y.length kx01, .slice gx02 p0z.length kx02] := HAN.out 0 (by decide)
        have e1 : a.tmps.getD 45 undef = .agg #[.slice gx10 p1x.length kx10, .slice gx11 p1y.length kx11] := HAN.out 1 (by decide)
        have e2 : a.tmps.getD 47 undef = .agg #[.int .i64 p2f, .int .i64 p2g] := HAN.out 3 (by decide)
        have k0 := hide (PD0.out _ _ _ _ (Cx0.out.below HB.out))
        have k1 := hide (PD1.out _ _ _ _ (Cx1.out.below HB.out))
        go_simp
        go_at_call 43
        refine (HIP.out _ _ k0.out _ k1.out).mono ?_
        rintro e W' ⟨q0, rfl, ho, hbb⟩
        skip
        exact hK _ _ (HK.out _ _ ⟨fun _ => ⟨hbb, ⟨_, rfl, ho⟩⟩, fun h => absurd rfl h⟩)
      · refine wpOp_step (o := _) rfl fun K' hK => ?_
        rw [if_pos (by go_simp)]
        obtain ⟨y, e1⟩ : ∃ y, a.tmps.getD 48 undef = y := ⟨_, rfl⟩
        go_simp
        exact hK _ _ (HK.out _ _ ⟨fun _ => ⟨Below.refl _ _, e1.symm⟩, fun h => absurd rfl h⟩)
      · refine wpOp_step (o := _) rfl fun K' hK => ?_
        rw [if_pos (by go_simp)]
        have h0 := HAN.out 4 (by decide)
        obtain ⟨q0, h0, -⟩ : ∃ q0, a.tmps.getD 48 undef = .tuple #[q0, .bool r1] ∧ _ := h0
        have h1 : a.tmps.getD 43 undef = a.tmps.getD 48 undef := HAN.out 5 (by decide)
        rw [h0] at h1
        clear h0
        have h0 := h1
        clear h1
        go_simp
        exact hK _ _ (HK.out _ _ ⟨fun _ => ⟨Below.refl _ _, by show _ = cmpV (a.tmps.getD 43 undef) 0; rw [h0]; rfl⟩, fun h => absurd rfl h⟩)
      · refine wpOp_step (o := _) rfl fun K' hK => ?_
        rw [if_pos (by go_simp)]
        have h0 := HAN.out 4 (by decide)
        obtain ⟨q0, h0, -⟩ : ∃ q0, a.tmps.getD 48 undef = .tuple #[q0, .bool r1] ∧ _ := h0
        have h1 : a.tmps.getD 43 undef = a.tmps.getD 48 undef := HAN.out 5 (by decide)
        rw [h0] at h1
        clear h0
        have h0 := h1
        clear h1
        go_simp
        exact hK _ _ (HK.out _ _ ⟨fun _ => ⟨Below.refl _ _, by show _ = cmpV (a.tmps.getD 43 undef) 1; rw [h0]; rfl⟩, fun h => absurd rfl h⟩)
      · refine wpOp_step (o := _) rfl fun K' hK => ?_
        rw [if_pos (by go_simp)]
        go_simp
        exact hK _ _ (HK.out _ _ ⟨fun _ => ⟨below1 W _, ⟨W.heap.size, _, rfl, Nat.le_refl _, by simp, heap_alloc_new W _, rfl⟩⟩, fun h => absurd rfl h⟩)
      · refine wpOp_step (o := _) rfl fun K' hK => ?_
        rw [if_pos (by go_simp)]
        obtain ⟨g, cs, e1, g1, g2, g3, g4⟩ : ∃ g cs, a.tmps.getD 12 undef = .pointer (some ⟨g, 0, none⟩) ∧ (iv 8).1 ≤ g ∧ g < (iv 8).2 ∧ W.heap[g]? = some (.cells cs 70 (0, 0)) ∧ cs.size = 2 := HAN.out 8 (by decide)
        obtain ⟨q0, h0, o0⟩ : ∃ q0, a.tmps.getD 48 undef = .tuple #[q0, .bool r1] ∧ PdOs W q0 r0x p1y (iv 4).1 (iv 4).2 := HAN.out 4 (by decide)
        obtain ⟨x0, y0, x1, y1, hf⟩ := o0.form
        rw [hf] at h0
        clear hf o0
        have h1 : a.tmps.getD 43 undef = a.tmps.getD 48 undef := HAN.out 5 (by decide)
        rw [h0] at h1
        clear h0
        have h0 := h1
        clear h1
        have h1 : a.tmps.getD 49 undef = cmpV (a.tmps.getD 43 undef) 0 := HAN.out 6 (by decide)
        rw [h0] at h1
        clear h0
        have h0 : a.tmps.getD 49 undef = .agg #[.slice x0 r0x.length y0, .slice x1 p1y.length y1] := h1
        clear h1
        have G3 := hide g3
        obtain ⟨z0, z1, rfl⟩ := size2 g4
        have c0 : W.cell? ⟨g, 0, none⟩ = some z0 := cell_of_row W g 0 _ _ (0, 0) g3
        have f0 : W.frozen? ⟨g, 0, none⟩ = false := frozen_of_row W g 0 _ _ g3
        have c1 : W.cell? ⟨g, 1, none⟩ = some z1 := cell_of_row W g 1 _ _ (0, 0) g3
        have f1 : W.frozen? ⟨g, 1, none⟩ = false := frozen_of_row W g 1 _ _ g3
        clear g3 g4
        go_simp
        exact hK _ _ (HK.out undef _ ⟨fun h => absurd h (by decide), fun _ => ⟨segS2 g1 g2 _ _, ⟨g, _, e1, h0, g1, g2, heap_put2 G3.out rfl _ _⟩, fun j hj => by
          obtain rfl : j = 8 := by simpa using hj
          intro _
          exact ⟨g, _, e1, g1, g2, heap_put2 G3.out rfl _ _, rfl⟩⟩⟩)
      · refine wpOp_step (o := _) rfl fun K' hK => ?_
        rw [if_pos (by go_simp)]
        obtain ⟨y, e1⟩ : ∃ y, a.tmps.getD 50 undef = y := ⟨_, rfl⟩
        go_simp
        exact hK _ _ (HK.out _ _ ⟨fun _ => ⟨Below.refl _ _, e1.symm⟩, fun h => absurd rfl h⟩)
    case fin =>
    intro a u8 iv I
    have hbY := I.below
    have CA0 := hide (CA0.out.below hbY)
    have Cx0 := hide (Cx0.out.below hbY)
    have Cx1 := hide (Cx1.out.below hbY)
    have X0 := X1
    have X := hide (X1.out.up hbY)
    clear X1
    have F0 : slot a 44 = .agg #[.slice gx00 p0x.length kx00, .slice gx01 p0y.length kx01, .slice gx02 p0z.length kx02] := (I.fact 0 (by decide) rfl).2
    have F1 : slot a 45 = .agg #[.slice gx10 p1x.length kx10, .slice gx11 p1y.length kx11] := (I.fact 1 (by decide) rfl).2
    have F2 : slot a 46 = .agg #[.int .i64 p2f, .int .i64 p2g] := (I.fact 2 (by decide) rfl).2
    have F3 : slot a 47 = .agg #[.int .i64 p2f, .int .i64 p2g] := (I.fact 3 (by decide) rfl).2
    have F4 : ∃ q0, slot a 48 = .tuple #[q0, .bool r1] ∧ PdOs u8 q0 r0x p1y (iv 4).1 (iv 4).2 := (I.fact 4 (by decide) rfl).2
    have F5 : slot a 43 = slot a 48 := (I.fact 5 (by decide) rfl).2
    have F6 : slot a 49 = cmpV (slot a 43) 0 := (I.fact 6 (by decide) rfl).2
    have F7 : slot a 50 = cmpV (slot a 43) 1 := (I.fact 7 (by decide) rfl).2
    have F8 : ∃ g cs, slot a 12 = .pointer (some ⟨g, 0, none⟩) ∧ (iv 8).1 ≤ g ∧ g < (iv 8).2 ∧ u8.heap[g]? = some (.cells cs 70 (0, 0)) ∧ cs.size = 2 := (I.fact 8 (by decide) rfl).2
    have F9 : ∃ g cs, slot a 12 = .pointer (some ⟨g, 0, none⟩) ∧ slot a 49 = .agg cs ∧ (iv 8).1 ≤ g ∧ g < (iv 8).2 ∧ u8.heap[g]? = some (.cells cs 70 (0, 0)) := (I.fact 9 (by decide) rfl).2
    have F10 : slot a 13 = slot a 50 := (I.fact 10 (by decide) rfl).2
    obtain ⟨iv4a, iv4b, iv4c⟩ := I.ivs 4 (by decide) rfl rfl
    obtain ⟨iv8a, iv8b, iv8c⟩ := I.ivs 8 (by decide) rfl rfl
    have ap4_8 := I.apart 4 8 (by decide) (by decide) rfl rfl rfl rfl (by decide)
    have hfr := frame_of [44, 45, 46, 47, 48, 43, 49, 50, 12, 13] I.size I.defers (fun s hs => I.rest s (rfDsts_spec (by kernel_rfl) hs))
    skip
    obtain ⟨qG0, E48, CG0⟩ := F4
    obtain ⟨gG00, kG00, gG01, kG01, hf⟩ := CG0.form
    subst hf
    rw [E48] at F5
    rw [F5] at F6
    have F6 : slot a 49 = .agg #[.slice gG00 r0x.length kG00, .slice gG01 p1y.length kG01] := F6
    rw [F5] at F7
    have F7 : slot a 50 = .bool r1 := F7
    obtain ⟨bG0, cs, E12, hv, g1bG0, g2bG0, hcbG0⟩ := F9
    rw [F6] at hv
    obtain rfl : cs = #[.slice gG00 r0x.length kG00, .slice gG01 p1y.length kG01] := by injection hv with hv; exact hv.symm
    clear hv
    rw [F7] at F10
    rw [hfr]
    simp only [List.foldl_cons, List.foldl_nil, List.setIfInBounds_toArray, List.set_cons_succ, List.set_cons_zero, E48, F5, F6, F7, E12, F10]
    generalize slot a 44 = t44
    generalize slot a 45 = t45
    generalize slot a 46 = t46
    generalize slot a 47 = t47
    have XN := Kn.add (Kn.none hbY) hcbG0 (Nat.le_trans iv8a g1bG0) (fun e he => by simp at he)
    have X := hide (Kn.joinR X0.out XN)
    simp only [List.cons_append, List.nil_append] at X
    clear XN
    have NN16 := hide (hbY.size)
    obtain ⟨loG0, hloG0⟩ : ∃ q, q = (iv 4).1 := ⟨_, rfl⟩
    obtain ⟨hiG0, hhiG0⟩ : ∃ q, q = (iv 4).2 := ⟨_, rfl⟩
    rw [← hloG0, ← hhiG0] at CG0
    have hw : u7.heap.size ≤ loG0 := by omega
    have NN17 := hide (hw)
    clear hw
    have hw : hiG0 ≤ u8.heap.size := by omega
    have NN18 := hide (hw)
    clear hw
    have hw : u7.heap.size ≤ bG0 := by omega
    have NN19 := hide (hw)
    clear hw
    have hw : bG0 < u8.heap.size := by omega
    have NN20 := hide (hw)
    clear hw
    have DG0_bG0 := hide (show bG0 < loG0 ∨ hiG0 ≤ bG0 by omega)
    have CG0 := hide CG0
    try clear I
    try clear hfr
    try clear hbY
    try clear X0
    try clear F0
    try clear F1
    try clear F2
    try clear F3
    try clear F4
    try clear F5
    try clear F6
    try clear F7
    try clear F8
    try clear F9
    try clear F10
    try clear E48
    try clear E12
    try clear iv4a
    try clear iv4b
    try clear iv4c
    try clear iv8a
    try clear iv8b
    try clear iv8c
    try clear ap4_8
    try clear g1bG0
    try clear g2bG0
    try clear hcbG0
    try clear hloG0
    try clear hhiG0
    try clear iv a
    have c6_0 : u8.cell? ⟨bG0, 0, none⟩ = some (.slice gG00 r0x.length kG00) := X.out.cell 6 0 rfl rfl
    have c6_1 : u8.cell? ⟨bG0, 1, none⟩ = some (.slice gG01 p1y.length kG01) := X.out.cell 6 1 rfl rfl
    have c3_0 : u8.cell? ⟨bA0, 0, none⟩ = some (.slice gA00 r0x.length kA00) := X.out.cell 3 0 rfl rfl
    have c3_1 : u8.cell? ⟨bA0, 1, none⟩ = some (.slice gA01 p1y.length kA01) := X.out.cell 3 1 rfl rfl
    go_wp2_with fail
    clear c6_0 c6_1 c3_0 c3_1
    go_at_call 41
    refine (eqPending_same _ _ r0x p1y _ _ (Nat.le_refl _) (RD0.out _ _ _ _ CG0.out) (RD0.out _ _ _ _ CA0.out)).mono ?_
    rintro e u9 ⟨rfl, hb⟩
    have X := hide (X.out.up hb)
    have CA0 := hide (CA0.out.below hb)
    have Cx0 := hide (Cx0.out.below hb)
    have Cx1 := hide (Cx1.out.below hb)
    have CG0 := hide (CG0.out.below hb)
    have NN21 := hide (hb.size)
    clear hb
    -- region 14
    go_upto_region 14 with fail
    have X1 := X
    refine wp_region_any (by kernel_rfl) ?_
    refine wpAny_facts (w0 := u9) (fun i => ([(fun lo hi s W => s 60 = .agg #[.slice gx00 p0x.length kx00, .slice gx01 p0y.length kx01, .slice gx02 p0z.length kx02]),
      (fun lo hi s W => s 61 = .agg #[.slice s00 p0x.length c00, .slice s01 p0y.length c01, .slice s02 p0z.length c02]),
      (fun lo hi s W => Oc W (s 62) p0x p0y p0z lo hi),
      (fun lo hi s W => s 63 = .bool true),
      (fun lo hi s W => s 64 = .bool false)] : List (Nat → Nat → (Nat → Value) → World → Prop)).getD i (fun _ _ _ _ => True)) [[], [], [1], [0, 1, 2], [0, 1, 2, 3]] [0, 1, 2, 3, 4] [[60], [61], [62], [63], [64]] [[], [], [], [], []] (by kernel_rfl) (by kernel_rfl) ?st ?step ?fin
    case st =>
      clear HSP HIP
      intro i hi lo hi' s W W' h q1 q2 q3 q4 k
      have hi : i < 5 := hi
      clear X X1 CA0 Cx0 Cx1 CG0
      rcases (show i = 0 ∨ i = 1 ∨ i = 2 ∨ i = 3 ∨ i = 4 by omega) with rfl | rfl | rfl | rfl | rfl
      · have h : s 60 = .agg #[.slice gx00 p0x.length kx00, .slice gx01 p0y.length kx01, .slice gx02 p0z.length kx02] := h
        show s 60 = .agg #[.slice gx00 p0x.length kx00, .slice gx01 p0y.length kx01, .slice gx02 p0z.length kx02]
        exact h
      · have h : s 61 = .agg #[.slice s00 p0x.length c00, .slice s01 p0y.length c01, .slice s02 p0z.length c02] := h
        show s 61 = .agg #[.slice s00 p0x.length c00, .slice s01 p0y.length c01, .slice s02 p0z.length c02]
        exact h
      · have h : Oc W (s 62) p0x p0y p0z lo hi' := h
        show Oc W' (s 62) p0x p0y p0z lo hi'
        exact h.on k
      · have h : s 63 = .bool true := h
        show s 63 = .bool true
        exact h
      · have h : s 64 = .bool false := h
        show s 64 = .bool false
        exact h
    case step =>
      intro i hi a W iv hb hsz hdf hrest hanc hivs hap K HK
      have hi : i < 5 := hi
      have HK := hide HK
      have HAN := hide hanc
      have HIV := hide hivs
      have HRS := hide hrest
      have XU := hide (X1.out.up hb)
      have HB := hide hb
      clear hanc hivs hap hrest hb hsz hdf X X1
      rcases (show i = 0 ∨ i = 1 ∨ i = 2 ∨ i = 3 ∨ i = 4 by omega) with rfl | rfl | rfl | rfl | rfl
      · refine wpOp_step (o := _) rfl fun K' hK => ?_
        rw [if_pos (by go_simp)]
        have e1 : a.tmps.getD 10 undef = .pointer (some ⟨bx0, 0, none⟩) := (HRS.out 10 (by decide)).trans rfl
        have c0 : W.cell? ⟨bx0, 0, none⟩ = some (.slice gx00 p0x.length kx00) := XU.out.cell 4 0 rfl rfl
        have c1 : W.cell? ⟨bx0, 1, none⟩ = some (.slice gx01 p0y.length kx01) := XU.out.cell 4 1 rfl rfl
        have c2 : W.cell? ⟨bx0, 2, none⟩ = some (.slice gx02 p0z.length kx02) := XU.out.cell 4 2 rfl rfl
        go_simp
        exact hK _ _ (HK.out _ _ ⟨fun _ => ⟨Below.refl _ _, rfl⟩, fun h => absurd rfl h⟩)
      · refine wpOp_step (o := _) rfl fun K' hK => ?_
        rw [if_pos (by go_simp)]
        have e1 : a.tmps.getD 3 undef = .pointer (some ⟨w.heap.size, 0, none⟩) := (HRS.out 3 (by decide)).trans rfl
        have c0 : W.cell? ⟨w.heap.size, 0, none⟩ = some (.slice s00 p0x.length c00) := XU.out.cell 0 0 rfl rfl
        have c1 : W.cell? ⟨w.heap.size, 1, none⟩ = some (.slice s01 p0y.length c01) := XU.out.cell 0 1 rfl rfl
        have c2 : W.cell? ⟨w.heap.size, 2, none⟩ = some (.slice s02 p0z.length c02) := XU.out.cell 0 2 rfl rfl
        go_simp
        exact hK _ _ (HK.out _ _ ⟨fun _ => ⟨Below.refl _ _, rfl⟩, fun h => absurd rfl h⟩)
      · refine wpOp_step (o := _) rfl fun K' hK => ?_
        rw [if_pos (by go_simp)]
        have e1 : a.tmps.getD 61 undef = .agg #[.slice s00 p0x.length c00, .slice s01 p0y.length c01, .slice s02 p0z.length c02] := HAN.out 1 (by decide)
        go_simp
        go_at_call 23
        refine (T0.out _ XU.out.below).mono ?_
        rintro e W' ⟨vv, rfl, ho, hbb⟩
        skip
        exact hK _ _ (HK.out _ _ ⟨fun _ => ⟨hbb, ho⟩, fun h => absurd rfl h⟩)
      · refine wpOp_step (o := _) rfl fun K' hK => ?_
        rw [if_pos (by go_simp)]
        have e1 : a.tmps.getD 60 undef = .agg #[.slice gx00 p0x.length kx00, .slice gx01 p0y.length kx01, .slice gx02 p0z.length kx02] := HAN.out 0 (by decide)
        have k1 : Oc W (a.tmps.getD 62 undef) p0x p0y p0z _ _ := HAN.out 2 (by decide)
        obtain ⟨y1, hy1⟩ : ∃ q, a.tmps.getD 62 undef = q := ⟨_, rfl⟩
        rw [hy1] at k1
        have k1 := hide (PD0.out _ _ _ _ k1)
        have k0 := hide (PD0.out _ _ _ _ (Cx0.out.below HB.out))
        go_simp
        go_at_call 14
        refine (eqCracker_same _ _ p0x p0y p0z _ _ (Nat.le_refl _) k0.out k1.out).mono ?_
        rintro e W' ⟨rfl, hbb⟩
        skip
        exact hK _ _ (HK.out _ _ ⟨fun _ => ⟨hbb, rfl⟩, fun h => absurd rfl h⟩)
      · refine wpOp_step (o := _) rfl fun K' hK => ?_
        rw [if_pos (by go_simp)]
        have e1 : a.tmps.getD 63 undef = .bool true := HAN.out 3 (by decide)
        go_simp
        exact hK _ _ (HK.out _ _ ⟨fun _ => ⟨Below.refl _ _, rfl⟩, fun h => absurd rfl h⟩)
    case fin =>
    intro a u10 iv I
    have hbY := I.below
    have CA0 := hide (CA0.out.below hbY)
    have Cx0 := hide (Cx0.out.below hbY)
    have Cx1 := hide (Cx1.out.below hbY)
    have CG0 := hide (CG0.out.below hbY)
    have X0 := X1
    have X := hide (X1.out.up hbY)
    clear X1
    have F0 : slot a 60 = .agg #[.slice gx00 p0x.length kx00, .slice gx01 p0y.length kx01, .slice gx02 p0z.length kx02] := (I.fact 0 (by decide) rfl).2
    have F1 : slot a 61 = .agg #[.slice s00 p0x.length c00, .slice s01 p0y.length c01, .slice s02 p0z.length c02] := (I.fact 1 (by decide) rfl).2
    have F2 : Oc u10 (slot a 62) p0x p0y p0z (iv 2).1 (iv 2).2 := (I.fact 2 (by decide) rfl).2
    have F3 : slot a 63 = .bool true := (I.fact 3 (by decide) rfl).2
    have F4 : slot a 64 = .bool false := (I.fact 4 (by decide) rfl).2
    have hfr := frame_of [60, 61, 62, 63, 64] I.size I.defers (fun s hs => I.rest s (rfDsts_spec (by kernel_rfl) hs))
    rw [hfr]
    simp only [List.foldl_cons, List.foldl_nil, List.setIfInBounds_toArray, List.set_cons_succ, List.set_cons_zero, F4]
    generalize slot a 60 = t60
    generalize slot a 61 = t61
    generalize slot a 62 = t62
    generalize slot a 63 = t63
    have NN22 := hide (hbY.size)
    try clear I
    try clear hfr
    try clear hbY
    try clear X0
    try clear F0
    try clear F1
    try clear F2
    try clear F3
    try clear F4
    try clear iv a
    -- region 16
    go_upto_region 16 with fail
    have X1 := X
    refine wp_region_any (by kernel_rfl) ?_
    refine wpAny_facts (w0 := u10) (fun i => ([(fun lo hi s W => s 65 = .agg #[.slice gx10 p1x.length kx10, .slice gx11 p1y.length kx11]),
      (fun lo hi s W => s 66 = .agg #[.slice s10 p1x.length c10, .slice s11 p1y.length c11]),
      (fun lo hi s W => PdOs W (s 67) p1x p1y lo hi),
      (fun lo hi s W => s 68 = .bool true),
      (fun lo hi s W => s 69 = .bool false)] : List (Nat → Nat → (Nat → Value) → World → Prop)).getD i (fun _ _ _ _ => True)) [[], [], [1], [0, 1, 2], [0, 1, 2, 3]] [0, 1, 2, 3, 4] [[65], [66], [67], [68], [69]] [[], [], [], [], []] (by kernel_rfl) (by kernel_rfl) ?st ?step ?fin
    case st =>
      clear HSP HIP
      intro i hi lo hi' s W W' h q1 q2 q3 q4 k
      have hi : i < 5 := hi
      clear X X1 CA0 Cx0 Cx1 CG0
      rcases (show i = 0 ∨ i = 1 ∨ i = 2 ∨ i = 3 ∨ i = 4 by omega) with rfl | rfl | rfl | rfl | rfl
      · have h : s 65 = .agg #[.slice gx10 p1x.length kx10, .slice gx11 p1y.length kx11] := h
        show s 65 = .agg #[.slice gx10 p1x.length kx10, .slice gx11 p1y.length kx11]
        exact h
      · have h : s 66 = .agg #[.slice s10 p1x.length c10, .slice s11 p1y.length c11] := h
        show s 66 = .agg #[.slice s10 p1x.length c10, .slice s11 p1y.length c11]
        exact h
      · have h : PdOs W (s 67) p1x p1y lo hi' := h
        show PdOs W' (s 67) p1x p1y lo hi'
        exact h.on k
      · have h : s 68 = .bool true := h
        show s 68 = .bool true
        exact h
      · have h : s 69 = .bool false := h
        show s 69 = .bool false
        exact h
    case step =>
      intro i hi a W iv hb hsz hdf hrest hanc hivs hap K HK
      have hi : i < 5 := hi
      have HK := hide HK
      have HAN := hide hanc
      have HIV := hide hivs
      have HRS := hide hrest
      have XU := hide (X1.out.up hb)
      have HB := hide hb
      clear hanc hivs hap hrest hb hsz hdf X X1
      rcases (show i = 0 ∨ i = 1 ∨ i = 2 ∨ i = 3 ∨ i = 4 by omega) with rfl | rfl | rfl | rfl | rfl
      · refine wpOp_step (o := _) rfl fun K' hK => ?_
        rw [if_pos (by go_simp)]
        have e1 : a.tmps.getD 11 undef = .pointer (some ⟨bx1, 0, none⟩) := (HRS.out 11 (by decide)).trans rfl
        have c0 : W.cell? ⟨bx1, 0, none⟩ = some (.slice gx10 p1x.length kx10) := XU.out.cell 5 0 rfl rfl
        have c1 : W.cell? ⟨bx1, 1, none⟩ = some (.slice gx11 p1y.length kx11) := XU.out.cell 5 1 rfl rfl
        go_simp
        exact hK _ _ (HK.out _ _ ⟨fun _ => ⟨Below.refl _ _, rfl⟩, fun h => absurd rfl h⟩)
      · refine wpOp_step (o := _) rfl fun K' hK => ?_
        rw [if_pos (by go_simp)]
        have e1 : a.tmps.getD 4 undef = .pointer (some ⟨w.heap.size + 1, 0, none⟩) := (HRS.out 4 (by decide)).trans rfl
        have c0 : W.cell? ⟨w.heap.size + 1, 0, none⟩ = some (.slice s10 p1x.length c10) := XU.out.cell 1 0 rfl rfl
        have c1 : W.cell? ⟨w.heap.size + 1, 1, none⟩ = some (.slice s11 p1y.length c11) := XU.out.cell 1 1 rfl rfl
        go_simp
        exact hK _ _ (HK.out _ _ ⟨fun _ => ⟨Below.refl _ _, rfl⟩, fun h => absurd rfl h⟩)
      · refine wpOp_step (o := _) rfl fun K' hK => ?_
        rw [if_pos (by go_simp)]
        have e1 : a.tmps.getD 66 undef = .agg #[.slice s10 p1x.length c10, .slice s11 p1y.length c11] := HAN.out 1 (by decide)
        go_simp
        go_at_call 39
        refine (T1.out _ XU.out.below).mono ?_
        rintro e W' ⟨vv, rfl, ho, hbb⟩
        skip
        exact hK _ _ (HK.out _ _ ⟨fun _ => ⟨hbb, ho⟩, fun h => absurd rfl h⟩)
      · refine wpOp_step (o := _) rfl fun K' hK => ?_
        rw [if_pos (by go_simp)]
        have e1 : a.tmps.getD 65 undef = .agg #[.slice gx10 p1x.length kx10, .slice gx11 p1y.length kx11] := HAN.out 0 (by decide)
        have k1 : PdOs W (a.tmps.getD 67 undef) p1x p1y _ _ := HAN.out 2 (by decide)
        obtain ⟨y1, hy1⟩ : ∃ q, a.tmps.getD 67 undef = q := ⟨_, rfl⟩
        rw [hy1] at k1
        have k1 := hide (PD1.out _ _ _ _ k1)
        have k0 := hide (PD1.out _ _ _ _ (Cx1.out.below HB.out))
        go_simp
        go_at_call 41
        refine (eqPending_same _ _ p1x p1y _ _ (Nat.le_refl _) k0.out k1.out).mono ?_
        rintro e W' ⟨rfl, hbb⟩
        skip
        exact hK _ _ (HK.out _ _ ⟨fun _ => ⟨hbb, rfl⟩, fun h => absurd rfl h⟩)
      · refine wpOp_step (o := _) rfl fun K' hK => ?_
        rw [if_pos (by go_simp)]
        have e1 : a.tmps.getD 68 undef = .bool true := HAN.out 3 (by decide)
        go_simp
        exact hK _ _ (HK.out _ _ ⟨fun _ => ⟨Below.refl _ _, rfl⟩, fun h => absurd rfl h⟩)
    case fin =>
    intro a u11 iv I
    have hbY := I.below
    have CA0 := hide (CA0.out.below hbY)
    have Cx0 := hide (Cx0.out.below hbY)
    have Cx1 := hide (Cx1.out.below hbY)
    have CG0 := hide (CG0.out.below hbY)
    have X0 := X1
    have X := hide (X1.out.up hbY)
    clear X1
    have F0 : slot a 65 = .agg #[.slice gx10 p1x.length kx10, .slice gx11 p1y.length kx11] := (I.fact 0 (by decide) rfl).2
    have F1 : slot a 66 = .agg #[.slice s10 p1x.length c10, .slice s11 p1y.length c11] := (I.fact 1 (by decide) rfl).2
    have F2 : PdOs u11 (slot a 67) p1x p1y (iv 2).1 (iv 2).2 := (I.fact 2 (by decide) rfl).2
    have F3 : slot a 68 = .bool true := (I.fact 3 (by decide) rfl).2
    have F4 : slot a 69 = .bool false := (I.fact 4 (by decide) rfl).2
    have hfr := frame_of [65, 66, 67, 68, 69] I.size I.defers (fun s hs => I.rest s (rfDsts_spec (by kernel_rfl) hs))
    rw [hfr]
    simp only [List.foldl_cons, List.foldl_nil, List.setIfInBounds_toArray, List.set_cons_succ, List.set_cons_zero, F4]
    generalize slot a 65 = t65
    generalize slot a 66 = t66
    generalize slot a 67 = t67
    generalize slot a 68 = t68
    have NN23 := hide (hbY.size)
    try clear I
    try clear hfr
    try clear hbY
    try clear X0
    try clear F0
    try clear F1
    try clear F2
    try clear F3
    try clear F4
    try clear iv a
    have c4_0 : u11.cell? ⟨bx0, 0, none⟩ = some (.slice gx00 p0x.length kx00) := X.out.cell 4 0 rfl rfl
    have c4_1 : u11.cell? ⟨bx0, 1, none⟩ = some (.slice gx01 p0y.length kx01) := X.out.cell 4 1 rfl rfl
    have c4_2 : u11.cell? ⟨bx0, 2, none⟩ = some (.slice gx02 p0z.length kx02) := X.out.cell 4 2 rfl rfl
    go_wp2_with fail
    clear c4_0 c4_1 c4_2
    go_at_call 19
    refine (HA0.out _ _ _ _ Cx0.out).mono ?_
    rintro e u12 ⟨rfl, ho, s⟩
    have qN0 := N0.out
    have qN1 := N1.out
    have qN2 := N2.out
    have qNN3 := NN3.out
    have qNN4 := NN4.out
    have qNN5 := NN5.out
    have qNN6 := NN6.out
    have qNN7 := NN7.out
    have qNN8 := NN8.out
    have qNX0a := NX0a.out
    have qNX0b := NX0b.out
    have qNN11 := NN11.out
    have qNN12 := NN12.out
    have qNX1a := NX1a.out
    have qNX1b := NX1b.out
    have qNN15 := NN15.out
    have qNN16 := NN16.out
    have qNN17 := NN17.out
    have qNN18 := NN18.out
    have qNN19 := NN19.out
    have qNN20 := NN20.out
    have qNN21 := NN21.out
    have qNN22 := NN22.out
    have qNN23 := NN23.out
    have tA0 := CA0.out.top.1
    have tx0 := Cx0.out.top.1
    have tx1 := Cx1.out.top.1
    have tG0 := CG0.out.top.1
    have X := hide (X.out.seg s (by omega) (by simp; omega))
    have CA0 := hide (CA0.out.seg s (by omega))
    have Cx1 := hide (Cx1.out.seg s (by omega))
    have CG0 := hide (CG0.out.seg s (by omega))
    have hbs := s.below.size
    clear s qN0 qN1 qN2 qNN3 qNN4 qNN5 qNN6 qNN7 qNN8 qNX0a qNX0b qNN11 qNN12 qNX1a qNX1b qNN15 qNN16 qNN17 qNN18 qNN19 qNN20 qNN21 qNN22 qNN23  tA0 tx0 tx1 tG0
    have NN24 := hide hbs
    clear hbs
    clear ho Cx0
    have c5_0 : u12.cell? ⟨bx1, 0, none⟩ = some (.slice gx10 p1x.length kx10) := X.out.cell 5 0 rfl rfl
    have c5_1 : u12.cell? ⟨bx1, 1, none⟩ = some (.slice gx11 p1y.length kx11) := X.out.cell 5 1 rfl rfl
    go_wp2_with fail
    clear c5_0 c5_1
    go_at_call 44
    refine (HA1.out _ _ _ _ Cx1.out).mono ?_
    rintro e u13 ⟨rfl, ho, s⟩
    have qN0 := N0.out
    have qN1 := N1.out
    have qN2 := N2.out
    have qNN3 := NN3.out
    have qNN4 := NN4.out
    have qNN5 := NN5.out
    have qNN6 := NN6.out
    have qNN7 := NN7.out
    have qNN8 := NN8.out
    have qNX0a := NX0a.out
    have qNX0b := NX0b.out
    have qNN11 := NN11.out
    have qNN12 := NN12.out
    have qNX1a := NX1a.out
    have qNX1b := NX1b.out
    have qNN15 := NN15.out
    have qNN16 := NN16.out
    have qNN17 := NN17.out
    have qNN18 := NN18.out
    have qNN19 := NN19.out
    have qNN20 := NN20.out
    have qNN21 := NN21.out
    have qNN22 := NN22.out
    have qNN23 := NN23.out
    have qNN24 := NN24.out
    have tA0 := CA0.out.top.1
    have tx1 := Cx1.out.top.1
    have tG0 := CG0.out.top.1
    have X := hide (X.out.seg s (by omega) (by simp; omega))
    have CA0 := hide (CA0.out.seg s (by omega))
    have CG0 := hide (CG0.out.seg s (by omega))
    have hbs := s.below.size
    clear s qN0 qN1 qN2 qNN3 qNN4 qNN5 qNN6 qNN7 qNN8 qNX0a qNX0b qNN11 qNN12 qNX1a qNX1b qNN15 qNN16 qNN17 qNN18 qNN19 qNN20 qNN21 qNN22 qNN23 qNN24  tA0 tx1 tG0
    have NN25 := hide hbs
    clear hbs
    clear ho Cx1
    have c6_0 : u13.cell? ⟨bG0, 0, none⟩ = some (.slice gG00 r0x.length kG00) := X.out.cell 6 0 rfl rfl
    have c6_1 : u13.cell? ⟨bG0, 1, none⟩ = some (.slice gG01 p1y.length kG01) := X.out.cell 6 1 rfl rfl
    have c3_0 : u13.cell? ⟨bA0, 0, none⟩ = some (.slice gA00 r0x.length kA00) := X.out.cell 3 0 rfl rfl
    have c3_1 : u13.cell? ⟨bA0, 1, none⟩ = some (.slice gA01 p1y.length kA01) := X.out.cell 3 1 rfl rfl
    go_wp2_with fail
    clear c6_0 c6_1 c3_0 c3_1
    go_at_call 41
    refine (eqPending_same _ _ r0x p1y _ _ (Nat.le_refl _) (RD0.out _ _ _ _ CG0.out) (RD0.out _ _ _ _ CA0.out)).mono ?_
    rintro e u14 ⟨rfl, hb⟩
    have X := hide (X.out.up hb)
    have CA0 := hide (CA0.out.below hb)
    have CG0 := hide (CG0.out.below hb)
    have NN26 := hide (hb.size)
    clear hb
    have c6_0 : u14.cell? ⟨bG0, 0, none⟩ = some (.slice gG00 r0x.length kG00) := X.out.cell 6 0 rfl rfl
    have c6_1 : u14.cell? ⟨bG0, 1, none⟩ = some (.slice gG01 p1y.length kG01) := X.out.cell 6 1 rfl rfl
    go_wp2_with fail
    clear c6_0 c6_1
    go_at_call 44
    refine (HM0.out _ _ _ _ CG0.out).mono ?_
    rintro e u15 ⟨rfl, ho, s⟩
    have qN0 := N0.out
    have qN1 := N1.out
    have qN2 := N2.out
    have qNN3 := NN3.out
    have qNN4 := NN4.out
    have qNN5 := NN5.out
    have qNN6 := NN6.out
    have qNN7 := NN7.out
    have qNN8 := NN8.out
    have qNX0a := NX0a.out
    have qNX0b := NX0b.out
    have qNN11 := NN11.out
    have qNN12 := NN12.out
    have qNX1a := NX1a.out
    have qNX1b := NX1b.out
    have qNN15 := NN15.out
    have qNN16 := NN16.out
    have qNN17 := NN17.out
    have qNN18 := NN18.out
    have qNN19 := NN19.out
    have qNN20 := NN20.out
    have qNN21 := NN21.out
    have qNN22 := NN22.out
    have qNN23 := NN23.out
    have qNN24 := NN24.out
    have qNN25 := NN25.out
    have qNN26 := NN26.out
    have qDG0_bG0 := DG0_bG0.out
    have tA0 := CA0.out.top.1
    have tG0 := CG0.out.top.1
    have X := hide (X.out.seg s (by omega) (by simp; omega))
    have CA0 := hide (CA0.out.seg s (by omega))
    have hbs := s.below.size
    clear s qN0 qN1 qN2 qNN3 qNN4 qNN5 qNN6 qNN7 qNN8 qNX0a qNX0b qNN11 qNN12 qNX1a qNX1b qNN15 qNN16 qNN17 qNN18 qNN19 qNN20 qNN21 qNN22 qNN23 qNN24 qNN25 qNN26 qDG0_bG0 tA0 tG0
    have NN27 := hide hbs
    clear hbs
    have CG0 := hide ho
    clear ho
    have c6_0 : u15.cell? ⟨bG0, 0, none⟩ = some (.slice gG00 r0x.length kG00) := X.out.cell 6 0 rfl rfl
    have c6_1 : u15.cell? ⟨bG0, 1, none⟩ = some (.slice gG01 p1y.length kG01) := X.out.cell 6 1 rfl rfl
    go_wp2_with fail
    clear c6_0 c6_1
    go_at_call 45
    refine (HH0.out _ _ _ _ CG0.out).mono ?_
    rintro e u16 ⟨rfl, hb⟩
    have X := hide (X.out.up hb)
    have CA0 := hide (CA0.out.below hb)
    have CG0 := hide (CG0.out.below hb)
    have NN28 := hide (hb.size)
    clear hb
    -- region 31
    go_upto_region 31 with fail
    have X1 := X
    refine wp_region_any (by kernel_rfl) ?_
    refine wpAny_facts (w0 := u16) (fun i => ([(fun lo hi s W => s 101 = .agg #[.slice s00 p0x.length c00, .slice s01 p0y.length c01, .slice s02 p0z.length c02]),
      (fun lo hi s W => Oc W (s 102) p0x p0y p0z lo hi),
      (fun lo hi s W => s 103 = .agg #[.slice s10 p1x.length c10, .slice s11 p1y.length c11]),
      (fun lo hi s W => PdOs W (s 104) p1x p1y lo hi),
      (fun lo hi s W => s 105 = .agg #[.int .i64 p2f, .int .i64 p2g]),
      (fun lo hi s W => s 106 = .agg #[.int .i64 p2f, .int .i64 p2g]),
      (fun lo hi s W => ∃ q0, s 107 = .tuple #[q0, .bool r1] ∧ PdOs W q0 r0x p1y lo hi),
      (fun lo hi s W => s 100 = s 107),
      (fun lo hi s W => s 108 = cmpV (s 100) 0),
      (fun lo hi s W => s 109 = cmpV (s 100) 1),
      (fun lo hi s W => ∃ g cs, s 17 = .pointer (some ⟨g, 0, none⟩) ∧ lo ≤ g ∧ g < hi ∧ W.heap[g]? = some (.cells cs 70 (0, 0)) ∧ cs.size = 2),
      (fun lo hi s W => ∃ g cs, s 17 = .pointer (some ⟨g, 0, none⟩) ∧ s 108 = .agg cs ∧ lo ≤ g ∧ g < hi ∧ W.heap[g]? = some (.cells cs 70 (0, 0))),
      (fun lo hi s W => s 18 = s 109)] : List (Nat → Nat → (Nat → Value) → World → Prop)).getD i (fun _ _ _ _ => True)) [[], [0], [], [0, 1, 2], [], [0, 1, 2, 3, 4], [0, 1, 2, 3, 4, 5], [0, 1, 2, 3, 4, 5, 6], [0, 1, 2, 3, 4, 5, 6, 7], [0, 1, 2, 3, 4, 5, 6, 7], [], [0, 1, 2, 3, 4, 5, 6, 7, 8, 10], [0, 1, 2, 3, 4, 5, 6, 7, 8, 9, 10, 11]] [0, 1, 2, 3, 4, 5, 6, 7, 8, 9, 10, 10, 12] [[101], [102], [103], [104], [105], [106], [107], [100, 107], [108, 100], [109, 100], [17], [17, 108], [18, 109]] [[], [], [], [], [], [], [], [], [], [], [], [10], []] (by kernel_rfl) (by kernel_rfl) ?st ?step ?fin
    case st =>
      clear HSP HIP
      intro i hi lo hi' s W W' h q1 q2 q3 q4 k
      have hi : i < 13 := hi
      clear X X1 CA0 CG0
      rcases (show i = 0 ∨ i = 1 ∨ i = 2 ∨ i = 3 ∨ i = 4 ∨ i = 5 ∨ i = 6 ∨ i = 7 ∨ i = 8 ∨ i = 9 ∨ i = 10 ∨ i = 11 ∨ i = 12 by omega) with rfl | rfl | rfl | rfl | rfl | rfl | rfl | rfl | rfl | rfl | rfl | rfl | rfl
      · have h : s 101 = .agg #[.slice s00 p0x.length c00, .slice s01 p0y.length c01, .slice s02 p0z.length c02] := h
        show s 101 = .agg #[.slice s00 p0x.length c00, .slice s01 p0y.length c01, .slice s02 p0z.length c02]
        exact h
      · have h : Oc W (s 102) p0x p0y p0z lo hi' := h
        show Oc W' (s 102) p0x p0y p0z lo hi'
        exact h.on k
      · have h : s 103 = .agg #[.slice s10 p1x.length c10, .slice s11 p1y.length c11] := h
        show s 103 = .agg #[.slice s10 p1x.length c10, .slice s11 p1y.length c11]
        exact h
      · have h : PdOs W (s 104) p1x p1y lo hi' := h
        show PdOs W' (s 104) p1x p1y lo hi'
        exact h.on k
      · have h : s 105 = .agg #[.int .i64 p2f, .int .i64 p2g] := h
        show s 105 = .agg #[.int .i64 p2f, .int .i64 p2g]
        exact h
      · have h : s 106 = .agg #[.int .i64 p2f, .int .i64 p2g] := h
        show s 106 = .agg #[.int .i64 p2f, .int .i64 p2g]
        exact h
      · have h : ∃ q0, s 107 = .tuple #[q0, .bool r1] ∧ PdOs W q0 r0x p1y lo hi' := h
        show ∃ q0, s 107 = .tuple #[q0, .bool r1] ∧ PdOs W' q0 r0x p1y lo hi'
        obtain ⟨q, e1, e2⟩ := h; exact ⟨q, e1, e2.on k⟩
      · have h : s 100 = s 107 := h
        show s 100 = s 107
        exact h
      · have h : s 108 = cmpV (s 100) 0 := h
        show s 108 = cmpV (s 100) 0
        exact h
      · have h : s 109 = cmpV (s 100) 1 := h
        show s 109 = cmpV (s 100) 1
        exact h
      · have h : ∃ g cs, s 17 = .pointer (some ⟨g, 0, none⟩) ∧ lo ≤ g ∧ g < hi' ∧ W.heap[g]? = some (.cells cs 70 (0, 0)) ∧ cs.size = 2 := h
        show ∃ g cs, s 17 = .pointer (some ⟨g, 0, none⟩) ∧ lo ≤ g ∧ g < hi' ∧ W'.heap[g]? = some (.cells cs 70 (0, 0)) ∧ cs.size = 2
        obtain ⟨g, cs, e1, e2, e3, e4, e5⟩ := h; exact ⟨g, cs, e1, e2, e3, (k.own g e2 e3 (Array.getElem?_eq_some_iff.1 e4).1).trans e4, e5⟩
      · have h : ∃ g cs, s 17 = .pointer (some ⟨g, 0, none⟩) ∧ s 108 = .agg cs ∧ lo ≤ g ∧ g < hi' ∧ W.heap[g]? = some (.cells cs 70 (0, 0)) := h
        show ∃ g cs, s 17 = .pointer (some ⟨g, 0, none⟩) ∧ s 108 = .agg cs ∧ lo ≤ g ∧ g < hi' ∧ W'.heap[g]? = some (.cells cs 70 (0, 0))
        obtain ⟨g, cs, e1, e2, e3, e4, e5⟩ := h; exact ⟨g, cs, e1, e2, e3, e4, (k.own g e3 e4 (Array.getElem?_eq_some_iff.1 e5).1).trans e5⟩
      · have h : s 18 = s 109 := h
        show s 18 = s 109
        exact h
    case step =>
      intro i hi a W iv hb hsz hdf hrest hanc hivs hap K HK
      have hi : i < 13 := hi
      have HK := hide HK
      have HAN := hide hanc
      have HIV := hide hivs
      have HRS := hide hrest
      have XU := hide (X1.out.up hb)
      have HB := hide hb
      clear hanc hivs hap hrest hb hsz hdf X X1
      rcases (show i = 0 ∨ i = 1 ∨ i = 2 ∨ i = 3 ∨ i = 4 ∨ i = 5 ∨ i = 6 ∨ i = 7 ∨ i = 8 ∨ i = 9 ∨ i = 10 ∨ i = 11 ∨ i = 12 by omega) with rfl | rfl | rfl | rfl | rfl | rfl | rfl | rfl | rfl | rfl | rfl | rfl | rfl
      · refine wpOp_step (o := _) rfl fun K' hK => ?_
        rw [if_pos (by go_simp)]
        have e1 : a.tmps.getD 3 undef = .pointer (some ⟨w.heap.size, 0, none⟩) := (HRS.out 3 (by decide)).trans rfl
        have c0 : W.cell? ⟨w.heap.size, 0, none⟩ = some (.slice s00 p0x.length c00) := XU.out.cell 0 0 rfl rfl
        have c1 : W.cell? ⟨w.heap.size, 1, none⟩ = some (.slice s01 p0y.length c01) := XU.out.cell 0 1 rfl rfl
        have c2 : W.cell? ⟨w.heap.size, 2, none⟩ = some (.slice s02 p0z.length c02) := XU.out.cell 0 2 rfl rfl
        go_simp
        exact hK _ _ (HK.out _ _ ⟨fun _ => ⟨Below.refl _ _, rfl⟩, fun h => absurd rfl h⟩)
      · refine wpOp_step (o := _) rfl fun K' hK => ?_
        rw [if_pos (by go_simp)]
        have e1 : a.tmps.getD 101 undef = .agg #[.slice s00 p0x.length c00, .slice s01 p0y.length c01, .slice s02 p0z.length c02] := HAN.out 0 (by decide)
        go_simp
        go_at_call 23
        refine (T0.out _ XU.out.below).mono ?_
        rintro e W' ⟨vv, rfl, ho, hbb⟩
        skip
        exact hK _ _ (HK.out _ _ ⟨fun _ => ⟨hbb, ho⟩, fun h => absurd rfl h⟩)
      · refine wpOp_step (o := _) rfl fun K' hK => ?_
        rw [if_pos (by go_simp)]
        have e1 : a.tmps.getD 4 undef = .pointer (some ⟨w.heap.size + 1, 0, none⟩) := (HRS.out 4 (by decide)).trans rfl
        have c0 : W.cell? ⟨w.heap.size + 1, 0, none⟩ = some (.slice s10 p1x.length c10) := XU.out.cell 1 0 rfl rfl
        have c1 : W.cell? ⟨w.heap.size + 1, 1, none⟩ = some (.slice s11 p1y.length c11) := XU.out.cell 1 1 rfl rfl
        go_simp
        exact hK _ _ (HK.out _ _ ⟨fun _ => ⟨Below.refl _ _, rfl⟩, fun h => absurd rfl h⟩)
      · refine wpOp_step (o := _) rfl fun K' hK => ?_
        rw [if_pos (by go_simp)]
        have e1 : a.tmps.getD 103 undef = .agg #[.slice s10 p1x.length c10, .slice s11 p1y.length c11] := HAN.out 2 (by decide)
        go_simp
        go_at_call 39
        refine (T1.out _ XU.out.below).mono ?_
        rintro e W' ⟨vv, rfl, ho, hbb⟩
        skip
        exact hK _ _ (HK.out _ _ ⟨fun _ => ⟨hbb, ho⟩, fun h => absurd rfl h⟩)
      · refine wpOp_step (o := _) rfl fun K' hK => ?_
        rw [if_pos (by go_simp)]
        have e1 : a.tmps.getD 5 undef = .pointer (some ⟨w.heap.size + 1 + 1, 0, none⟩) := (HRS.out 5 (by decide)).trans rfl
        have c0 : W.cell? ⟨w.heap.size + 1 + 1, 0, none⟩ = some (.int .i64 p2f) := XU.out.cell 2 0 rfl rfl
        have c1 : W.cell? ⟨w.heap.size + 1 + 1, 1, none⟩ = some (.int .i64 p2g) := XU.out.cell 2 1 rfl rfl
        go_simp
        exact hK _ _ (HK.out _ _ ⟨fun _ => ⟨Below.refl _ _, rfl⟩, fun h => absurd rfl h⟩)
      · refine wpOp_step (o := _) rfl fun K' hK => ?_
        rw [if_pos (by go_simp)]
        have e1 : a.tmps.getD 105 undef = .agg #[.int .i64 p2f, .int .i64 p2g] := HAN.out 4 (by decide)
        go_simp
        go_at_call 24
        refine (toItem_any _ _ _).mono ?_
        rintro e W' ⟨rfl, hbb⟩
        skip
        exact hK _ _ (HK.out _ _ ⟨fun _ => ⟨hbb, rfl⟩, fun h => absurd rfl h⟩)
      · refine wpOp_step (o := _) rfl fun K' hK => ?_
        rw [if_pos (by go_simp)]
        have e2 : a.tmps.getD 106 undef = .agg #[.int .i64 p2f, .int .i64 p2g] := HAN.out 5 (by decide)
        have k0 : Oc W (a.tmps.getD 102 undef) p0x p0y p0z _ _ := HAN.out 1 (by decide)
        obtain ⟨y0, hy0⟩ : ∃ q, a.tmps.getD 102 undef = q := ⟨_, rfl⟩
        rw [hy0] at k0
        have k0 := hide (PD0.out _ _ _ _ k0)
        have k1 : PdOs W (a.tmps.getD 104 undef) p1x p1y _ _ := HAN.out 3 (by decide)
        obtain ⟨y1, hy1⟩ : ∃ q, a.tmps.getD 104 undef = q := ⟨_, rfl⟩
        rw [hy1] at k1
        have k1 := hide (PD1.out _ _ _ _ k1)
        go_simp
        go_at_call 43
        refine (HIP.out _ _ k0.out _ k1.out).mono ?_
        rintro e W' ⟨q0, rfl, ho, hbb⟩
        skip
        exact hK _ _ (HK.out _ _ ⟨fun _ => ⟨hbb, ⟨_, rfl, ho⟩⟩, fun h => absurd rfl h⟩)
      · refine wpOp_step (o := _) rfl fun K' hK => ?_
        rw [if_pos (by go_simp)]
        obtain ⟨y, e1⟩ : ∃ y, a.tmps.getD 107 undef = y := ⟨_, rfl⟩
        go_simp
        exact hK _ _ (HK.out _ _ ⟨fun _ => ⟨Below.refl _ _, e1.symm⟩, fun h => absurd rfl h⟩)
      · refine wpOp_step (o := _) rfl fun K' hK => ?_
        rw [if_pos (by go_simp)]
        have h0 := HAN.out 6 (by decide)
        obtain ⟨q0, h0, -⟩ : ∃ q0, a.tmps.getD 107 undef = .tuple #[q0, .bool r1] ∧ _ := h0
        have h1 : a.tmps.getD 100 undef = a.tmps.getD 107 undef := HAN.out 7 (by decide)
        rw [h0] at h1
        clear h0
        have h0 := h1
        clear h1
        go_simp
        exact hK _ _ (HK.out _ _ ⟨fun _ => ⟨Below.refl _ _, by show _ = cmpV (a.tmps.getD 100 undef) 0; rw [h0]; rfl⟩, fun h => absurd rfl h⟩)
      · refine wpOp_step (o := _) rfl fun K' hK => ?_
        rw [if_pos (by go_simp)]
        have h0 := HAN.out 6 (by decide)
        obtain ⟨q0, h0, -⟩ : ∃ q0, a.tmps.getD 107 undef = .tuple #[q0, .bool r1] ∧ _ := h0
        have h1 : a.tmps.getD 100 undef = a.tmps.getD 107 undef := HAN.out 7 (by decide)
        rw [h0] at h1
        clear h0
        have h0 := h1
        clear h1
        go_simp
        exact hK _ _ (HK.out _ _ ⟨fun _ => ⟨Below.refl _ _, by show _ = cmpV (a.tmps.getD 100 undef) 1; rw [h0]; rfl⟩, fun h => absurd rfl h⟩)
      · refine wpOp_step (o := _) rfl fun K' hK => ?_
        rw [if_pos (by go_simp)]
        go_simp
        exact hK _ _ (HK.out _ _ ⟨fun _ => ⟨below1 W _, ⟨W.heap.size, _, rfl, Nat.le_refl _, by simp, heap_alloc_new W _, rfl⟩⟩, fun h => absurd rfl h⟩)
      · refine wpOp_step (o := _) rfl fun K' hK => ?_
        rw [if_pos (by go_simp)]
        obtain ⟨g, cs, e1, g1, g2, g3, g4⟩ : ∃ g cs, a.tmps.getD 17 undef = .pointer (some ⟨g, 0, none⟩) ∧ (iv 10).1 ≤ g ∧ g < (iv 10).2 ∧ W.heap[g]? = some (.cells cs 70 (0, 0)) ∧ cs.size = 2 := HAN.out 10 (by decide)
        obtain ⟨q0, h0, o0⟩ : ∃ q0, a.tmps.getD 107 undef = .tuple #[q0, .bool r1] ∧ PdOs W q0 r0x p1y (iv 6).1 (iv 6).2 := HAN.out 6 (by decide)
        obtain ⟨x0, y0, x1, y1, hf⟩ := o0.form
        rw [hf] at h0
        clear hf o0
        have h1 : a.tmps.getD 100 undef = a.tmps.getD 107 undef := HAN.out 7 (by decide)
        rw [h0] at h1
        clear h0
        have h0 := h1
        clear h1
        have h1 : a.tmps.getD 108 undef = cmpV (a.tmps.getD 100 undef) 0 := HAN.out 8 (by decide)
        rw [h0] at h1
        clear h0
        have h0 : a.tmps.getD 108 undef = .agg #[.slice x0 r0x.length y0, .slice x1 p1y.length y1] := h1
        clear h1
        have G3 := hide g3
        obtain ⟨z0, z1, rfl⟩ := size2 g4
        have c0 : W.cell? ⟨g, 0, none⟩ = some z0 := cell_of_row W g 0 _ _ (0, 0) g3
        have f0 : W.frozen? ⟨g, 0, none⟩ = false := frozen_of_row W g 0 _ _ g3
        have c1 : W.cell? ⟨g, 1, none⟩ = some z1 := cell_of_row W g 1 _ _ (0, 0) g3
        have f1 : W.frozen? ⟨g, 1, none⟩ = false := frozen_of_row W g 1 _ _ g3
        clear g3 g4
        go_simp
        exact hK _ _ (HK.out undef _ ⟨fun h => absurd h (by decide), fun _ => ⟨segS2 g1 g2 _ _, ⟨g, _, e1, h0, g1, g2, heap_put2 G3.out rfl _ _⟩, fun j hj => by
          obtain rfl : j = 10 := by simpa using hj
          intro _
          exact ⟨g, _, e1, g1, g2, heap_put2 G3.out rfl _ _, rfl⟩⟩⟩)
      · refine wpOp_step (o := _) rfl fun K' hK => ?_
        rw [if_pos (by go_simp)]
        obtain ⟨y, e1⟩ : ∃ y, a.tmps.getD 109 undef = y := ⟨_, rfl⟩
        go_simp
        exact hK _ _ (HK.out _ _ ⟨fun _ => ⟨Below.refl _ _, e1.symm⟩, fun h => absurd rfl h⟩)
    case fin =>
    intro a u17 iv I
    have hbY := I.below
    have CA0 := hide (CA0.out.below hbY)
    have CG0 := hide (CG0.out.below hbY)
    have X0 := X1
    have X := hide (X1.out.up hbY)
    clear X1
    have F0 : slot a 101 = .agg #[.slice s00 p0x.length c00, .slice s01 p0y.length c01, .slice s02 p0z.length c02] := (I.fact 0 (by decide) rfl).2
    have F1 : Oc u17 (slot a 102) p0x p0y p0z (iv 1).1 (iv 1).2 := (I.fact 1 (by decide) rfl).2
    have F2 : slot a 103 = .agg #[.slice s10 p1x.length c10, .slice s11 p1y.length c11] := (I.fact 2 (by decide) rfl).2
    have F3 : PdOs u17 (slot a 104) p1x p1y (iv 3).1 (iv 3).2 := (I.fact 3 (by decide) rfl).2
    have F4 : slot a 105 = .agg #[.int .i64 p2f, .int .i64 p2g] := (I.fact 4 (by decide) rfl).2
    have F5 : slot a 106 = .agg #[.int .i64 p2f, .int .i64 p2g] := (I.fact 5 (by decide) rfl).2
    have F6 : ∃ q0, slot a 107 = .tuple #[q0, .bool r1] ∧ PdOs u17 q0 r0x p1y (iv 6).1 (iv 6).2 := (I.fact 6 (by decide) rfl).2
    have F7 : slot a 100 = slot a 107 := (I.fact 7 (by decide) rfl).2
    have F8 : slot a 108 = cmpV (slot a 100) 0 := (I.fact 8 (by decide) rfl).2
    have F9 : slot a 109 = cmpV (slot a 100) 1 := (I.fact 9 (by decide) rfl).2
    have F10 : ∃ g cs, slot a 17 = .pointer (some ⟨g, 0, none⟩) ∧ (iv 10).1 ≤ g ∧ g < (iv 10).2 ∧ u17.heap[g]? = some (.cells cs 70 (0, 0)) ∧ cs.size = 2 := (I.fact 10 (by decide) rfl).2
    have F11 : ∃ g cs, slot a 17 = .pointer (some ⟨g, 0, none⟩) ∧ slot a 108 = .agg cs ∧ (iv 10).1 ≤ g ∧ g < (iv 10).2 ∧ u17.heap[g]? = some (.cells cs 70 (0, 0)) := (I.fact 11 (by decide) rfl).2
    have F12 : slot a 18 = slot a 109 := (I.fact 12 (by decide) rfl).2
    obtain ⟨iv6a, iv6b, iv6c⟩ := I.ivs 6 (by decide) rfl rfl
    obtain ⟨iv10a, iv10b, iv10c⟩ := I.ivs 10 (by decide) rfl rfl
    have ap6_10 := I.apart 6 10 (by decide) (by decide) rfl rfl rfl rfl (by decide)
    have hfr := frame_of [101, 102, 103, 104, 105, 106, 107, 100, 108, 109, 17, 18] I.size I.defers (fun s hs => I.rest s (rfDsts_spec (by kernel_rfl) hs))
    skip
    obtain ⟨qH0, E107, CH0⟩ := F6
    obtain ⟨gH00, kH00, gH01, kH01, hf⟩ := CH0.form
    subst hf
    rw [E107] at F7
    rw [F7] at F8
    have F8 : slot a 108 = .agg #[.slice gH00 r0x.length kH00, .slice gH01 p1y.length kH01] := F8
    rw [F7] at F9
    have F9 : slot a 109 = .bool r1 := F9
    obtain ⟨bH0, cs, E17, hv, g1bH0, g2bH0, hcbH0⟩ := F11
    rw [F8] at hv
    obtain rfl : cs = #[.slice gH00 r0x.length kH00, .slice gH01 p1y.length kH01] := by injection hv with hv; exact hv.symm
    clear hv
    rw [F9] at F12
    rw [hfr]
    simp only [List.foldl_cons, List.foldl_nil, List.setIfInBounds_toArray, List.set_cons_succ, List.set_cons_zero, E107, F7, F8, F9, E17, F12]
    generalize slot a 101 = t101
    generalize slot a 102 = t102
    generalize slot a 103 = t103
    generalize slot a 104 = t104
    generalize slot a 105 = t105
    generalize slot a 106 = t106
    have XN := Kn.add (Kn.none hbY) hcbH0 (Nat.le_trans iv10a g1bH0) (fun e he => by simp at he)
    have X := hide (Kn.joinR X0.out XN)
    simp only [List.cons_append, List.nil_append] at X
    clear XN
    have NN29 := hide (hbY.size)
    obtain ⟨loH0, hloH0⟩ : ∃ q, q = (iv 6).1 := ⟨_, rfl⟩
    obtain ⟨hiH0, hhiH0⟩ : ∃ q, q = (iv 6).2 := ⟨_, rfl⟩
    rw [← hloH0, ← hhiH0] at CH0
    have hw : u16.heap.size ≤ loH0 := by omega
    have NN30 := hide (hw)
    clear hw
    have hw : hiH0 ≤ u17.heap.size := by omega
    have NN31 := hide (hw)
    clear hw
    have hw : u16.heap.size ≤ bH0 := by omega
    have NN32 := hide (hw)
    clear hw
    have hw : bH0 < u17.heap.size := by omega
    have NN33 := hide (hw)
    clear hw
    have DH0_bH0 := hide (show bH0 < loH0 ∨ hiH0 ≤ bH0 by omega)
    have CH0 := hide CH0
    try clear I
    try clear hfr
    try clear hbY
    try clear X0
    try clear F0
    try clear F1
    try clear F2
    try clear F3
    try clear F4
    try clear F5
    try clear F6
    try clear F7
    try clear F8
    try clear F9
    try clear F10
    try clear F11
    try clear F12
    try clear E107
    try clear E17
    try clear iv6a
    try clear iv6b
    try clear iv6c
    try clear iv10a
    try clear iv10b
    try clear iv10c
    try clear ap6_10
    try clear g1bH0
    try clear g2bH0
    try clear hcbH0
    try clear hloH0
    try clear hhiH0
    try clear iv a
    have c7_0 : u17.cell? ⟨bH0, 0, none⟩ = some (.slice gH00 r0x.length kH00) := X.out.cell 7 0 rfl rfl
    have c7_1 : u17.cell? ⟨bH0, 1, none⟩ = some (.slice gH01 p1y.length kH01) := X.out.cell 7 1 rfl rfl
    have c3_0 : u17.cell? ⟨bA0, 0, none⟩ = some (.slice gA00 r0x.length kA00) := X.out.cell 3 0 rfl rfl
    have c3_1 : u17.cell? ⟨bA0, 1, none⟩ = some (.slice gA01 p1y.length kA01) := X.out.cell 3 1 rfl rfl
    go_wp2_with fail
    clear c7_0 c7_1 c3_0 c3_1
    go_at_call 41
    refine (eqPending_same _ _ r0x p1y _ _ (Nat.le_refl _) (RD0.out _ _ _ _ CH0.out) (RD0.out _ _ _ _ CA0.out)).mono ?_
    rintro e u18 ⟨rfl, hb⟩
    have X := hide (X.out.up hb)
    have CA0 := hide (CA0.out.below hb)
    have CG0 := hide (CG0.out.below hb)
    have CH0 := hide (CH0.out.below hb)
    have NN34 := hide (hb.size)
    clear hb
    have c6_0 : u18.cell? ⟨bG0, 0, none⟩ = some (.slice gG00 r0x.length kG00) := X.out.cell 6 0 rfl rfl
    have c6_1 : u18.cell? ⟨bG0, 1, none⟩ = some (.slice gG01 p1y.length kG01) := X.out.cell 6 1 rfl rfl
    go_wp2_with fail
    clear c6_0 c6_1
    go_at_call 45
    refine (HH0.out _ _ _ _ CG0.out).mono ?_
    rintro e u19 ⟨rfl, hb⟩
    have X := hide (X.out.up hb)
    have CA0 := hide (CA0.out.below hb)
    have CG0 := hide (CG0.out.below hb)
    have CH0 := hide (CH0.out.below hb)
    have NN35 := hide (hb.size)
    clear hb
    go_wp2_with fail
    go_ret
    exact ⟨rfl, X.out.below⟩

set_option maxRecDepth 100000 in
theorem lifted (os : Os) (started : os.Started) (H : Type) (enc : TypeId × Value → H) :
    ReturnsInHanded {} Try.checked os 7 .any (Rows.fnExactAddInsertSpec.pre6 enc Try.prog Try.f7 Rows.fnExactAddInsertRow.domain false) (Rows.fnExactAddInsertSpec.post enc Try.prog Try.f7 false true false false) := by
  refine returnsInHanded_of_change (C := Try.checked) own started (by kernel_rfl) Try.func7
    (ChangeSpec.witness6 (enc := enc) (C := Try.checked) false ⟨#[], #[.agg #[.slice none 0 0, .slice none 0 0, .slice none 0 0], .agg #[.slice none 0 0, .slice none 0 0], .agg #[.int .i64 0, .int .i64 0]], []⟩ 8 (by kernel_rfl) (by kernel_rfl) (by kernel_rfl) (by kernel_rfl)) ?_
  intro W base args ds gs before hval0 hW hcnd _
  have hval : ∀ (j : Nat) t v, Try.f7.params[j]? = some t → args[j]? = some v → Value.okWide Try.prog W .any base t v := hval0
  have hW' := hW
  obtain ⟨p, q, hA0, hV, rfl, hfz, hnd⟩ := hW
  have hA : DataW.TrodAll enc Try.prog W 0 (fun _ => true) true Try.f7.params.toList args.toList ds p := hA0
  rw [Try.params7] at hA hval
  obtain ⟨v0, vs0, d0, ds0, p0, q0, hargs, rfl, rfl, h0, r0⟩ := trodAll_cons hA
  obtain ⟨v1, vs1, d1, ds1, p1, q1, rfl, rfl, rfl, h1, r1⟩ := trodAll_cons r0
  obtain ⟨v2, vs2, d2, ds2, p2, q2, rfl, rfl, rfl, h2, r2⟩ := trodAll_cons r1
  obtain ⟨rfl, rfl, rfl⟩ := trodAll_nil r2
  obtain rfl : args = #[v0, v1, v2] := by cases args; simp_all
  obtain ⟨rfl, rfl⟩ := trodVars_none hV
  have k0 := h0
  have lt0 : ∀ x ∈ p0, x.block < W.heap.size := by obtain ⟨m, hm⟩ := k0; exact DataW.trod_lt m _ _ _ hm
  have k1 := h1
  have lt1 : ∀ x ∈ p1, x.block < W.heap.size := by obtain ⟨m, hm⟩ := k1; exact DataW.trod_lt m _ _ _ hm
  have k2 := h2
  have lt2 : ∀ x ∈ p2, x.block < W.heap.size := by obtain ⟨m, hm⟩ := k2; exact DataW.trod_lt m _ _ _ hm
  have w0 := open_ck (hval 0 42 v0 rfl rfl) h0
  have w1 := open_pd (hval 1 65 v1 rfl rfl) h1
  have w2 := open_it (hval 2 44 v2 rfl rfl) h2
  clear hA0 hval0
  refine (walk W v0 w0 v1 w1 v2 w2).mono fun e W' ⟨he, bel⟩ => ?_
  subst he
  exact ⟨_, rfl, _, _, _, [], _, [], hW', trodAll_mk1 (shut_bool Try.underlying4 _), (trodAll_cons_mk (Below.trod laidOut (by kernel_rfl) (of_decide_eq_true (by kernel_rfl)) k0 bel lt0) (trodAll_cons_mk (Below.trod laidOut (by kernel_rfl) (of_decide_eq_true (by kernel_rfl)) k1 bel lt1) (trodAll_cons_mk (Below.trod laidOut (by kernel_rfl) (of_decide_eq_true (by kernel_rfl)) k2 bel lt2) trodAll_mk0))), rfl, bel.frame _, fun h => by cases h⟩

theorem over : Rows.fnExactAddInsertRow.holds Try.pinned (OpenSpec.ofChange Rows.fnExactAddInsertSpec) :=
  OpenClaim.holds_of_wide 7 Try.f7 rfl rfl rfl rfl rfl rfl rfl ⟨rfl, rfl, rfl, rfl, rfl⟩ rfl rfl rfl rfl rfl (by kernel_rfl) Try.func7 (by kernel_rfl)
    (of_decide_eq_true (by kernel_rfl)) (by unfold Func.isWrapper; first | (rw [if_pos (by decide +kernel)]; kernel_rfl) | (rw [if_neg (by decide +kernel)]; exact ⟨rfl, rfl⟩))
    (fun os started H enc _ => lifted os started H enc)

/-- The statement. -/
theorem proved : Rows.FnExactAddInsertSaid := over
#print axioms proved
end Go.Proofs.Ytajfhalalnlejaa.fnExactAddInsert
