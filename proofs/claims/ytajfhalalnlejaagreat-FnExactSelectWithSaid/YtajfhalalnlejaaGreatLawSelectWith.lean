/- The law FnExactSelectWith holds: whatever the arguments, the call returns true, and they read afterwards as before. -/
import Derived.Test.YtajfhalalnlejaaGreatRows
import Derived.WalkKit
import Derived.ProofKit
import Derived.OpenShut
import Derived.ShutString
import Derived.ChangeOld
import Derived.Below
import Derived.Test.YtajfhalalnlejaaGreatZc
import Derived.Test.YtajfhalalnlejaaGreatZa
namespace Go.Proofs.YtajfhalalnlejaaGreat.fnExactSelectWith
open Go.ChangeShapes Go.WideShapes Go.ChangeAt Go.RowKit
open Go.ChangeMaps (open_string shut_string)
set_option linter.unusedVariables false
set_option linter.unusedSimpArgs false

theorem own : ownKnob Tryz.prog.godebug = none := by kernel_rfl
theorem laidOut : laidOutB Tryz.prog = true := by kernel_rfl

set_option maxRecDepth 100000 in
set_option maxHeartbeats 40000000 in
theorem walk (w : World) (v0 : Value) (w0' : ∃ p0x p0y p0z, Ck w w.heap.size v0 p0x p0y p0z) (v1 : Value) (w1' : ∃ p1f p1g p1h : Int, v1 = .agg #[.int .i64 p1f, .int .i64 p1g, .int .i64 p1h] ∧ I64 p1f ∧ I64 p1g ∧ I64 p1h) (v2 : Value) (w2' : ∃ p2f p2g : Int, v2 = .agg #[.int .i64 p2f, .int .i64 p2g] ∧ I64 p2f ∧ I64 p2g) :
    Calls Tryz.prog 3 #[v0, v1, v2] w fun e w' => e = .returned (.bool true) ∧ Below w.heap.size w w' := by
  obtain ⟨p0x, p0y, p0z, hv0⟩ := w0'
  obtain ⟨s00, c00, s01, c01, s02, c02, rfl, -⟩ := hv0.form
  have hwf0 : CkWf p0x p0y p0z := hv0.wf
  have V0 := hide hv0
  clear hv0
  obtain ⟨p1f, p1g, p1h, rfl, hi10, hi11, hi12⟩ := w1'
  obtain ⟨p2f, p2g, rfl, hi20, hi21⟩ := w2'
  obtain ⟨wC, hwC⟩ : ∃ q, q = ((w.alloc (.cells #[.slice s00 p0x.length c00, .slice s01 p0y.length c01, .slice s02 p0z.length c02] 25)).alloc (.cells #[.int .i64 p1f, .int .i64 p1g, .int .i64 p1h] 27)).alloc (.cells #[.int .i64 p2f, .int .i64 p2g] 29) := ⟨_, rfl⟩
  have X : Hid (Kn w wC [(w.heap.size, #[.slice s00 p0x.length c00, .slice s01 p0y.length c01, .slice s02 p0z.length c02], 25), (w.heap.size + 1, #[.int .i64 p1f, .int .i64 p1g, .int .i64 p1h], 27), (w.heap.size + 1 + 1, #[.int .i64 p2f, .int .i64 p2g], 29)]) := hide (by rw [hwC]; simpa using ((Kn.one w #[.slice s00 p0x.length c00, .slice s01 p0y.length c01, .slice s02 p0z.length c02] 25).alloc #[.int .i64 p1f, .int .i64 p1g, .int .i64 p1h] 27).alloc #[.int .i64 p2f, .int .i64 p2g] 29)
  have N0 := hide (show wC.heap.size = w.heap.size + 1 + 1 + 1 by rw [hwC]; simp)
  have hsz0 := hide (fun (W : World) (h : Below w.heap.size w W) (q1 : -1 ≤ (1048576 : Int)) (q2 : (1048576 : Int) ≤ 1048576) => szCracker_any _ p0x p0y p0z 1048576 W w.heap.size (V0.out.below h (Nat.le_refl _)) h.size q1 q2)
  obtain ⟨z0, hz0⟩ : ∃ z, z = szC (p0x.length + p0y.length + p0z.length) 1048576 := ⟨_, rfl⟩
  rw [← hz0] at hsz0
  unfold szC at hz0
  by_cases hneg0 : z0 < 0
  · have b0 : decide (z0 < 0) = true := by simp; omega
    clear hz0
    have c0_0 : wC.cell? ⟨w.heap.size, 0, none⟩ = some (.slice s00 p0x.length c00) := X.out.cell 0 0 rfl rfl
    have c0_1 : wC.cell? ⟨w.heap.size, 1, none⟩ = some (.slice s01 p0y.length c01) := X.out.cell 0 1 rfl rfl
    have c0_2 : wC.cell? ⟨w.heap.size, 2, none⟩ = some (.slice s02 p0z.length c02) := X.out.cell 0 2 rfl rfl
    have c1_0 : wC.cell? ⟨w.heap.size + 1, 0, none⟩ = some (.int .i64 p1f) := X.out.cell 1 0 rfl rfl
    have c1_1 : wC.cell? ⟨w.heap.size + 1, 1, none⟩ = some (.int .i64 p1g) := X.out.cell 1 1 rfl rfl
    have c1_2 : wC.cell? ⟨w.heap.size + 1, 2, none⟩ = some (.int .i64 p1h) := X.out.cell 1 2 rfl rfl
    have c2_0 : wC.cell? ⟨w.heap.size + 1 + 1, 0, none⟩ = some (.int .i64 p2f) := X.out.cell 2 0 rfl rfl
    have c2_1 : wC.cell? ⟨w.heap.size + 1 + 1, 1, none⟩ = some (.int .i64 p2g) := X.out.cell 2 1 rfl rfl
    rw [hwC] at c0_0 c0_1 c0_2 c1_0 c1_1 c1_2 c2_0 c2_1
    go_enter Tryz.func3, Tryz.ntmps3
    go_wp2_with fail
    rw [← hwC]
    clear hwC c0_0 c0_1 c0_2 c1_0 c1_1 c1_2 c2_0 c2_1
    go_at_call 9
    refine (hsz0.out _ X.out.below (by omega) (by omega)).mono ?_
    rintro e u1 ⟨rfl, hb⟩
    have X := hide (X.out.up hb)
    have N1 := hide hb.size
    clear hb
    go_wp2_with fail
    go_ret
    exact ⟨rfl, X.out.below⟩
  have hbig0 : p0x.length + p0y.length + p0z.length ≤ 1048576 := by split at hz0 <;> omega
  have hpos0 : 0 ≤ z0 ∧ z0 ≤ 1048576 := by split at hz0 <;> omega
  have b0 : decide (z0 < 0) = false := by simp; omega
  clear hneg0
  clear hz0
  · skip
    have T0 := hide (fun (W : World) (h : Below w.heap.size w W) => toCracker_o _ p0x p0y p0z W w.heap.size (V0.out.below h (Nat.le_refl _)) h.size (by omega) (by omega) (by omega))
    have hwfW : Wf p0x p0y p0z 1048576 := ⟨by omega, by omega, by omega, hwf0.1, hwf0.2.1, hwf0.2.2.2⟩
    have hR0 : (((slF p0x p0y p0z p1f p1g p1h p2f p2g).l).length ≤ 4000000 ∧ ((slF p0x p0y p0z p1f p1g p1h p2f p2g).r).length ≤ 4000000 ∧ ((slF p0x p0y p0z p1f p1g p1h p2f p2g).ps).length ≤ 4000000) ∧ CkWf ((slF p0x p0y p0z p1f p1g p1h p2f p2g).l) ((slF p0x p0y p0z p1f p1g p1h p2f p2g).r) ((slF p0x p0y p0z p1f p1g p1h p2f p2g).ps) := slF_wf4 hwfW
    have hR2 : ((slR p0x p0y p0z p1f p1g p1h p2f p2g).length ≤ 4000000) ∧ IntsWf (slR p0x p0y p0z p1f p1g p1h p2f p2g) := slR_wf4 hwfW
    have HSP := hide (fun (W : World) (v0 : Value) (k0 : Ck W W.heap.size v0 p0x p0y p0z) => show Calls Tryz.prog 10 #[v0, .agg #[.int .i64 p1f, .int .i64 p1g, .int .i64 p1h], .agg #[.int .i64 p2f, .int .i64 p2g]] W (fun e w' => ∃ u0 u2 lo0 hi0 lo2 hi2, e = .returned (.tuple #[u0, .agg #[.int .i64 (p1f), .int .i64 (p1g), .int .i64 ((slF p0x p0y p0z p1f p1g p1h p2f p2g).s)], u2, .int .i64 (((slF p0x p0y p0z p1f p1g p1h p2f p2g).n : Int))]) ∧ Oc w' u0 ((slF p0x p0y p0z (p1f) (p1g) p1h p2f p2g).l) ((slF p0x p0y p0z (p1f) (p1g) p1h p2f p2g).r) ((slF p0x p0y p0z (p1f) (p1g) p1h p2f p2g).ps) lo0 hi0 ∧ W.heap.size ≤ lo0 ∧ Oin w' u2 (slR p0x p0y p0z p1f p1g p1h p2f p2g) lo2 hi2 ∧ W.heap.size ≤ lo2 ∧ (hi0 ≤ lo2 ∨ hi2 ≤ lo0) ∧ Below W.heap.size W w') from sSl_any v0 p0x p0y p0z p1f p1g p1h p2f p2g W k0 hwfW hi20 hi21)
    have HIP := hide (fun (W : World) (v0 : Value) (k0 : Ck W W.heap.size v0 p0x p0y p0z) => show Calls Tryz.prog 14 #[v0, .agg #[.int .i64 p1f, .int .i64 p1g, .int .i64 p1h], .agg #[.int .i64 p2f, .int .i64 p2g]] W (fun e w' => ∃ u0 u2 lo0 hi0 lo2 hi2, e = .returned (.tuple #[u0, .agg #[.int .i64 (p1f), .int .i64 (p1g), .int .i64 ((slF p0x p0y p0z p1f p1g p1h p2f p2g).s)], u2, .int .i64 (((slF p0x p0y p0z p1f p1g p1h p2f p2g).n : Int))]) ∧ Oc w' u0 ((slF p0x p0y p0z (p1f) (p1g) p1h p2f p2g).l) ((slF p0x p0y p0z (p1f) (p1g) p1h p2f p2g).r) ((slF p0x p0y p0z (p1f) (p1g) p1h p2f p2g).ps) lo0 hi0 ∧ W.heap.size ≤ lo0 ∧ Oin w' u2 (slR p0x p0y p0z p1f p1g p1h p2f p2g) lo2 hi2 ∧ W.heap.size ≤ lo2 ∧ (hi0 ≤ lo2 ∨ hi2 ≤ lo0) ∧ Below W.heap.size W w') from iSl_any v0 p0x p0y p0z p1f p1g p1h p2f p2g W k0 hwfW hi20 hi21)
    obtain ⟨r0x, hq⟩ : ∃ q : List Int, q = (slF p0x p0y p0z p1f p1g p1h p2f p2g).l := ⟨_, rfl⟩
    rw [← hq] at HSP HIP hR0
    clear hq
    obtain ⟨r0y, hq⟩ : ∃ q : List Int, q = (slF p0x p0y p0z p1f p1g p1h p2f p2g).r := ⟨_, rfl⟩
    rw [← hq] at HSP HIP hR0
    clear hq
    obtain ⟨r0z, hq⟩ : ∃ q : List Pv, q = (slF p0x p0y p0z p1f p1g p1h p2f p2g).ps := ⟨_, rfl⟩
    rw [← hq] at HSP HIP hR0
    clear hq
    obtain ⟨r1h, hq⟩ : ∃ q : Int, q = (slF p0x p0y p0z p1f p1g p1h p2f p2g).s := ⟨_, rfl⟩
    rw [← hq] at HSP HIP 
    clear hq
    obtain ⟨r2x, hq⟩ : ∃ q : List Int, q = slR p0x p0y p0z p1f p1g p1h p2f p2g := ⟨_, rfl⟩
    rw [← hq] at HSP HIP hR2
    clear hq
    obtain ⟨r3, hq⟩ : ∃ q : Int, q = ((slF p0x p0y p0z p1f p1g p1h p2f p2g).n : Int) := ⟨_, rfl⟩
    rw [← hq] at HSP HIP 
    clear hq
    obtain ⟨⟨hl00, hl01, hl02⟩, hRw0⟩ := hR0
    obtain ⟨hl20, hRw2⟩ := hR2
    have RD0 := hide (fun (W : World) (v : Value) (lo hi : Nat) (h : Oc W v r0x r0y r0z lo hi) => h.rd hRw0)
    have RD2 := hide (fun (W : World) (v : Value) (lo hi : Nat) (h : Oin W v r2x lo hi) => h.rd hRw2)
    have PD0 := hide (fun (W : World) (v : Value) (lo hi : Nat) (h : Oc W v p0x p0y p0z lo hi) => h.rd hwf0)
    obtain ⟨A0, hA0⟩ : ∃ q : Int, q = 1 + (p0x.length : Int) + (p0y.length : Int) + 2 * (p0z.length : Int) := ⟨_, rfl⟩
    have HA0 := hide (fun (W : World) (v : Value) (lo hi : Nat) (h : Oc W v p0x p0y p0z lo hi) => show Calls Tryz.prog 18 #[v, .int .i64 (1)] W (RetMOc W v (mkI (1) p0x.length) (mkI (1 + (p0x.length : Int)) p0y.length) (mkP (1 + (p0x.length : Int) + (p0y.length : Int)) p0z.length) lo hi A0) by rw [hA0]; exact markCracker_o v p0x p0y p0z lo hi (1) W h (by omega) (by omega))
    have hAn : decide (A0 < 0) = false := by simp; omega
    obtain ⟨M0, hM0⟩ : ∃ q : Int, q = 1 + (r0x.length : Int) + (r0y.length : Int) + 2 * (r0z.length : Int) := ⟨_, rfl⟩
    have HM0 := hide (fun (W : World) (v : Value) (lo hi : Nat) (h : Oc W v r0x r0y r0z lo hi) => show Calls Tryz.prog 18 #[v, .int .i64 (1)] W (RetMOc W v (mkI (1) r0x.length) (mkI (1 + (r0x.length : Int)) r0y.length) (mkP (1 + (r0x.length : Int) + (r0y.length : Int)) r0z.length) lo hi M0) by rw [hM0]; exact markCracker_o v r0x r0y r0z lo hi (1) W h (by omega) (by omega))
    have HH0 := hide (fun (W : World) (v : Value) (lo hi : Nat) (h : Oc W v (mkI (1) r0x.length) (mkI (1 + (r0x.length : Int)) r0y.length) (mkP (1 + (r0x.length : Int) + (r0y.length : Int)) r0z.length) lo hi) => show Calls Tryz.prog 20 #[v, .int .i64 (1)] W (RetI1 W M0) by rw [hM0]; exact heldCracker_o v r0x.length r0y.length r0z.length lo hi (1) W h (by omega) (by omega))
    have hMn0 : decide (M0 < 0) = false := by simp; omega
    obtain ⟨M2, hM2⟩ : ∃ q : Int, q = M0 + (r2x.length : Int) := ⟨_, rfl⟩
    have HM2 := hide (fun (W : World) (v : Value) (lo hi : Nat) (h : Oin W v r2x lo hi) => show Calls Tryz.prog 19 #[v, .int .i64 (M0)] W (RetMOin W v (mkI (M0) r2x.length) lo hi M2) by rw [hM2]; exact markIntS_o v r2x lo hi (M0) W h (by omega) (by omega))
    have HH2 := hide (fun (W : World) (v : Value) (lo hi : Nat) (h : Oin W v (mkI (M0) r2x.length) lo hi) => show Calls Tryz.prog 21 #[v, .int .i64 (M0)] W (RetI1 W M2) by rw [hM2]; exact heldIntS_o v r2x.length lo hi (M0) W h (by omega) (by omega))
    have hMn2 : decide (M2 < 0) = false := by simp; omega
    have hMM : (M2 != M2) = false := by simp
    have hn3 : (r3 != r3) = false := by simp
    clear hA0 hM0 hM2 hwf0 hRw0 hRw2 hl00 hl01 hl02 hl20
    have c0_0 : wC.cell? ⟨w.heap.size, 0, none⟩ = some (.slice s00 p0x.length c00) := X.out.cell 0 0 rfl rfl
    have c0_1 : wC.cell? ⟨w.heap.size, 1, none⟩ = some (.slice s01 p0y.length c01) := X.out.cell 0 1 rfl rfl
    have c0_2 : wC.cell? ⟨w.heap.size, 2, none⟩ = some (.slice s02 p0z.length c02) := X.out.cell 0 2 rfl rfl
    have c1_0 : wC.cell? ⟨w.heap.size + 1, 0, none⟩ = some (.int .i64 p1f) := X.out.cell 1 0 rfl rfl
    have c1_1 : wC.cell? ⟨w.heap.size + 1, 1, none⟩ = some (.int .i64 p1g) := X.out.cell 1 1 rfl rfl
    have c1_2 : wC.cell? ⟨w.heap.size + 1, 2, none⟩ = some (.int .i64 p1h) := X.out.cell 1 2 rfl rfl
    have c2_0 : wC.cell? ⟨w.heap.size + 1 + 1, 0, none⟩ = some (.int .i64 p2f) := X.out.cell 2 0 rfl rfl
    have c2_1 : wC.cell? ⟨w.heap.size + 1 + 1, 1, none⟩ = some (.int .i64 p2g) := X.out.cell 2 1 rfl rfl
    rw [hwC] at c0_0 c0_1 c0_2 c1_0 c1_1 c1_2 c2_0 c2_1
    go_enter Tryz.func3, Tryz.ntmps3
    go_wp2_with fail
    rw [← hwC]
    clear hwC c0_0 c0_1 c0_2 c1_0 c1_1 c1_2 c2_0 c2_1
    go_at_call 9
    refine (hsz0.out _ X.out.below (by omega) (by omega)).mono ?_
    rintro e u1 ⟨rfl, hb⟩
    have X := hide (X.out.up hb)
    have N1 := hide hb.size
    clear hb
    clear hpos0
    -- region 5
    go_upto_region 5 with fail
    have X1 := X
    refine wp_region_any (by kernel_rfl) ?_
    refine wpAny_facts (w0 := u1) (fun i => ([(fun lo hi s W => s 30 = .agg #[.slice s00 p0x.length c00, .slice s01 p0y.length c01, .slice s02 p0z.length c02]),
      (fun lo hi s W => Oc W (s 31) p0x p0y p0z lo hi),
      (fun lo hi s W => s 32 = .agg #[.int .i64 p1f, .int .i64 p1g, .int .i64 p1h]),
      (fun lo hi s W => s 33 = .agg #[.int .i64 p1f, .int .i64 p1g, .int .i64 p1h]),
      (fun lo hi s W => s 34 = .agg #[.int .i64 p2f, .int .i64 p2g]),
      (fun lo hi s W => s 35 = .agg #[.int .i64 p2f, .int .i64 p2g]),
      (fun lo hi s W => ∃ q0 q2 lo0 hi0 lo2 hi2, s 36 = .tuple #[q0, .agg #[.int .i64 p1f, .int .i64 p1g, .int .i64 r1h], q2, .int .i64 r3] ∧ Oc W q0 r0x r0y r0z lo0 hi0 ∧ lo ≤ lo0 ∧ hi0 ≤ hi ∧ Oin W q2 r2x lo2 hi2 ∧ lo ≤ lo2 ∧ hi2 ≤ hi ∧ (hi0 ≤ lo2 ∨ hi2 ≤ lo0)),
      (fun lo hi s W => s 29 = s 36),
      (fun lo hi s W => s 37 = cmpV (s 29) 0),
      (fun lo hi s W => s 38 = cmpV (s 29) 1),
      (fun lo hi s W => s 39 = cmpV (s 29) 2),
      (fun lo hi s W => s 40 = cmpV (s 29) 3),
      (fun lo hi s W => ∃ g cs, s 8 = .pointer (some ⟨g, 0, none⟩) ∧ lo ≤ g ∧ g < hi ∧ W.heap[g]? = some (.cells cs 33 (0, 0)) ∧ cs.size = 3),
      (fun lo hi s W => ∃ g cs, s 9 = .pointer (some ⟨g, 0, none⟩) ∧ lo ≤ g ∧ g < hi ∧ W.heap[g]? = some (.cells cs 34 (0, 0)) ∧ cs.size = 3),
      (fun lo hi s W => ∃ g cs, s 8 = .pointer (some ⟨g, 0, none⟩) ∧ s 37 = .agg cs ∧ lo ≤ g ∧ g < hi ∧ W.heap[g]? = some (.cells cs 33 (0, 0))),
      (fun lo hi s W => ∃ g cs, s 9 = .pointer (some ⟨g, 0, none⟩) ∧ s 38 = .agg cs ∧ lo ≤ g ∧ g < hi ∧ W.heap[g]? = some (.cells cs 34 (0, 0))),
      (fun lo hi s W => s 10 = s 39),
      (fun lo hi s W => s 11 = s 40)] : List (Nat → Nat → (Nat → Value) → World → Prop)).getD i (fun _ _ _ _ => True)) [[], [0], [], [0, 1, 2], [], [0, 1, 2, 3, 4], [0, 1, 2, 3, 4, 5], [0, 1, 2, 3, 4, 5, 6], [0, 1, 2, 3, 4, 5, 6, 7], [0, 1, 2, 3, 4, 5, 6, 7], [0, 1, 2, 3, 4, 5, 6, 7], [0, 1, 2, 3, 4, 5, 6, 7], [], [], [0, 1, 2, 3, 4, 5, 6, 7, 8, 12, 13], [0, 1, 2, 3, 4, 5, 6, 7, 8, 9, 12, 13, 14], [0, 1, 2, 3, 4, 5, 6, 7, 8, 9, 10, 12, 13, 14, 15], [0, 1, 2, 3, 4, 5, 6, 7, 8, 9, 10, 11, 12, 13, 14, 15, 16]] [0, 1, 2, 3, 4, 5, 6, 7, 8, 9, 10, 11, 12, 13, 12, 13, 16, 17] [[30], [31], [32], [33], [34], [35], [36], [29, 36], [37, 29], [38, 29], [39, 29], [40, 29], [8], [9], [8, 37], [9, 38], [10, 39], [11, 40]] [[], [], [], [], [], [], [], [], [], [], [], [], [], [], [12], [13], [], []] (by kernel_rfl) (by kernel_rfl) ?st ?step ?fin
    case st =>
      clear HSP HIP
      intro i hi lo hi' s W W' h q1 q2 q3 q4 k
      have hi : i < 18 := hi
      clear X X1
      rcases (show i = 0 ∨ i = 1 ∨ i = 2 ∨ i = 3 ∨ i = 4 ∨ i = 5 ∨ i = 6 ∨ i = 7 ∨ i = 8 ∨ i = 9 ∨ i = 10 ∨ i = 11 ∨ i = 12 ∨ i = 13 ∨ i = 14 ∨ i = 15 ∨ i = 16 ∨ i = 17 by omega) with rfl | rfl | rfl | rfl | rfl | rfl | rfl | rfl | rfl | rfl | rfl | rfl | rfl | rfl | rfl | rfl | rfl | rfl
      · have h : s 30 = .agg #[.slice s00 p0x.length c00, .slice s01 p0y.length c01, .slice s02 p0z.length c02] := h
        show s 30 = .agg #[.slice s00 p0x.length c00, .slice s01 p0y.length c01, .slice s02 p0z.length c02]
        exact h
      · have h : Oc W (s 31) p0x p0y p0z lo hi' := h
        show Oc W' (s 31) p0x p0y p0z lo hi'
        exact h.on k
      · have h : s 32 = .agg #[.int .i64 p1f, .int .i64 p1g, .int .i64 p1h] := h
        show s 32 = .agg #[.int .i64 p1f, .int .i64 p1g, .int .i64 p1h]
        exact h
      · have h : s 33 = .agg #[.int .i64 p1f, .int .i64 p1g, .int .i64 p1h] := h
        show s 33 = .agg #[.int .i64 p1f, .int .i64 p1g, .int .i64 p1h]
        exact h
      · have h : s 34 = .agg #[.int .i64 p2f, .int .i64 p2g] := h
        show s 34 = .agg #[.int .i64 p2f, .int .i64 p2g]
        exact h
      · have h : s 35 = .agg #[.int .i64 p2f, .int .i64 p2g] := h
        show s 35 = .agg #[.int .i64 p2f, .int .i64 p2g]
        exact h
      · have h : ∃ q0 q2 lo0 hi0 lo2 hi2, s 36 = .tuple #[q0, .agg #[.int .i64 p1f, .int .i64 p1g, .int .i64 r1h], q2, .int .i64 r3] ∧ Oc W q0 r0x r0y r0z lo0 hi0 ∧ lo ≤ lo0 ∧ hi0 ≤ hi' ∧ Oin W q2 r2x lo2 hi2 ∧ lo ≤ lo2 ∧ hi2 ≤ hi' ∧ (hi0 ≤ lo2 ∨ hi2 ≤ lo0) := h
        show ∃ q0 q2 lo0 hi0 lo2 hi2, s 36 = .tuple #[q0, .agg #[.int .i64 p1f, .int .i64 p1g, .int .i64 r1h], q2, .int .i64 r3] ∧ Oc W' q0 r0x r0y r0z lo0 hi0 ∧ lo ≤ lo0 ∧ hi0 ≤ hi' ∧ Oin W' q2 r2x lo2 hi2 ∧ lo ≤ lo2 ∧ hi2 ≤ hi' ∧ (hi0 ≤ lo2 ∨ hi2 ≤ lo0)
        obtain ⟨q0, q2, lo0, hi0, lo2, hi2, e1, o0, x0, y0, o2, x2, y2, ap0⟩ := h; exact ⟨_, _, _, _, _, _, e1, o0.on ⟨k.size, k.old, fun b b1 b2 b3 => k.own b (Nat.le_trans x0 b1) (Nat.lt_of_lt_of_le b2 y0) b3⟩, x0, y0, o2.on ⟨k.size, k.old, fun b b1 b2 b3 => k.own b (Nat.le_trans x2 b1) (Nat.lt_of_lt_of_le b2 y2) b3⟩, x2, y2, ap0⟩
      · have h : s 29 = s 36 := h
        show s 29 = s 36
        exact h
      · have h : s 37 = cmpV (s 29) 0 := h
        show s 37 = cmpV (s 29) 0
        exact h
      · have h : s 38 = cmpV (s 29) 1 := h
        show s 38 = cmpV (s 29) 1
        exact h
      · have h : s 39 = cmpV (s 29) 2 := h
        show s 39 = cmpV (s 29) 2
        exact h
      · have h : s 40 = cmpV (s 29) 3 := h
        show s 40 = cmpV (s 29) 3
        exact h
      · have h : ∃ g cs, s 8 = .pointer (some ⟨g, 0, none⟩) ∧ lo ≤ g ∧ g < hi' ∧ W.heap[g]? = some (.cells cs 33 (0, 0)) ∧ cs.size = 3 := h
        show ∃ g cs, s 8 = .pointer (some ⟨g, 0, none⟩) ∧ lo ≤ g ∧ g < hi' ∧ W'.heap[g]? = some (.cells cs 33 (0, 0)) ∧ cs.size = 3
        obtain ⟨g, cs, e1, e2, e3, e4, e5⟩ := h; exact ⟨g, cs, e1, e2, e3, (k.own g e2 e3 (Array.getElem?_eq_some_iff.1 e4).1).trans e4, e5⟩
      · have h : ∃ g cs, s 9 = .pointer (some ⟨g, 0, none⟩) ∧ lo ≤ g ∧ g < hi' ∧ W.heap[g]? = some (.cells cs 34 (0, 0)) ∧ cs.size = 3 := h
        show ∃ g cs, s 9 = .pointer (some ⟨g, 0, none⟩) ∧ lo ≤ g ∧ g < hi' ∧ W'.heap[g]? = some (.cells cs 34 (0, 0)) ∧ cs.size = 3
        obtain ⟨g, cs, e1, e2, e3, e4, e5⟩ := h; exact ⟨g, cs, e1, e2, e3, (k.own g e2 e3 (Array.getElem?_eq_some_iff.1 e4).1).trans e4, e5⟩
      · have h : ∃ g cs, s 8 = .pointer (some ⟨g, 0, none⟩) ∧ s 37 = .agg cs ∧ lo ≤ g ∧ g < hi' ∧ W.heap[g]? = some (.cells cs 33 (0, 0)) := h
        show ∃ g cs, s 8 = .pointer (some ⟨g, 0, none⟩) ∧ s 37 = .agg cs ∧ lo ≤ g ∧ g < hi' ∧ W'.heap[g]? = some (.cells cs 33 (0, 0))
        obtain ⟨g, cs, e1, e2, e3, e4, e5⟩ := h; exact ⟨g, cs, e1, e2, e3, e4, (k.own g e3 e4 (Array.getElem?_eq_some_iff.1 e5).1).trans e5⟩
      · have h : ∃ g cs, s 9 = .pointer (some ⟨g, 0, none⟩) ∧ s 38 = .agg cs ∧ lo ≤ g ∧ g < hi' ∧ W.heap[g]? = some (.cells cs 34 (0, 0)) := h
        show ∃ g cs, s 9 = .pointer (some ⟨g, 0, none⟩) ∧ s 38 = .agg cs ∧ lo ≤ g ∧ g < hi' ∧ W'.heap[g]? = some (.cells cs 34 (0, 0))
        obtain ⟨g, cs, e1, e2, e3, e4, e5⟩ := h; exact ⟨g, cs, e1, e2, e3, e4, (k.own g e3 e4 (Array.getElem?_eq_some_iff.1 e5).1).trans e5⟩
      · have h : s 10 = s 39 := h
        show s 10 = s 39
        exact h
      · have h : s 11 = s 40 := h
        show s 11 = s 40
        exact h
    case step =>
      intro i hi a W iv hb hsz hdf hrest hanc hivs hap K HK
      have hi : i < 18 := hi
      have HK := hide HK
      have HAN := hide hanc
      have HIV := hide hivs
      have HRS := hide hrest
      have XU := hide (X1.out.up hb)
      have HB := hide hb
      clear hanc hivs hap hrest hb hsz hdf X X1
      rcases (show i = 0 ∨ i = 1 ∨ i = 2 ∨ i = 3 ∨ i = 4 ∨ i = 5 ∨ i = 6 ∨ i = 7 ∨ i = 8 ∨ i = 9 ∨ i = 10 ∨ i = 11 ∨ i = 12 ∨ i = 13 ∨ i = 14 ∨ i = 15 ∨ i = 16 ∨ i = 17 by omega) with rfl | rfl | rfl | rfl | rfl | rfl | rfl | rfl | rfl | rfl | rfl | rfl | rfl | rfl | rfl | rfl | rfl | rfl
      · refine wpOp_step (o := _) rfl fun K' hK => ?_
        rw [if_pos (by go_simp)]
        have e1 : a.tmps.getD 3 undef = .pointer (some ⟨w.heap.size, 0, none⟩) := (HRS.out 3 (by decide)).trans rfl
        have c0 : W.cell? ⟨w.heap.size, 0, none⟩ = some (.slice s00 p0x.length c00) := XU.out.cell 0 0 rfl rfl
        have c1 : W.cell? ⟨w.heap.size, 1, none⟩ = some (.slice s01 p0y.length c01) := XU.out.cell 0 1 rfl rfl
        have c2 : W.cell? ⟨w.heap.size, 2, none⟩ = some (.slice s02 p0z.length c02) := XU.out.cell 0 2 rfl rfl
        go_simp
        exact hK _ _ (HK.out _ _ ⟨fun _ => ⟨Below.refl _ _, rfl⟩, fun h => absurd rfl h⟩)
      · refine wpOp_step (o := _) rfl fun K' hK => ?_
        rw [if_pos (by go_simp)]
        have e1 : a.tmps.getD 30 undef = .agg #[.slice s00 p0x.length c00, .slice s01 p0y.length c01, .slice s02 p0z.length c02] := HAN.out 0 (by decide)
        go_simp
        go_at_call 11
        refine (T0.out _ XU.out.below).mono ?_
        rintro e W' ⟨vv, rfl, ho, hbb⟩
        skip
        exact hK _ _ (HK.out _ _ ⟨fun _ => ⟨hbb, ho⟩, fun h => absurd rfl h⟩)
      · refine wpOp_step (o := _) rfl fun K' hK => ?_
        rw [if_pos (by go_simp)]
        have e1 : a.tmps.getD 4 undef = .pointer (some ⟨w.heap.size + 1, 0, none⟩) := (HRS.out 4 (by decide)).trans rfl
        have c0 : W.cell? ⟨w.heap.size + 1, 0, none⟩ = some (.int .i64 p1f) := XU.out.cell 1 0 rfl rfl
        have c1 : W.cell? ⟨w.heap.size + 1, 1, none⟩ = some (.int .i64 p1g) := XU.out.cell 1 1 rfl rfl
        have c2 : W.cell? ⟨w.heap.size + 1, 2, none⟩ = some (.int .i64 p1h) := XU.out.cell 1 2 rfl rfl
        go_simp
        exact hK _ _ (HK.out _ _ ⟨fun _ => ⟨Below.refl _ _, rfl⟩, fun h => absurd rfl h⟩)
      · refine wpOp_step (o := _) rfl fun K' hK => ?_
        rw [if_pos (by go_simp)]
        have e1 : a.tmps.getD 32 undef = .agg #[.int .i64 p1f, .int .i64 p1g, .int .i64 p1h] := HAN.out 2 (by decide)
        go_simp
        go_at_call 12
        refine (toSettings_any _ _ _ _).mono ?_
        rintro e W' ⟨rfl, hbb⟩
        skip
        exact hK _ _ (HK.out _ _ ⟨fun _ => ⟨hbb, rfl⟩, fun h => absurd rfl h⟩)
      · refine wpOp_step (o := _) rfl fun K' hK => ?_
        rw [if_pos (by go_simp)]
        have e1 : a.tmps.getD 5 undef = .pointer (some ⟨w.heap.size + 1 + 1, 0, none⟩) := (HRS.out 5 (by decide)).trans rfl
        have c0 : W.cell? ⟨w.heap.size + 1 + 1, 0, none⟩ = some (.int .i64 p2f) := XU.out.cell 2 0 rfl rfl
        have c1 : W.cell? ⟨w.heap.size + 1 + 1, 1, none⟩ = some (.int .i64 p2g) := XU.out.cell 2 1 rfl rfl
        go_simp
        exact hK _ _ (HK.out _ _ ⟨fun _ => ⟨Below.refl _ _, rfl⟩, fun h => absurd rfl h⟩)
      · refine wpOp_step (o := _) rfl fun K' hK => ?_
        rw [if_pos (by go_simp)]
        have e1 : a.tmps.getD 34 undef = .agg #[.int .i64 p2f, .int .i64 p2g] := HAN.out 4 (by decide)
        go_simp
        go_at_call 13
        refine (toRange_any _ _ _).mono ?_
        rintro e W' ⟨rfl, hbb⟩
        skip
        exact hK _ _ (HK.out _ _ ⟨fun _ => ⟨hbb, rfl⟩, fun h => absurd rfl h⟩)
      · refine wpOp_step (o := _) rfl fun K' hK => ?_
        rw [if_pos (by go_simp)]
        have e1 : a.tmps.getD 33 undef = .agg #[.int .i64 p1f, .int .i64 p1g, .int .i64 p1h] := HAN.out 3 (by decide)
        have e2 : a.tmps.getD 35 undef = .agg #[.int .i64 p2f, .int .i64 p2g] := HAN.out 5 (by decide)
        have k0 : Oc W (a.tmps.getD 31 undef) p0x p0y p0z _ _ := HAN.out 1 (by decide)
        obtain ⟨y0, hy0⟩ : ∃ q, a.tmps.getD 31 undef = q := ⟨_, rfl⟩
        rw [hy0] at k0
        have k0 := hide (PD0.out _ _ _ _ k0)
        go_simp
        go_at_call 10
        refine (HSP.out _ _ k0.out).mono ?_
        rintro e W' ⟨q0, q1, lo0, hi0, lo1, hi1, rfl, o0, l0, o1, l1, ap0, hbb⟩
        skip
        exact hK _ _ (HK.out _ _ ⟨fun _ => ⟨hbb, ⟨_, _, _, _, _, _, rfl, o0, l0, o0.top.2, o1, l1, o1.top.2, ap0⟩⟩, fun h => absurd rfl h⟩)
      · refine wpOp_step (o := _) rfl fun K' hK => ?_
        rw [if_pos (by go_simp)]
        obtain ⟨y, e1⟩ : ∃ y, a.tmps.getD 36 undef = y := ⟨_, rfl⟩
        go_simp
        exact hK _ _ (HK.out _ _ ⟨fun _ => ⟨Below.refl _ _, e1.symm⟩, fun h => absurd rfl h⟩)
      · refine wpOp_step (o := _) rfl fun K' hK => ?_
        rw [if_pos (by go_simp)]
        have h0 := HAN.out 6 (by decide)
        obtain ⟨q0, q2, _, _, _, _, h0, -⟩ : ∃ q0 q2 lo0 hi0 lo2 hi2, a.tmps.getD 36 undef = .tuple #[q0, .agg #[.int .i64 p1f, .int .i64 p1g, .int .i64 r1h], q2, .int .i64 r3] ∧ _ := h0
        have h1 : a.tmps.getD 29 undef = a.tmps.getD 36 undef := HAN.out 7 (by decide)
        rw [h0] at h1
        clear h0
        have h0 := h1
        clear h1
        go_simp
        exact hK _ _ (HK.out _ _ ⟨fun _ => ⟨Below.refl _ _, by show _ = cmpV (a.tmps.getD 29 undef) 0; rw [h0]; rfl⟩, fun h => absurd rfl h⟩)
      · refine wpOp_step (o := _) rfl fun K' hK => ?_
        rw [if_pos (by go_simp)]
        have h0 := HAN.out 6 (by decide)
        obtain ⟨q0, q2, _, _, _, _, h0, -⟩ : ∃ q0 q2 lo0 hi0 lo2 hi2, a.tmps.getD 36 undef = .tuple #[q0, .agg #[.int .i64 p1f, .int .i64 p1g, .int .i64 r1h], q2, .int .i64 r3] ∧ _ := h0
        have h1 : a.tmps.getD 29 undef = a.tmps.getD 36 undef := HAN.out 7 (by decide)
        rw [h0] at h1
        clear h0
        have h0 := h1
        clear h1
        go_simp
        exact hK _ _ (HK.out _ _ ⟨fun _ => ⟨Below.refl _ _, by show _ = cmpV (a.tmps.getD 29 undef) 1; rw [h0]; rfl⟩, fun h => absurd rfl h⟩)
      · refine wpOp_step (o := _) rfl fun K' hK => ?_
        rw [if_pos (by go_simp)]
        have h0 := HAN.out 6 (by decide)
        obtain ⟨q0, q2, _, _, _, _, h0, -⟩ : ∃ q0 q2 lo0 hi0 lo2 hi2, a.tmps.getD 36 undef = .tuple #[q0, .agg #[.int .i64 p1f, .int .i64 p1g, .int .i64 r1h], q2, .int .i64 r3] ∧ _ := h0
        have h1 : a.tmps.getD 29 undef = a.tmps.getD 36 undef := HAN.out 7 (by decide)
        rw [h0] at h1
        clear h0
        have h0 := h1
        clear h1
        go_simp
        exact hK _ _ (HK.out _ _ ⟨fun _ => ⟨Below.refl _ _, by show _ = cmpV (a.tmps.getD 29 undef) 2; rw [h0]; rfl⟩, fun h => absurd rfl h⟩)
      · refine wpOp_step (o := _) rfl fun K' hK => ?_
        rw [if_pos (by go_simp)]
        have h0 := HAN.out 6 (by decide)
        obtain ⟨q0, q2, _, _, _, _, h0, -⟩ : ∃ q0 q2 lo0 hi0 lo2 hi2, a.tmps.getD 36 undef = .tuple #[q0, .agg #[.int .i64 p1f, .int .i64 p1g, .int .i64 r1h], q2, .int .i64 r3] ∧ _ := h0
        have h1 : a.tmps.getD 29 undef = a.tmps.getD 36 undef := HAN.out 7 (by decide)
        rw [h0] at h1
        clear h0
        have h0 := h1
        clear h1
        go_simp
        exact hK _ _ (HK.out _ _ ⟨fun _ => ⟨Below.refl _ _, by show _ = cmpV (a.tmps.getD 29 undef) 3; rw [h0]; rfl⟩, fun h => absurd rfl h⟩)
      · refine wpOp_step (o := _) rfl fun K' hK => ?_
        rw [if_pos (by go_simp)]
        go_simp
        exact hK _ _ (HK.out _ _ ⟨fun _ => ⟨below1 W _, ⟨W.heap.size, _, rfl, Nat.le_refl _, by simp, heap_alloc_new W _, rfl⟩⟩, fun h => absurd rfl h⟩)
      · refine wpOp_step (o := _) rfl fun K' hK => ?_
        rw [if_pos (by go_simp)]
        go_simp
        exact hK _ _ (HK.out _ _ ⟨fun _ => ⟨below1 W _, ⟨W.heap.size, _, rfl, Nat.le_refl _, by simp, heap_alloc_new W _, rfl⟩⟩, fun h => absurd rfl h⟩)
      · refine wpOp_step (o := _) rfl fun K' hK => ?_
        rw [if_pos (by go_simp)]
        obtain ⟨g, cs, e1, g1, g2, g3, g4⟩ : ∃ g cs, a.tmps.getD 8 undef = .pointer (some ⟨g, 0, none⟩) ∧ (iv 12).1 ≤ g ∧ g < (iv 12).2 ∧ W.heap[g]? = some (.cells cs 33 (0, 0)) ∧ cs.size = 3 := HAN.out 12 (by decide)
        obtain ⟨q0, q2, lo0, hi0, lo2, hi2, h0, o0, -, -, o2, -, -, -⟩ : ∃ q0 q2 lo0 hi0 lo2 hi2, a.tmps.getD 36 undef = .tuple #[q0, .agg #[.int .i64 p1f, .int .i64 p1g, .int .i64 r1h], q2, .int .i64 r3] ∧ Oc W q0 r0x r0y r0z lo0 hi0 ∧ (iv 6).1 ≤ lo0 ∧ hi0 ≤ (iv 6).2 ∧ Oin W q2 r2x lo2 hi2 ∧ (iv 6).1 ≤ lo2 ∧ hi2 ≤ (iv 6).2 ∧ _ := HAN.out 6 (by decide)
        obtain ⟨x0, y0, x1, y1, x2, y2, hf⟩ := o0.form
        rw [hf] at h0
        clear hf o0 o2
        have h1 : a.tmps.getD 29 undef = a.tmps.getD 36 undef := HAN.out 7 (by decide)
        rw [h0] at h1
        clear h0
        have h0 := h1
        clear h1
        have h1 : a.tmps.getD 37 undef = cmpV (a.tmps.getD 29 undef) 0 := HAN.out 8 (by decide)
        rw [h0] at h1
        clear h0
        have h0 : a.tmps.getD 37 undef = .agg #[.slice x0 r0x.length y0, .slice x1 r0y.length y1, .slice x2 r0z.length y2] := h1
        clear h1
        have G3 := hide g3
        obtain ⟨z0, z1, z2, rfl⟩ := size3 g4
        have c0 : W.cell? ⟨g, 0, none⟩ = some z0 := cell_of_row W g 0 _ _ (0, 0) g3
        have f0 : W.frozen? ⟨g, 0, none⟩ = false := frozen_of_row W g 0 _ _ g3
        have c1 : W.cell? ⟨g, 1, none⟩ = some z1 := cell_of_row W g 1 _ _ (0, 0) g3
        have f1 : W.frozen? ⟨g, 1, none⟩ = false := frozen_of_row W g 1 _ _ g3
        have c2 : W.cell? ⟨g, 2, none⟩ = some z2 := cell_of_row W g 2 _ _ (0, 0) g3
        have f2 : W.frozen? ⟨g, 2, none⟩ = false := frozen_of_row W g 2 _ _ g3
        clear g3 g4
        go_simp
        exact hK _ _ (HK.out undef _ ⟨fun h => absurd h (by decide), fun _ => ⟨segS3 g1 g2 _ _ _, ⟨g, _, e1, h0, g1, g2, heap_put3 G3.out rfl _ _ _⟩, fun j hj => by
          obtain rfl : j = 12 := by simpa using hj
          intro _
          exact ⟨g, _, e1, g1, g2, heap_put3 G3.out rfl _ _ _, rfl⟩⟩⟩)
      · refine wpOp_step (o := _) rfl fun K' hK => ?_
        rw [if_pos (by go_simp)]
        obtain ⟨g, cs, e1, g1, g2, g3, g4⟩ : ∃ g cs, a.tmps.getD 9 undef = .pointer (some ⟨g, 0, none⟩) ∧ (iv 13).1 ≤ g ∧ g < (iv 13).2 ∧ W.heap[g]? = some (.cells cs 34 (0, 0)) ∧ cs.size = 3 := HAN.out 13 (by decide)
        obtain ⟨q0, q2, lo0, hi0, lo2, hi2, h0, o0, -, -, o2, -, -, -⟩ : ∃ q0 q2 lo0 hi0 lo2 hi2, a.tmps.getD 36 undef = .tuple #[q0, .agg #[.int .i64 p1f, .int .i64 p1g, .int .i64 r1h], q2, .int .i64 r3] ∧ Oc W q0 r0x r0y r0z lo0 hi0 ∧ (iv 6).1 ≤ lo0 ∧ hi0 ≤ (iv 6).2 ∧ Oin W q2 r2x lo2 hi2 ∧ (iv 6).1 ≤ lo2 ∧ hi2 ≤ (iv 6).2 ∧ _ := HAN.out 6 (by decide)
        clear o0 o2
        have h1 : a.tmps.getD 29 undef = a.tmps.getD 36 undef := HAN.out 7 (by decide)
        rw [h0] at h1
        clear h0
        have h0 := h1
        clear h1
        have h1 : a.tmps.getD 38 undef = cmpV (a.tmps.getD 29 undef) 1 := HAN.out 9 (by decide)
        rw [h0] at h1
        clear h0
        have h0 : a.tmps.getD 38 undef = .agg #[.int .i64 p1f, .int .i64 p1g, .int .i64 r1h] := h1
        clear h1
        have G3 := hide g3
        obtain ⟨z0, z1, z2, rfl⟩ := size3 g4
        have c0 : W.cell? ⟨g, 0, none⟩ = some z0 := cell_of_row W g 0 _ _ (0, 0) g3
        have f0 : W.frozen? ⟨g, 0, none⟩ = false := frozen_of_row W g 0 _ _ g3
        have c1 : W.cell? ⟨g, 1, none⟩ = some z1 := cell_of_row W g 1 _ _ (0, 0) g3
        have f1 : W.frozen? ⟨g, 1, none⟩ = false := frozen_of_row W g 1 _ _ g3
        have c2 : W.cell? ⟨g, 2, none⟩ = some z2 := cell_of_row W g 2 _ _ (0, 0) g3
        have f2 : W.frozen? ⟨g, 2, none⟩ = false := frozen_of_row W g 2 _ _ g3
        clear g3 g4
        go_simp
        exact hK _ _ (HK.out undef _ ⟨fun h => absurd h (by decide), fun _ => ⟨segS3 g1 g2 _ _ _, ⟨g, _, e1, h0, g1, g2, heap_put3 G3.out rfl _ _ _⟩, fun j hj => by
          obtain rfl : j = 13 := by simpa using hj
          intro _
          exact ⟨g, _, e1, g1, g2, heap_put3 G3.out rfl _ _ _, rfl⟩⟩⟩)
      · refine wpOp_step (o := _) rfl fun K' hK => ?_
        rw [if_pos (by go_simp)]
        obtain ⟨y, e1⟩ : ∃ y, a.tmps.getD 39 undef = y := ⟨_, rfl⟩
        go_simp
        exact hK _ _ (HK.out _ _ ⟨fun _ => ⟨Below.refl _ _, e1.symm⟩, fun h => absurd rfl h⟩)
      · refine wpOp_step (o := _) rfl fun K' hK => ?_
        rw [if_pos (by go_simp)]
        obtain ⟨y, e1⟩ : ∃ y, a.tmps.getD 40 undef = y := ⟨_, rfl⟩
        go_simp
        exact hK _ _ (HK.out _ _ ⟨fun _ => ⟨Below.refl _ _, e1.symm⟩, fun h => absurd rfl h⟩)
    case fin =>
    intro a u2 iv I
    have hbY := I.below
    have X0 := X1
    have X := hide (X1.out.up hbY)
    clear X1
    have F0 : slot a 30 = .agg #[.slice s00 p0x.length c00, .slice s01 p0y.length c01, .slice s02 p0z.length c02] := (I.fact 0 (by decide) rfl).2
    have F1 : Oc u2 (slot a 31) p0x p0y p0z (iv 1).1 (iv 1).2 := (I.fact 1 (by decide) rfl).2
    have F2 : slot a 32 = .agg #[.int .i64 p1f, .int .i64 p1g, .int .i64 p1h] := (I.fact 2 (by decide) rfl).2
    have F3 : slot a 33 = .agg #[.int .i64 p1f, .int .i64 p1g, .int .i64 p1h] := (I.fact 3 (by decide) rfl).2
    have F4 : slot a 34 = .agg #[.int .i64 p2f, .int .i64 p2g] := (I.fact 4 (by decide) rfl).2
    have F5 : slot a 35 = .agg #[.int .i64 p2f, .int .i64 p2g] := (I.fact 5 (by decide) rfl).2
    have F6 : ∃ q0 q2 lo0 hi0 lo2 hi2, slot a 36 = .tuple #[q0, .agg #[.int .i64 p1f, .int .i64 p1g, .int .i64 r1h], q2, .int .i64 r3] ∧ Oc u2 q0 r0x r0y r0z lo0 hi0 ∧ (iv 6).1 ≤ lo0 ∧ hi0 ≤ (iv 6).2 ∧ Oin u2 q2 r2x lo2 hi2 ∧ (iv 6).1 ≤ lo2 ∧ hi2 ≤ (iv 6).2 ∧ (hi0 ≤ lo2 ∨ hi2 ≤ lo0) := (I.fact 6 (by decide) rfl).2
    have F7 : slot a 29 = slot a 36 := (I.fact 7 (by decide) rfl).2
    have F8 : slot a 37 = cmpV (slot a 29) 0 := (I.fact 8 (by decide) rfl).2
    have F9 : slot a 38 = cmpV (slot a 29) 1 := (I.fact 9 (by decide) rfl).2
    have F10 : slot a 39 = cmpV (slot a 29) 2 := (I.fact 10 (by decide) rfl).2
    have F11 : slot a 40 = cmpV (slot a 29) 3 := (I.fact 11 (by decide) rfl).2
    have F12 : ∃ g cs, slot a 8 = .pointer (some ⟨g, 0, none⟩) ∧ (iv 12).1 ≤ g ∧ g < (iv 12).2 ∧ u2.heap[g]? = some (.cells cs 33 (0, 0)) ∧ cs.size = 3 := (I.fact 12 (by decide) rfl).2
    have F13 : ∃ g cs, slot a 9 = .pointer (some ⟨g, 0, none⟩) ∧ (iv 13).1 ≤ g ∧ g < (iv 13).2 ∧ u2.heap[g]? = some (.cells cs 34 (0, 0)) ∧ cs.size = 3 := (I.fact 13 (by decide) rfl).2
    have F14 : ∃ g cs, slot a 8 = .pointer (some ⟨g, 0, none⟩) ∧ slot a 37 = .agg cs ∧ (iv 12).1 ≤ g ∧ g < (iv 12).2 ∧ u2.heap[g]? = some (.cells cs 33 (0, 0)) := (I.fact 14 (by decide) rfl).2
    have F15 : ∃ g cs, slot a 9 = .pointer (some ⟨g, 0, none⟩) ∧ slot a 38 = .agg cs ∧ (iv 13).1 ≤ g ∧ g < (iv 13).2 ∧ u2.heap[g]? = some (.cells cs 34 (0, 0)) := (I.fact 15 (by decide) rfl).2
    have F16 : slot a 10 = slot a 39 := (I.fact 16 (by decide) rfl).2
    have F17 : slot a 11 = slot a 40 := (I.fact 17 (by decide) rfl).2
    obtain ⟨iv6a, iv6b, iv6c⟩ := I.ivs 6 (by decide) rfl rfl
    obtain ⟨iv12a, iv12b, iv12c⟩ := I.ivs 12 (by decide) rfl rfl
    obtain ⟨iv13a, iv13b, iv13c⟩ := I.ivs 13 (by decide) rfl rfl
    have ap6_12 := I.apart 6 12 (by decide) (by decide) rfl rfl rfl rfl (by decide)
    have ap6_13 := I.apart 6 13 (by decide) (by decide) rfl rfl rfl rfl (by decide)
    have ap12_13 := I.apart 12 13 (by decide) (by decide) rfl rfl rfl rfl (by decide)
    have hfr := frame_of [30, 31, 32, 33, 34, 35, 36, 29, 37, 38, 39, 40, 8, 9, 10, 11] I.size I.defers (fun s hs => I.rest s (rfDsts_spec (by kernel_rfl) hs))
    skip
    obtain ⟨qA0, qA2, loA0, hiA0, loA2, hiA2, E36, CA0, laA0, lbA0, CA2, laA2, lbA2, axA0⟩ := F6
    obtain ⟨gA00, kA00, gA01, kA01, gA02, kA02, hf⟩ := CA0.form
    subst hf
    obtain ⟨gA20, kA20, hf⟩ := CA2.form
    subst hf
    rw [E36] at F7
    rw [F7] at F8
    have F8 : slot a 37 = .agg #[.slice gA00 r0x.length kA00, .slice gA01 r0y.length kA01, .slice gA02 r0z.length kA02] := F8
    rw [F7] at F9
    have F9 : slot a 38 = .agg #[.int .i64 p1f, .int .i64 p1g, .int .i64 r1h] := F9
    rw [F7] at F10
    have F10 : slot a 39 = .slice gA20 r2x.length kA20 := F10
    rw [F7] at F11
    have F11 : slot a 40 = .int .i64 r3 := F11
    obtain ⟨bA0, cs, E8, hv, g1bA0, g2bA0, hcbA0⟩ := F14
    rw [F8] at hv
    obtain rfl : cs = #[.slice gA00 r0x.length kA00, .slice gA01 r0y.length kA01, .slice gA02 r0z.length kA02] := by injection hv with hv; exact hv.symm
    clear hv
    obtain ⟨bA1, cs, E9, hv, g1bA1, g2bA1, hcbA1⟩ := F15
    rw [F9] at hv
    obtain rfl : cs = #[.int .i64 p1f, .int .i64 p1g, .int .i64 r1h] := by injection hv with hv; exact hv.symm
    clear hv
    rw [F10] at F16
    rw [F11] at F17
    rw [hfr]
    simp only [List.foldl_cons, List.foldl_nil, List.setIfInBounds_toArray, List.set_cons_succ, List.set_cons_zero, E36, F7, F8, F9, F10, F11, E8, E9, F16, F17]
    generalize slot a 30 = t30
    generalize slot a 31 = t31
    generalize slot a 32 = t32
    generalize slot a 33 = t33
    generalize slot a 34 = t34
    generalize slot a 35 = t35
    have XN := Kn.add (Kn.add (Kn.none hbY) hcbA0 (Nat.le_trans iv12a g1bA0) (fun e he => by simp at he)) hcbA1 (Nat.le_trans iv13a g1bA1) (fun e he => by simp at he; rcases he with rfl <;> (simp; omega))
    have X := hide (Kn.joinR X0.out XN)
    simp only [List.cons_append, List.nil_append] at X
    clear XN
    have NN2 := hide (hbY.size)
    have hw : u1.heap.size ≤ loA0 := by omega
    have NN3 := hide (hw)
    clear hw
    have hw : hiA0 ≤ u2.heap.size := by omega
    have NN4 := hide (hw)
    clear hw
    have hw : u1.heap.size ≤ loA2 := by omega
    have NN5 := hide (hw)
    clear hw
    have hw : hiA2 ≤ u2.heap.size := by omega
    have NN6 := hide (hw)
    clear hw
    have hw : u1.heap.size ≤ bA0 := by omega
    have NN7 := hide (hw)
    clear hw
    have hw : bA0 < u2.heap.size := by omega
    have NN8 := hide (hw)
    clear hw
    have DA0_bA0 := hide (show bA0 < loA0 ∨ hiA0 ≤ bA0 by omega)
    have DA2_bA0 := hide (show bA0 < loA2 ∨ hiA2 ≤ bA0 by omega)
    have hw : u1.heap.size ≤ bA1 := by omega
    have NN9 := hide (hw)
    clear hw
    have hw : bA1 < u2.heap.size := by omega
    have NN10 := hide (hw)
    clear hw
    have DA0_bA1 := hide (show bA1 < loA0 ∨ hiA0 ≤ bA1 by omega)
    have DA2_bA1 := hide (show bA1 < loA2 ∨ hiA2 ≤ bA1 by omega)
    have DA0_A2 := hide (show hiA0 ≤ loA2 ∨ hiA2 ≤ loA0 by omega)
    have CA0 := hide CA0
    have CA2 := hide CA2
    try clear I
    try clear hfr
    try clear hbY
    try clear X0
    try clear F0
    try clear F1
    try clear F2
    try clear F3
    try clear F4
    try clear F5
    try clear F6
    try clear F7
    try clear F8
    try clear F9
    try clear F10
    try clear F11
    try clear F12
    try clear F13
    try clear F14
    try clear F15
    try clear F16
    try clear F17
    try clear E36
    try clear E8
    try clear E9
    try clear iv6a
    try clear iv6b
    try clear iv6c
    try clear iv12a
    try clear iv12b
    try clear iv12c
    try clear iv13a
    try clear iv13b
    try clear iv13c
    try clear ap6_12
    try clear ap6_13
    try clear ap12_13
    try clear g1bA0
    try clear g2bA0
    try clear hcbA0
    try clear g1bA1
    try clear g2bA1
    try clear hcbA1
    try clear laA0
    try clear lbA0
    try clear laA2
    try clear lbA2
    try clear axA0
    try clear iv a
    have c0_0 : u2.cell? ⟨w.heap.size, 0, none⟩ = some (.slice s00 p0x.length c00) := X.out.cell 0 0 rfl rfl
    have c0_1 : u2.cell? ⟨w.heap.size, 1, none⟩ = some (.slice s01 p0y.length c01) := X.out.cell 0 1 rfl rfl
    have c0_2 : u2.cell? ⟨w.heap.size, 2, none⟩ = some (.slice s02 p0z.length c02) := X.out.cell 0 2 rfl rfl
    go_wp2_with fail
    clear c0_0 c0_1 c0_2
    go_at_call 11
    refine (T0.out _ X.out.below).mono ?_
    rintro e u3 ⟨vv, rfl, Cx0, hb⟩
    obtain ⟨gx00, kx00, gx01, kx01, gx02, kx02, hf⟩ := Cx0.form
    subst hf
    obtain ⟨lox0, hlo⟩ : ∃ q, q = u2.heap.size := ⟨_, rfl⟩
    obtain ⟨hix0, hhi⟩ : ∃ q, q = u3.heap.size := ⟨_, rfl⟩
    have hw : u2.heap.size ≤ lox0 := by omega
    have NX0a := hide hw
    have hw : hix0 ≤ u3.heap.size := by omega
    have NX0b := hide hw
    rw [← hlo, ← hhi] at Cx0
    have Cx0 := hide Cx0
    clear hw hlo hhi
    have X := hide (X.out.up hb)
    have CA0 := hide (CA0.out.below hb)
    have CA2 := hide (CA2.out.below hb)
    have NN11 := hide (hb.size)
    clear hb
    have hbl := below1 u3 (.cells #[.slice gx00 p0x.length kx00, .slice gx01 p0y.length kx01, .slice gx02 p0z.length kx02] 33)
    have X := hide (X.out.alloc #[.slice gx00 p0x.length kx00, .slice gx01 p0y.length kx01, .slice gx02 p0z.length kx02] 33)
    have CA0 := hide (CA0.out.below hbl)
    have CA2 := hide (CA2.out.below hbl)
    have Cx0 := hide (Cx0.out.below hbl)
    clear hbl
    obtain ⟨u4, hu4⟩ : ∃ q, q = u3.alloc (.cells #[.slice gx00 p0x.length kx00, .slice gx01 p0y.length kx01, .slice gx02 p0z.length kx02] 33) := ⟨_, rfl⟩
    obtain ⟨bx0, hbx0⟩ : ∃ q, q = u3.heap.size := ⟨_, rfl⟩
    have NN14 := hide (show bx0 = u3.heap.size ∧ u4.heap.size = u3.heap.size + 1 by rw [hu4, hbx0]; simp)
    rw [← hu4] at X CA0 CA2 Cx0
    rw [← hbx0] at X
    simp only [List.cons_append, List.nil_append] at X
    -- region 7
    go_upto_region 7 with fail
    rw [← hu4]
    try rw [← hbx0]
    clear hu4 hbx0
    have X1 := X
    refine wp_region_any (by kernel_rfl) ?_
    refine wpAny_facts (w0 := u4) (fun i => ([(fun lo hi s W => s 44 = .agg #[.slice gx00 p0x.length kx00, .slice gx01 p0y.length kx01, .slice gx02 p0z.length kx02]),
      (fun lo hi s W => s 45 = .agg #[.int .i64 p1f, .int .i64 p1g, .int .i64 p1h]),
      (fun lo hi s W => s 46 = .agg #[.int .i64 p1f, .int .i64 p1g, .int .i64 p1h]),
      (fun lo hi s W => s 47 = .agg #[.int .i64 p2f, .int .i64 p2g]),
      (fun lo hi s W => s 48 = .agg #[.int .i64 p2f, .int .i64 p2g]),
      (fun lo hi s W => ∃ q0 q2 lo0 hi0 lo2 hi2, s 49 = .tuple #[q0, .agg #[.int .i64 p1f, .int .i64 p1g, .int .i64 r1h], q2, .int .i64 r3] ∧ Oc W q0 r0x r0y r0z lo0 hi0 ∧ lo ≤ lo0 ∧ hi0 ≤ hi ∧ Oin W q2 r2x lo2 hi2 ∧ lo ≤ lo2 ∧ hi2 ≤ hi ∧ (hi0 ≤ lo2 ∨ hi2 ≤ lo0)),
      (fun lo hi s W => s 43 = s 49),
      (fun lo hi s W => s 50 = cmpV (s 43) 0),
      (fun lo hi s W => s 51 = cmpV (s 43) 1),
      (fun lo hi s W => s 52 = cmpV (s 43) 2),
      (fun lo hi s W => s 53 = cmpV (s 43) 3),
      (fun lo hi s W => ∃ g cs, s 13 = .pointer (some ⟨g, 0, none⟩) ∧ lo ≤ g ∧ g < hi ∧ W.heap[g]? = some (.cells cs 33 (0, 0)) ∧ cs.size = 3),
      (fun lo hi s W => ∃ g cs, s 14 = .pointer (some ⟨g, 0, none⟩) ∧ lo ≤ g ∧ g < hi ∧ W.heap[g]? = some (.cells cs 34 (0, 0)) ∧ cs.size = 3),
      (fun lo hi s W => ∃ g cs, s 13 = .pointer (some ⟨g, 0, none⟩) ∧ s 50 = .agg cs ∧ lo ≤ g ∧ g < hi ∧ W.heap[g]? = some (.cells cs 33 (0, 0))),
      (fun lo hi s W => ∃ g cs, s 14 = .pointer (some ⟨g, 0, none⟩) ∧ s 51 = .agg cs ∧ lo ≤ g ∧ g < hi ∧ W.heap[g]? = some (.cells cs 34 (0, 0))),
      (fun lo hi s W => s 15 = s 52),
      (fun lo hi s W => s 16 = s 53)] : List (Nat → Nat → (Nat → Value) → World → Prop)).getD i (fun _ _ _ _ => True)) [[], [], [1], [], [1, 2, 3], [0, 1, 2, 3, 4], [0, 1, 2, 3, 4, 5], [0, 1, 2, 3, 4, 5, 6], [0, 1, 2, 3, 4, 5, 6], [0, 1, 2, 3, 4, 5, 6], [0, 1, 2, 3, 4, 5, 6], [], [], [0, 1, 2, 3, 4, 5, 6, 7, 11, 12], [0, 1, 2, 3, 4, 5, 6, 7, 8, 11, 12, 13], [0, 1, 2, 3, 4, 5, 6, 7, 8, 9, 11, 12, 13, 14], [0, 1, 2, 3, 4, 5, 6, 7, 8, 9, 10, 11, 12, 13, 14, 15]] [0, 1, 2, 3, 4, 5, 6, 7, 8, 9, 10, 11, 12, 11, 12, 15, 16] [[44], [45], [46], [47], [48], [49], [43, 49], [50, 43], [51, 43], [52, 43], [53, 43], [13], [14], [13, 50], [14, 51], [15, 52], [16, 53]] [[], [], [], [], [], [], [], [], [], [], [], [], [], [11], [12], [], []] (by kernel_rfl) (by kernel_rfl) ?st ?step ?fin
    case st =>
      clear HSP HIP
      intro i hi lo hi' s W W' h q1 q2 q3 q4 k
      have hi : i < 17 := hi
      clear X X1 CA0 CA2 Cx0
      rcases (show i = 0 ∨ i = 1 ∨ i = 2 ∨ i = 3 ∨ i = 4 ∨ i = 5 ∨ i = 6 ∨ i = 7 ∨ i = 8 ∨ i = 9 ∨ i = 10 ∨ i = 11 ∨ i = 12 ∨ i = 13 ∨ i = 14 ∨ i = 15 ∨ i = 16 by omega) with rfl | rfl | rfl | rfl | rfl | rfl | rfl | rfl | rfl | rfl | rfl | rfl | rfl | rfl | rfl | rfl | rfl
      · have h : s 44 = .agg #[.slice gx00 p0x.length kx00, .slice gx01 p0y.length kx01, .slice gx02 p0z.length kx02] := h
        show s 44 = .agg #[.slice gx00 p0x.length kx00, .slice gx01 p0y.length kx01, .slice gx02 p0z.length kx02]
        exact h
      · have h : s 45 = .agg #[.int .i64 p1f, .int .i64 p1g, .int .i64 p1h] := h
        show s 45 = .agg #[.int .i64 p1f, .int .i64 p1g, .int .i64 p1h]
        exact h
      · have h : s 46 = .agg #[.int .i64 p1f, .int .i64 p1g, .int .i64 p1h] := h
        show s 46 = .agg #[.int .i64 p1f, .int .i64 p1g, .int .i64 p1h]
        exact h
      · have h : s 47 = .agg #[.int .i64 p2f, .int .i64 p2g] := h
        show s 47 = .agg #[.int .i64 p2f, .int .i64 p2g]
        exact h
      · have h : s 48 = .agg #[.int .i64 p2f, .int .i64 p2g] := h
        show s 48 = .agg #[.int .i64 p2f, .int .i64 p2g]
        exact h
      · have h : ∃ q0 q2 lo0 hi0 lo2 hi2, s 49 = .tuple #[q0, .agg #[.int .i64 p1f, .int .i64 p1g, .int .i64 r1h], q2, .int .i64 r3] ∧ Oc W q0 r0x r0y r0z lo0 hi0 ∧ lo ≤ lo0 ∧ hi0 ≤ hi' ∧ Oin W q2 r2x lo2 hi2 ∧ lo ≤ lo2 ∧ hi2 ≤ hi' ∧ (hi0 ≤ lo2 ∨ hi2 ≤ lo0) := h
        show ∃ q0 q2 lo0 hi0 lo2 hi2, s 49 = .tuple #[q0, .agg #[.int .i64 p1f, .int .i64 p1g, .int .i64 r1h], q2, .int .i64 r3] ∧ Oc W' q0 r0x r0y r0z lo0 hi0 ∧ lo ≤ lo0 ∧ hi0 ≤ hi' ∧ Oin W' q2 r2x lo2 hi2 ∧ lo ≤ lo2 ∧ hi2 ≤ hi' ∧ (hi0 ≤ lo2 ∨ hi2 ≤ lo0)
        obtain ⟨q0, q2, lo0, hi0, lo2, hi2, e1, o0, x0, y0, o2, x2, y2, ap0⟩ := h; exact ⟨_, _, _, _, _, _, e1, o0.on ⟨k.size, k.old, fun b b1 b2 b3 => k.own b (Nat.le_trans x0 b1) (Nat.lt_of_lt_of_le b2 y0) b3⟩, x0, y0, o2.on ⟨k.size, k.old, fun b b1 b2 b3 => k.own b (Nat.le_trans x2 b1) (Nat.lt_of_lt_of_le b2 y2) b3⟩, x2, y2, ap0⟩
      · have h : s 43 = s 49 := h
        show s 43 = s 49
        exact h
      · have h : s 50 = cmpV (s 43) 0 := h
        show s 50 = cmpV (s 43) 0
        exact h
      · have h : s 51 = cmpV (s 43) 1 := h
        show s 51 = cmpV (s 43) 1
        exact h
      · have h : s 52 = cmpV (s 43) 2 := h
        show s 52 = cmpV (s 43) 2
        exact h
      · have h : s 53 = cmpV (s 43) 3 := h
        show s 53 = cmpV (s 43) 3
        exact h
      · have h : ∃ g cs, s 13 = .pointer (some ⟨g, 0, none⟩) ∧ lo ≤ g ∧ g < hi' ∧ W.heap[g]? = some (.cells cs 33 (0, 0)) ∧ cs.size = 3 := h
        show ∃ g cs, s 13 = .pointer (some ⟨g, 0, none⟩) ∧ lo ≤ g ∧ g < hi' ∧ W'.heap[g]? = some (.cells cs 33 (0, 0)) ∧ cs.size = 3
        obtain ⟨g, cs, e1, e2, e3, e4, e5⟩ := h; exact ⟨g, cs, e1, e2, e3, (k.own g e2 e3 (Array.getElem?_eq_some_iff.1 e4).1).trans e4, e5⟩
      · have h : ∃ g cs, s 14 = .pointer (some ⟨g, 0, none⟩) ∧ lo ≤ g ∧ g < hi' ∧ W.heap[g]? = some (.cells cs 34 (0, 0)) ∧ cs.size = 3 := h
        show ∃ g cs, s 14 = .pointer (some ⟨g, 0, none⟩) ∧ lo ≤ g ∧ g < hi' ∧ W'.heap[g]? = some (.cells cs 34 (0, 0)) ∧ cs.size = 3
        obtain ⟨g, cs, e1, e2, e3, e4, e5⟩ := h; exact ⟨g, cs, e1, e2, e3, (k.own g e2 e3 (Array.getElem?_eq_some_iff.1 e4).1).trans e4, e5⟩
      · have h : ∃ g cs, s 13 = .pointer (some ⟨g, 0, none⟩) ∧ s 50 = .agg cs ∧ lo ≤ g ∧ g < hi' ∧ W.heap[g]? = some (.cells cs 33 (0, 0)) := h
        show ∃ g cs, s 13 = .pointer (some ⟨g, 0, none⟩) ∧ s 50 = .agg cs ∧ lo ≤ g ∧ g < hi' ∧ W'.heap[g]? = some (.cells cs 33 (0, 0))
        obtain ⟨g, cs, e1, e2, e3, e4, e5⟩ := h; exact ⟨g, cs, e1, e2, e3, e4, (k.own g e3 e4 (Array.getElem?_eq_some_iff.1 e5).1).trans e5⟩
      · have h : ∃ g cs, s 14 = .pointer (some ⟨g, 0, none⟩) ∧ s 51 = .agg cs ∧ lo ≤ g ∧ g < hi' ∧ W.heap[g]? = some (.cells cs 34 (0, 0)) := h
        show ∃ g cs, s 14 = .pointer (some ⟨g, 0, none⟩) ∧ s 51 = .agg cs ∧ lo ≤ g ∧ g < hi' ∧ W'.heap[g]? = some (.cells cs 34 (0, 0))
        obtain ⟨g, cs, e1, e2, e3, e4, e5⟩ := h; exact ⟨g, cs, e1, e2, e3, e4, (k.own g e3 e4 (Array.getElem?_eq_some_iff.1 e5).1).trans e5⟩
      · have h : s 15 = s 52 := h
        show s 15 = s 52
        exact h
      · have h : s 16 = s 53 := h
        show s 16 = s 53
        exact h
    case step =>
      intro i hi a W iv hb hsz hdf hrest hanc hivs hap K HK
      have hi : i < 17 := hi
      have HK := hide HK
      have HAN := hide hanc
      have HIV := hide hivs
      have HRS := hide hrest
      have XU := hide (X1.out.up hb)
      have HB := hide hb
      clear hanc hivs hap hrest hb hsz hdf X X1
      rcases (show i = 0 ∨ i = 1 ∨ i = 2 ∨ i = 3 ∨ i = 4 ∨ i = 5 ∨ i = 6 ∨ i = 7 ∨ i = 8 ∨ i = 9 ∨ i = 10 ∨ i = 11 ∨ i = 12 ∨ i = 13 ∨ i = 14 ∨ i = 15 ∨ i = 16 by omega) with rfl | rfl | rfl | rfl | rfl | rfl | rfl | rfl | rfl | rfl | rfl | rfl | rfl | rfl | rfl | rfl | rfl
      · refine wpOp_step (o := _) rfl fun K' hK => ?_
        rw [if_pos (by go_simp)]
        have e1 : a.tmps.getD 12 undef = .pointer (some ⟨bx0, 0, none⟩) := (HRS.out 12 (by decide)).trans rfl
        have c0 : W.cell? ⟨bx0, 0, none⟩ = some (.slice gx00 p0x.length kx00) := XU.out.cell 5 0 rfl rfl
        have c1 : W.cell? ⟨bx0, 1, none⟩ = some (.slice gx01 p0y.length kx01) := XU.out.cell 5 1 rfl rfl
        have c2 : W.cell? ⟨bx0, 2, none⟩ = some (.slice gx02 p0z.length kx02) := XU.out.cell 5 2 rfl rfl
        go_simp
        exact hK _ _ (HK.out _ _ ⟨fun _ => ⟨Below.refl _ _, rfl⟩, fun h => absurd rfl h⟩)
      · refine wpOp_step (o := _) rfl fun K' hK => ?_
        rw [if_pos (by go_simp)]
        have e1 : a.tmps.getD 4 undef = .pointer (some ⟨w.heap.size + 1, 0, none⟩) := (HRS.out 4 (by decide)).trans rfl
        have c0 : W.cell? ⟨w.heap.size + 1, 0, none⟩ = some (.int .i64 p1f) := XU.out.cell 1 0 rfl rfl
        have c1 : W.cell? ⟨w.heap.size + 1, 1, none⟩ = some (.int .i64 p1g) := XU.out.cell 1 1 rfl rfl
        have c2 : W.cell? ⟨w.heap.size + 1, 2, none⟩ = some (.int .i64 p1h) := XU.out.cell 1 2 rfl rfl
        go_simp
        exact hK _ _ (HK.out _ _ ⟨fun _ => ⟨Below.refl _ _, rfl⟩, fun h => absurd rfl h⟩)
      · refine wpOp_step (o := _) rfl fun K' hK => ?_
        rw [if_pos (by go_simp)]
        have e1 : a.tmps.getD 45 undef = .agg #[.int .i64 p1f, .int .i64 p1g, .int .i64 p1h] := HAN.out 1 (by decide)
        go_simp
        go_at_call 12
        refine (toSettings_any _ _ _ _).mono ?_
        rintro e W' ⟨rfl, hbb⟩
        skip
        exact hK _ _ (HK.out _ _ ⟨fun _ => ⟨hbb, rfl⟩, fun h => absurd rfl h⟩)
      · refine wpOp_step (o := _) rfl fun K' hK => ?_
        rw [if_pos (by go_simp)]
        have e1 : a.tmps.getD 5 undef = .pointer (some ⟨w.heap.size + 1 + 1, 0, none⟩) := (HRS.out 5 (by decide)).trans rfl
        have c0 : W.cell? ⟨w.heap.size + 1 + 1, 0, none⟩ = some (.int .i64 p2f) := XU.out.cell 2 0 rfl rfl
        have c1 : W.cell? ⟨w.heap.size + 1 + 1, 1, none⟩ = some (.int .i64 p2g) := XU.out.cell 2 1 rfl rfl
        go_simp
        exact hK _ _ (HK.out _ _ ⟨fun _ => ⟨Below.refl _ _, rfl⟩, fun h => absurd rfl h⟩)
      · refine wpOp_step (o := _) rfl fun K' hK => ?_
        rw [if_pos (by go_simp)]
        have e1 : a.tmps.getD 47 undef = .agg #[.int .i64 p2f, .int .i64 p2g] := HAN.out 3 (by decide)
        go_simp
        go_at_call 13
        refine (toRange_any _ _ _).mono ?_
        rintro e W' ⟨rfl, hbb⟩
        skip
        exact hK _ _ (HK.out _ _ ⟨fun _ => ⟨hbb, rfl⟩, fun h => absurd rfl h⟩)
      · refine wpOp_step (o := _) rfl fun K' hK => ?_
        rw [if_pos (by go_simp)]
        have e0 : a.tmps.getD 44 undef = .agg #[.slice gx00 p0x.length kx00, .slice gx01 p0y.length kx01, .slice gx02 p0z.length kx02] := HAN.out 0 (by decide)
        have e1 : a.tmps.getD 46 undef = .agg #[.int .i64 p1f, .int .i64 p1g, .int .i64 p1h] := HAN.out 2 (by decide)
        have e2 : a.tmps.getD 48 undef = .agg #[.int .i64 p2f, .int .i64 p2g] := HAN.out 4 (by decide)
        have k0 := hide (PD0.out _ _ _ _ (Cx0.out.below HB.out))
        go_simp
        go_at_call 14
        refine (HIP.out _ _ k0.out).mono ?_
        rintro e W' ⟨q0, q1, lo0, hi0, lo1, hi1, rfl, o0, l0, o1, l1, ap0, hbb⟩
        skip
        exact hK _ _ (HK.out _ _ ⟨fun _ => ⟨hbb, ⟨_, _, _, _, _, _, rfl, o0, l0, o0.top.2, o1, l1, o1.top.2, ap0⟩⟩, fun h => absurd rfl h⟩)
      · refine wpOp_step (o := _) rfl fun K' hK => ?_
        rw [if_pos (by go_simp)]
        obtain ⟨y, e1⟩ : ∃ y, a.tmps.getD 49 undef = y := ⟨_, rfl⟩
        go_simp
        exact hK _ _ (HK.out _ _ ⟨fun _ => ⟨Below.refl _ _, e1.symm⟩, fun h => absurd rfl h⟩)
      · refine wpOp_step (o := _) rfl fun K' hK => ?_
        rw [if_pos (by go_simp)]
        have h0 := HAN.out 5 (by decide)
        obtain ⟨q0, q2, _, _, _, _, h0, -⟩ : ∃ q0 q2 lo0 hi0 lo2 hi2, a.tmps.getD 49 undef = .tuple #[q0, .agg #[.int .i64 p1f, .int .i64 p1g, .int .i64 r1h], q2, .int .i64 r3] ∧ _ := h0
        have h1 : a.tmps.getD 43 undef = a.tmps.getD 49 undef := HAN.out 6 (by decide)
        rw [h0] at h1
        clear h0
        have h0 := h1
        clear h1
        go_simp
        exact hK _ _ (HK.out _ _ ⟨fun _ => ⟨Below.refl _ _, by show _ = cmpV (a.tmps.getD 43 undef) 0; rw [h0]; rfl⟩, fun h => absurd rfl h⟩)
      · refine wpOp_step (o := _) rfl fun K' hK => ?_
        rw [if_pos (by go_simp)]
        have h0 := HAN.out 5 (by decide)
        obtain ⟨q0, q2, _, _, _, _, h0, -⟩ : ∃ q0 q2 lo0 hi0 lo2 hi2, a.tmps.getD 49 undef = .tuple #[q0, .agg #[.int .i64 p1f, .int .i64 p1g, .int .i64 r1h], q2, .int .i64 r3] ∧ _ := h0
        have h1 : a.tmps.getD 43 undef = a.tmps.getD 49 undef := HAN.out 6 (by decide)
        rw [h0] at h1
        clear h0
        have h0 := h1
        clear h1
        go_simp
        exact hK _ _ (HK.out _ _ ⟨fun _ => ⟨Below.refl _ _, by show _ = cmpV (a.tmps.getD 43 undef) 1; rw [h0]; rfl⟩, fun h => absurd rfl h⟩)
      · refine wpOp_step (o := _) rfl fun K' hK => ?_
        rw [if_pos (by go_simp)]
        have h0 := HAN.out 5 (by decide)
        obtain ⟨q0, q2, _, _, _, _, h0, -⟩ : ∃ q0 q2 lo0 hi0 lo2 hi2, a.tmps.getD 49 undef = .tuple #[q0, .agg #[.int .i64 p1f, .int .i64 p1g, .int .i64 r1h], q2, .int .i64 r3] ∧ _ := h0
        have h1 : a.tmps.getD 43 undef = a.tmps.getD 49 undef := HAN.out 6 (by decide)
        rw [h0] at h1
        clear h0
        have h0 := h1
        clear h1
        go_simp
        exact hK _ _ (HK.out _ _ ⟨fun _ => ⟨Below.refl _ _, by show _ = cmpV (a.tmps.getD 43 undef) 2; rw [h0]; rfl⟩, fun h => absurd rfl h⟩)
      · refine wpOp_step (o := _) rfl fun K' hK => ?_
        rw [if_pos (by go_simp)]
        have h0 := HAN.out 5 (by decide)
        obtain ⟨q0, q2, _, _, _, _, h0, -⟩ : ∃ q0 q2 lo0 hi0 lo2 hi2, a.tmps.getD 49 undef = .tuple #[q0, .agg #[.int .i64 p1f, .int .i64 p1g, .int .i64 r1h], q2, .int .i64 r3] ∧ _ := h0
        have h1 : a.tmps.getD 43 undef = a.tmps.getD 49 undef := HAN.out 6 (by decide)
        rw [h0] at h1
        clear h0
        have h0 := h1
        clear h1
        go_simp
        exact hK _ _ (HK.out _ _ ⟨fun _ => ⟨Below.refl _ _, by show _ = cmpV (a.tmps.getD 43 undef) 3; rw [h0]; rfl⟩, fun h => absurd rfl h⟩)
      · refine wpOp_step (o := _) rfl fun K' hK => ?_
        rw [if_pos (by go_simp)]
        go_simp
        exact hK _ _ (HK.out _ _ ⟨fun _ => ⟨below1 W _, ⟨W.heap.size, _, rfl, Nat.le_refl _, by simp, heap_alloc_new W _, rfl⟩⟩, fun h => absurd rfl h⟩)
      · refine wpOp_step (o := _) rfl fun K' hK => ?_
        rw [if_pos (by go_simp)]
        go_simp
        exact hK _ _ (HK.out _ _ ⟨fun _ => ⟨below1 W _, ⟨W.heap.size, _, rfl, Nat.le_refl _, by simp, heap_alloc_new W _, rfl⟩⟩, fun h => absurd rfl h⟩)
      · refine wpOp_step (o := _) rfl fun K' hK => ?_
        rw [if_pos (by go_simp)]
        obtain ⟨g, cs, e1, g1, g2, g3, g4⟩ : ∃ g cs, a.tmps.getD 13 undef = .pointer (some ⟨g, 0, none⟩) ∧ (iv 11).1 ≤ g ∧ g < (iv 11).2 ∧ W.heap[g]? = some (.cells cs 33 (0, 0)) ∧ cs.size = 3 := HAN.out 11 (by decide)
        obtain ⟨q0, q2, lo0, hi0, lo2, hi2, h0, o0, -, -, o2, -, -, -⟩ : ∃ q0 q2 lo0 hi0 lo2 hi2, a.tmps.getD 49 undef = .tuple #[q0, .agg #[.int .i64 p1f, .int .i64 p1g, .int .i64 r1h], q2, .int .i64 r3] ∧ Oc W q0 r0x r0y r0z lo0 hi0 ∧ (iv 5).1 ≤ lo0 ∧ hi0 ≤ (iv 5).2 ∧ Oin W q2 r2x lo2 hi2 ∧ (iv 5).1 ≤ lo2 ∧ hi2 ≤ (iv 5).2 ∧ _ := HAN.out 5 (by decide)
        obtain ⟨x0, y0, x1, y1, x2, y2, hf⟩ := o0.form
        rw [hf] at h0
        clear hf o0 o2
        have h1 : a.tmps.getD 43 undef = a.tmps.getD 49 undef := HAN.out 6 (by decide)
        rw [h0] at h1
        clear h0
        have h0 := h1
        clear h1
        have h1 : a.tmps.getD 50 undef = cmpV (a.tmps.getD 43 undef) 0 := HAN.out 7 (by decide)
        rw [h0] at h1
        clear h0
        have h0 : a.tmps.getD 50 undef = .agg #[.slice x0 r0x.length y0, .slice x1 r0y.length y1, .slice x2 r0z.length y2] := h1
        clear h1
        have G3 := hide g3
        obtain ⟨z0, z1, z2, rfl⟩ := size3 g4
        have c0 : W.cell? ⟨g, 0, none⟩ = some z0 := cell_of_row W g 0 _ _ (0, 0) g3
        have f0 : W.frozen? ⟨g, 0, none⟩ = false := frozen_of_row W g 0 _ _ g3
        have c1 : W.cell? ⟨g, 1, none⟩ = some z1 := cell_of_row W g 1 _ _ (0, 0) g3
        have f1 : W.frozen? ⟨g, 1, none⟩ = false := frozen_of_row W g 1 _ _ g3
        have c2 : W.cell? ⟨g, 2, none⟩ = some z2 := cell_of_row W g 2 _ _ (0, 0) g3
        have f2 : W.frozen? ⟨g, 2, none⟩ = false := frozen_of_row W g 2 _ _ g3
        clear g3 g4
        go_simp
        exact hK _ _ (HK.out undef _ ⟨fun h => absurd h (by decide), fun _ => ⟨segS3 g1 g2 _ _ _, ⟨g, _, e1, h0, g1, g2, heap_put3 G3.out rfl _ _ _⟩, fun j hj => by
          obtain rfl : j = 11 := by simpa using hj
          intro _
          exact ⟨g, _, e1, g1, g2, heap_put3 G3.out rfl _ _ _, rfl⟩⟩⟩)
      · refine wpOp_step (o := _) rfl fun K' hK => ?_
        rw [if_pos (by go_simp)]
        obtain ⟨g, cs, e1, g1, g2, g3, g4⟩ : ∃ g cs, a.tmps.getD 14 undef = .pointer (some ⟨g, 0, none⟩) ∧ (iv 12).1 ≤ g ∧ g < (iv 12).2 ∧ W.heap[g]? = some (.cells cs 34 (0, 0)) ∧ cs.size = 3 := HAN.out 12 (by decide)
        obtain ⟨q0, q2, lo0, hi0, lo2, hi2, h0, o0, -, -, o2, -, -, -⟩ : ∃ q0 q2 lo0 hi0 lo2 hi2, a.tmps.getD 49 undef = .tuple #[q0, .agg #[.int .i64 p1f, .int .i64 p1g, .int .i64 r1h], q2, .int .i64 r3] ∧ Oc W q0 r0x r0y r0z lo0 hi0 ∧ (iv 5).1 ≤ lo0 ∧ hi0 ≤ (iv 5).2 ∧ Oin W q2 r2x lo2 hi2 ∧ (iv 5).1 ≤ lo2 ∧ hi2 ≤ (iv 5).2 ∧ _ := HAN.out 5 (by decide)
        clear o0 o2
        have h1 : a.tmps.getD 43 undef = a.tmps.getD 49 undef := HAN.out 6 (by decide)
        rw [h0] at h1
        clear h0
        have h0 := h1
        clear h1
        have h1 : a.tmps.getD 51 undef = cmpV (a.tmps.getD 43 undef) 1 := HAN.out 8 (by decide)
        rw [h0] at h1
        clear h0
        have h0 : a.tmps.getD 51 undef = .agg #[.int .i64 p1f, .int .i64 p1g, .int .i64 r1h] := h1
        clear h1
        have G3 := hide g3
        obtain ⟨z0, z1, z2, rfl⟩ := size3 g4
        have c0 : W.cell? ⟨g, 0, none⟩ = some z0 := cell_of_row W g 0 _ _ (0, 0) g3
        have f0 : W.frozen? ⟨g, 0, none⟩ = false := frozen_of_row W g 0 _ _ g3
        have c1 : W.cell? ⟨g, 1, none⟩ = some z1 := cell_of_row W g 1 _ _ (0, 0) g3
        have f1 : W.frozen? ⟨g, 1, none⟩ = false := frozen_of_row W g 1 _ _ g3
        have c2 : W.cell? ⟨g, 2, none⟩ = some z2 := cell_of_row W g 2 _ _ (0, 0) g3
        have f2 : W.frozen? ⟨g, 2, none⟩ = false := frozen_of_row W g 2 _ _ g3
        clear g3 g4
        go_simp
        exact hK _ _ (HK.out undef _ ⟨fun h => absurd h (by decide), fun _ => ⟨segS3 g1 g2 _ _ _, ⟨g, _, e1, h0, g1, g2, heap_put3 G3.out rfl _ _ _⟩, fun j hj => by
          obtain rfl : j = 12 := by simpa using hj
          intro _
          exact ⟨g, _, e1, g1, g2, heap_put3 G3.out rfl _ _ _, rfl⟩⟩⟩)
      · refine wpOp_step (o := _) rfl fun K' hK => ?_
        rw [if_pos (by go_simp)]
        obtain ⟨y, e1⟩ : ∃ y, a.tmps.getD 52 undef = y := ⟨_, rfl⟩
        go_simp
        exact hK _ _ (HK.out _ _ ⟨fun _ => ⟨Below.refl _ _, e1.symm⟩, fun h => absurd rfl h⟩)
      · refine wpOp_step (o := _) rfl fun K' hK => ?_
        rw [if_pos (by go_simp)]
        obtain ⟨y, e1⟩ : ∃ y, a.tmps.getD 53 undef = y := ⟨_, rfl⟩
        go_simp
        exact hK _ _ (HK.out _ _ ⟨fun _ => ⟨Below.refl _ _, e1.symm⟩, fun h => absurd rfl h⟩)
    case fin =>
    intro a u5 iv I
    have hbY := I.below
    have CA0 := hide (CA0.out.below hbY)
    have CA2 := hide (CA2.out.below hbY)
    have Cx0 := hide (Cx0.out.below hbY)
    have X0 := X1
    have X := hide (X1.out.up hbY)
    clear X1
    have F0 : slot a 44 = .agg #[.slice gx00 p0x.length kx00, .slice gx01 p0y.length kx01, .slice gx02 p0z.length kx02] := (I.fact 0 (by decide) rfl).2
    have F1 : slot a 45 = .agg #[.int .i64 p1f, .int .i64 p1g, .int .i64 p1h] := (I.fact 1 (by decide) rfl).2
    have F2 : slot a 46 = .agg #[.int .i64 p1f, .int .i64 p1g, .int .i64 p1h] := (I.fact 2 (by decide) rfl).2
    have F3 : slot a 47 = .agg #[.int .i64 p2f, .int .i64 p2g] := (I.fact 3 (by decide) rfl).2
    have F4 : slot a 48 = .agg #[.int .i64 p2f, .int .i64 p2g] := (I.fact 4 (by decide) rfl).2
    have F5 : ∃ q0 q2 lo0 hi0 lo2 hi2, slot a 49 = .tuple #[q0, .agg #[.int .i64 p1f, .int .i64 p1g, .int .i64 r1h], q2, .int .i64 r3] ∧ Oc u5 q0 r0x r0y r0z lo0 hi0 ∧ (iv 5).1 ≤ lo0 ∧ hi0 ≤ (iv 5).2 ∧ Oin u5 q2 r2x lo2 hi2 ∧ (iv 5).1 ≤ lo2 ∧ hi2 ≤ (iv 5).2 ∧ (hi0 ≤ lo2 ∨ hi2 ≤ lo0) := (I.fact 5 (by decide) rfl).2
    have F6 : slot a 43 = slot a 49 := (I.fact 6 (by decide) rfl).2
    have F7 : slot a 50 = cmpV (slot a 43) 0 := (I.fact 7 (by decide) rfl).2
    have F8 : slot a 51 = cmpV (slot a 43) 1 := (I.fact 8 (by decide) rfl).2
    have F9 : slot a 52 = cmpV (slot a 43) 2 := (I.fact 9 (by decide) rfl).2
    have F10 : slot a 53 = cmpV (slot a 43) 3 := (I.fact 10 (by decide) rfl).2
    have F11 : ∃ g cs, slot a 13 = .pointer (some ⟨g, 0, none⟩) ∧ (iv 11).1 ≤ g ∧ g < (iv 11).2 ∧ u5.heap[g]? = some (.cells cs 33 (0, 0)) ∧ cs.size = 3 := (I.fact 11 (by decide) rfl).2
    have F12 : ∃ g cs, slot a 14 = .pointer (some ⟨g, 0, none⟩) ∧ (iv 12).1 ≤ g ∧ g < (iv 12).2 ∧ u5.heap[g]? = some (.cells cs 34 (0, 0)) ∧ cs.size = 3 := (I.fact 12 (by decide) rfl).2
    have F13 : ∃ g cs, slot a 13 = .pointer (some ⟨g, 0, none⟩) ∧ slot a 50 = .agg cs ∧ (iv 11).1 ≤ g ∧ g < (iv 11).2 ∧ u5.heap[g]? = some (.cells cs 33 (0, 0)) := (I.fact 13 (by decide) rfl).2
    have F14 : ∃ g cs, slot a 14 = .pointer (some ⟨g, 0, none⟩) ∧ slot a 51 = .agg cs ∧ (iv 12).1 ≤ g ∧ g < (iv 12).2 ∧ u5.heap[g]? = some (.cells cs 34 (0, 0)) := (I.fact 14 (by decide) rfl).2
    have F15 : slot a 15 = slot a 52 := (I.fact 15 (by decide) rfl).2
    have F16 : slot a 16 = slot a 53 := (I.fact 16 (by decide) rfl).2
    obtain ⟨iv5a, iv5b, iv5c⟩ := I.ivs 5 (by decide) rfl rfl
    obtain ⟨iv11a, iv11b, iv11c⟩ := I.ivs 11 (by decide) rfl rfl
    obtain ⟨iv12a, iv12b, iv12c⟩ := I.ivs 12 (by decide) rfl rfl
    have ap5_11 := I.apart 5 11 (by decide) (by decide) rfl rfl rfl rfl (by decide)
    have ap5_12 := I.apart 5 12 (by decide) (by decide) rfl rfl rfl rfl (by decide)
    have ap11_12 := I.apart 11 12 (by decide) (by decide) rfl rfl rfl rfl (by decide)
    have hfr := frame_of [44, 45, 46, 47, 48, 49, 43, 50, 51, 52, 53, 13, 14, 15, 16] I.size I.defers (fun s hs => I.rest s (rfDsts_spec (by kernel_rfl) hs))
    skip
    obtain ⟨qG0, qG2, loG0, hiG0, loG2, hiG2, E49, CG0, laG0, lbG0, CG2, laG2, lbG2, axG0⟩ := F5
    obtain ⟨gG00, kG00, gG01, kG01, gG02, kG02, hf⟩ := CG0.form
    subst hf
    obtain ⟨gG20, kG20, hf⟩ := CG2.form
    subst hf
    rw [E49] at F6
    rw [F6] at F7
    have F7 : slot a 50 = .agg #[.slice gG00 r0x.length kG00, .slice gG01 r0y.length kG01, .slice gG02 r0z.length kG02] := F7
    rw [F6] at F8
    have F8 : slot a 51 = .agg #[.int .i64 p1f, .int .i64 p1g, .int .i64 r1h] := F8
    rw [F6] at F9
    have F9 : slot a 52 = .slice gG20 r2x.length kG20 := F9
    rw [F6] at F10
    have F10 : slot a 53 = .int .i64 r3 := F10
    obtain ⟨bG0, cs, E13, hv, g1bG0, g2bG0, hcbG0⟩ := F13
    rw [F7] at hv
    obtain rfl : cs = #[.slice gG00 r0x.length kG00, .slice gG01 r0y.length kG01, .slice gG02 r0z.length kG02] := by injection hv with hv; exact hv.symm
    clear hv
    obtain ⟨bG1, cs, E14, hv, g1bG1, g2bG1, hcbG1⟩ := F14
    rw [F8] at hv
    obtain rfl : cs = #[.int .i64 p1f, .int .i64 p1g, .int .i64 r1h] := by injection hv with hv; exact hv.symm
    clear hv
    rw [F9] at F15
    rw [F10] at F16
    rw [hfr]
    simp only [List.foldl_cons, List.foldl_nil, List.setIfInBounds_toArray, List.set_cons_succ, List.set_cons_zero, E49, F6, F7, F8, F9, F10, E13, E14, F15, F16]
    generalize slot a 44 = t44
    generalize slot a 45 = t45
    generalize slot a 46 = t46
    generalize slot a 47 = t47
    generalize slot a 48 = t48
    have XN := Kn.add (Kn.add (Kn.none hbY) hcbG0 (Nat.le_trans iv11a g1bG0) (fun e he => by simp at he)) hcbG1 (Nat.le_trans iv12a g1bG1) (fun e he => by simp at he; rcases he with rfl <;> (simp; omega))
    have X := hide (Kn.joinR X0.out XN)
    simp only [List.cons_append, List.nil_append] at X
    clear XN
    have NN15 := hide (hbY.size)
    have hw : u4.heap.size ≤ loG0 := by omega
    have NN16 := hide (hw)
    clear hw
    have hw : hiG0 ≤ u5.heap.size := by omega
    have NN17 := hide (hw)
    clear hw
    have hw : u4.heap.size ≤ loG2 := by omega
    have NN18 := hide (hw)
    clear hw
    have hw : hiG2 ≤ u5.heap.size := by omega
    have NN19 := hide (hw)
    clear hw
    have hw : u4.heap.size ≤ bG0 := by omega
    have NN20 := hide (hw)
    clear hw
    have hw : bG0 < u5.heap.size := by omega
    have NN21 := hide (hw)
    clear hw
    have DG0_bG0 := hide (show bG0 < loG0 ∨ hiG0 ≤ bG0 by omega)
    have DG2_bG0 := hide (show bG0 < loG2 ∨ hiG2 ≤ bG0 by omega)
    have hw : u4.heap.size ≤ bG1 := by omega
    have NN22 := hide (hw)
    clear hw
    have hw : bG1 < u5.heap.size := by omega
    have NN23 := hide (hw)
    clear hw
    have DG0_bG1 := hide (show bG1 < loG0 ∨ hiG0 ≤ bG1 by omega)
    have DG2_bG1 := hide (show bG1 < loG2 ∨ hiG2 ≤ bG1 by omega)
    have DG0_G2 := hide (show hiG0 ≤ loG2 ∨ hiG2 ≤ loG0 by omega)
    have CG0 := hide CG0
    have CG2 := hide CG2
    try clear I
    try clear hfr
    try clear hbY
    try clear X0
    try clear F0
    try clear F1
    try clear F2
    try clear F3
    try clear F4
    try clear F5
    try clear F6
    try clear F7
    try clear F8
    try clear F9
    try clear F10
    try clear F11
    try clear F12
    try clear F13
    try clear F14
    try clear F15
    try clear F16
    try clear E49
    try clear E13
    try clear E14
    try clear iv5a
    try clear iv5b
    try clear iv5c
    try clear iv11a
    try clear iv11b
    try clear iv11c
    try clear iv12a
    try clear iv12b
    try clear iv12c
    try clear ap5_11
    try clear ap5_12
    try clear ap11_12
    try clear g1bG0
    try clear g2bG0
    try clear hcbG0
    try clear g1bG1
    try clear g2bG1
    try clear hcbG1
    try clear laG0
    try clear lbG0
    try clear laG2
    try clear lbG2
    try clear axG0
    try clear iv a
    have c6_0 : u5.cell? ⟨bG0, 0, none⟩ = some (.slice gG00 r0x.length kG00) := X.out.cell 6 0 rfl rfl
    have c6_1 : u5.cell? ⟨bG0, 1, none⟩ = some (.slice gG01 r0y.length kG01) := X.out.cell 6 1 rfl rfl
    have c6_2 : u5.cell? ⟨bG0, 2, none⟩ = some (.slice gG02 r0z.length kG02) := X.out.cell 6 2 rfl rfl
    have c3_0 : u5.cell? ⟨bA0, 0, none⟩ = some (.slice gA00 r0x.length kA00) := X.out.cell 3 0 rfl rfl
    have c3_1 : u5.cell? ⟨bA0, 1, none⟩ = some (.slice gA01 r0y.length kA01) := X.out.cell 3 1 rfl rfl
    have c3_2 : u5.cell? ⟨bA0, 2, none⟩ = some (.slice gA02 r0z.length kA02) := X.out.cell 3 2 rfl rfl
    go_wp2_with fail
    clear c6_0 c6_1 c6_2 c3_0 c3_1 c3_2
    go_at_call 15
    refine (eqCracker_same _ _ r0x r0y r0z _ _ (Nat.le_refl _) (RD0.out _ _ _ _ CG0.out) (RD0.out _ _ _ _ CA0.out)).mono ?_
    rintro e u6 ⟨rfl, hb⟩
    have X := hide (X.out.up hb)
    have CA0 := hide (CA0.out.below hb)
    have CA2 := hide (CA2.out.below hb)
    have Cx0 := hide (Cx0.out.below hb)
    have CG0 := hide (CG0.out.below hb)
    have CG2 := hide (CG2.out.below hb)
    have NN24 := hide (hb.size)
    clear hb
    have c7_0 : u6.cell? ⟨bG1, 0, none⟩ = some (.int .i64 p1f) := X.out.cell 7 0 rfl rfl
    have c7_1 : u6.cell? ⟨bG1, 1, none⟩ = some (.int .i64 p1g) := X.out.cell 7 1 rfl rfl
    have c7_2 : u6.cell? ⟨bG1, 2, none⟩ = some (.int .i64 r1h) := X.out.cell 7 2 rfl rfl
    have c4_0 : u6.cell? ⟨bA1, 0, none⟩ = some (.int .i64 p1f) := X.out.cell 4 0 rfl rfl
    have c4_1 : u6.cell? ⟨bA1, 1, none⟩ = some (.int .i64 p1g) := X.out.cell 4 1 rfl rfl
    have c4_2 : u6.cell? ⟨bA1, 2, none⟩ = some (.int .i64 r1h) := X.out.cell 4 2 rfl rfl
    go_wp2_with fail
    clear c7_0 c7_1 c7_2 c4_0 c4_1 c4_2
    go_at_call 16
    refine (eqSettings_same _ _ _ _).mono ?_
    rintro e u7 ⟨rfl, hb⟩
    have X := hide (X.out.up hb)
    have CA0 := hide (CA0.out.below hb)
    have CA2 := hide (CA2.out.below hb)
    have Cx0 := hide (Cx0.out.below hb)
    have CG0 := hide (CG0.out.below hb)
    have CG2 := hide (CG2.out.below hb)
    have NN25 := hide (hb.size)
    clear hb
    go_wp2_with fail
    go_at_call 17
    refine (eqIntS_same _ _ r2x _ _ (Nat.le_refl _) (RD2.out _ _ _ _ CG2.out) (RD2.out _ _ _ _ CA2.out)).mono ?_
    rintro e u8 ⟨rfl, hb⟩
    have X := hide (X.out.up hb)
    have CA0 := hide (CA0.out.below hb)
    have CA2 := hide (CA2.out.below hb)
    have Cx0 := hide (Cx0.out.below hb)
    have CG0 := hide (CG0.out.below hb)
    have CG2 := hide (CG2.out.below hb)
    have NN26 := hide (hb.size)
    clear hb
    -- region 10
    go_upto_region 10 with fail
    have X1 := X
    refine wp_region_any (by kernel_rfl) ?_
    refine wpAny_facts (w0 := u8) (fun i => ([(fun lo hi s W => s 75 = .agg #[.slice gx00 p0x.length kx00, .slice gx01 p0y.length kx01, .slice gx02 p0z.length kx02]),
      (fun lo hi s W => s 76 = .agg #[.slice s00 p0x.length c00, .slice s01 p0y.length c01, .slice s02 p0z.length c02]),
      (fun lo hi s W => Oc W (s 77) p0x p0y p0z lo hi),
      (fun lo hi s W => s 78 = .bool true),
      (fun lo hi s W => s 79 = .bool false)] : List (Nat → Nat → (Nat → Value) → World → Prop)).getD i (fun _ _ _ _ => True)) [[], [], [1], [0, 1, 2], [0, 1, 2, 3]] [0, 1, 2, 3, 4] [[75], [76], [77], [78], [79]] [[], [], [], [], []] (by kernel_rfl) (by kernel_rfl) ?st ?step ?fin
    case st =>
      clear HSP HIP
      intro i hi lo hi' s W W' h q1 q2 q3 q4 k
      have hi : i < 5 := hi
      clear X X1 CA0 CA2 Cx0 CG0 CG2
      rcases (show i = 0 ∨ i = 1 ∨ i = 2 ∨ i = 3 ∨ i = 4 by omega) with rfl | rfl | rfl | rfl | rfl
      · have h : s 75 = .agg #[.slice gx00 p0x.length kx00, .slice gx01 p0y.length kx01, .slice gx02 p0z.length kx02] := h
        show s 75 = .agg #[.slice gx00 p0x.length kx00, .slice gx01 p0y.length kx01, .slice gx02 p0z.length kx02]
        exact h
      · have h : s 76 = .agg #[.slice s00 p0x.length c00, .slice s01 p0y.length c01, .slice s02 p0z.length c02] := h
        show s 76 = .agg #[.slice s00 p0x.length c00, .slice s01 p0y.length c01, .slice s02 p0z.length c02]
        exact h
      · have h : Oc W (s 77) p0x p0y p0z lo hi' := h
        show Oc W' (s 77) p0x p0y p0z lo hi'
        exact h.on k
      · have h : s 78 = .bool true := h
        show s 78 = .bool true
        exact h
      · have h : s 79 = .bool false := h
        show s 79 = .bool false
        exact h
    case step =>
      intro i hi a W iv hb hsz hdf hrest hanc hivs hap K HK
      have hi : i < 5 := hi
      have HK := hide HK
      have HAN := hide hanc
      have HIV := hide hivs
      have HRS := hide hrest
      have XU := hide (X1.out.up hb)
      have HB := hide hb
      clear hanc hivs hap hrest hb hsz hdf X X1
      rcases (show i = 0 ∨ i = 1 ∨ i = 2 ∨ i = 3 ∨ i = 4 by omega) with rfl | rfl | rfl | rfl | rfl
      · refine wpOp_step (o := _) rfl fun K' hK => ?_
        rw [if_pos (by go_simp)]
        have e1 : a.tmps.getD 12 undef = .pointer (some ⟨bx0, 0, none⟩) := (HRS.out 12 (by decide)).trans rfl
        have c0 : W.cell? ⟨bx0, 0, none⟩ = some (.slice gx00 p0x.length kx00) := XU.out.cell 5 0 rfl rfl
        have c1 : W.cell? ⟨bx0, 1, none⟩ = some (.slice gx01 p0y.length kx01) := XU.out.cell 5 1 rfl rfl
        have c2 : W.cell? ⟨bx0, 2, none⟩ = some (.slice gx02 p0z.length kx02) := XU.out.cell 5 2 rfl rfl
        go_simp
        exact hK _ _ (HK.out _ _ ⟨fun _ => ⟨Below.refl _ _, rfl⟩, fun h => absurd rfl h⟩)
      · refine wpOp_step (o := _) rfl fun K' hK => ?_
        rw [if_pos (by go_simp)]
        have e1 : a.tmps.getD 3 undef = .pointer (some ⟨w.heap.size, 0, none⟩) := (HRS.out 3 (by decide)).trans rfl
        have c0 : W.cell? ⟨w.heap.size, 0, none⟩ = some (.slice s00 p0x.length c00) := XU.out.cell 0 0 rfl rfl
        have c1 : W.cell? ⟨w.heap.size, 1, none⟩ = some (.slice s01 p0y.length c01) := XU.out.cell 0 1 rfl rfl
        have c2 : W.cell? ⟨w.heap.size, 2, none⟩ = some (.slice s02 p0z.length c02) := XU.out.cell 0 2 rfl rfl
        go_simp
        exact hK _ _ (HK.out _ _ ⟨fun _ => ⟨Below.refl _ _, rfl⟩, fun h => absurd rfl h⟩)
      · refine wpOp_step (o := _) rfl fun K' hK => ?_
        rw [if_pos (by go_simp)]
        have e1 : a.tmps.getD 76 undef = .agg #[.slice s00 p0x.length c00, .slice s01 p0y.length c01, .slice s02 p0z.length c02] := HAN.out 1 (by decide)
        go_simp
        go_at_call 11
        refine (T0.out _ XU.out.below).mono ?_
        rintro e W' ⟨vv, rfl, ho, hbb⟩
        skip
        exact hK _ _ (HK.out _ _ ⟨fun _ => ⟨hbb, ho⟩, fun h => absurd rfl h⟩)
      · refine wpOp_step (o := _) rfl fun K' hK => ?_
        rw [if_pos (by go_simp)]
        have e1 : a.tmps.getD 75 undef = .agg #[.slice gx00 p0x.length kx00, .slice gx01 p0y.length kx01, .slice gx02 p0z.length kx02] := HAN.out 0 (by decide)
        have k1 : Oc W (a.tmps.getD 77 undef) p0x p0y p0z _ _ := HAN.out 2 (by decide)
        obtain ⟨y1, hy1⟩ : ∃ q, a.tmps.getD 77 undef = q := ⟨_, rfl⟩
        rw [hy1] at k1
        have k1 := hide (PD0.out _ _ _ _ k1)
        have k0 := hide (PD0.out _ _ _ _ (Cx0.out.below HB.out))
        go_simp
        go_at_call 15
        refine (eqCracker_same _ _ p0x p0y p0z _ _ (Nat.le_refl _) k0.out k1.out).mono ?_
        rintro e W' ⟨rfl, hbb⟩
        skip
        exact hK _ _ (HK.out _ _ ⟨fun _ => ⟨hbb, rfl⟩, fun h => absurd rfl h⟩)
      · refine wpOp_step (o := _) rfl fun K' hK => ?_
        rw [if_pos (by go_simp)]
        have e1 : a.tmps.getD 78 undef = .bool true := HAN.out 3 (by decide)
        go_simp
        exact hK _ _ (HK.out _ _ ⟨fun _ => ⟨Below.refl _ _, rfl⟩, fun h => absurd rfl h⟩)
    case fin =>
    intro a u9 iv I
    have hbY := I.below
    have CA0 := hide (CA0.out.below hbY)
    have CA2 := hide (CA2.out.below hbY)
    have Cx0 := hide (Cx0.out.below hbY)
    have CG0 := hide (CG0.out.below hbY)
    have CG2 := hide (CG2.out.below hbY)
    have X0 := X1
    have X := hide (X1.out.up hbY)
    clear X1
    have F0 : slot a 75 = .agg #[.slice gx00 p0x.length kx00, .slice gx01 p0y.length kx01, .slice gx02 p0z.length kx02] := (I.fact 0 (by decide) rfl).2
    have F1 : slot a 76 = .agg #[.slice s00 p0x.length c00, .slice s01 p0y.length c01, .slice s02 p0z.length c02] := (I.fact 1 (by decide) rfl).2
    have F2 : Oc u9 (slot a 77) p0x p0y p0z (iv 2).1 (iv 2).2 := (I.fact 2 (by decide) rfl).2
    have F3 : slot a 78 = .bool true := (I.fact 3 (by decide) rfl).2
    have F4 : slot a 79 = .bool false := (I.fact 4 (by decide) rfl).2
    have hfr := frame_of [75, 76, 77, 78, 79] I.size I.defers (fun s hs => I.rest s (rfDsts_spec (by kernel_rfl) hs))
    rw [hfr]
    simp only [List.foldl_cons, List.foldl_nil, List.setIfInBounds_toArray, List.set_cons_succ, List.set_cons_zero, F4]
    generalize slot a 75 = t75
    generalize slot a 76 = t76
    generalize slot a 77 = t77
    generalize slot a 78 = t78
    have NN27 := hide (hbY.size)
    try clear I
    try clear hfr
    try clear hbY
    try clear X0
    try clear F0
    try clear F1
    try clear F2
    try clear F3
    try clear F4
    try clear iv a
    have c5_0 : u9.cell? ⟨bx0, 0, none⟩ = some (.slice gx00 p0x.length kx00) := X.out.cell 5 0 rfl rfl
    have c5_1 : u9.cell? ⟨bx0, 1, none⟩ = some (.slice gx01 p0y.length kx01) := X.out.cell 5 1 rfl rfl
    have c5_2 : u9.cell? ⟨bx0, 2, none⟩ = some (.slice gx02 p0z.length kx02) := X.out.cell 5 2 rfl rfl
    go_wp2_with fail
    clear c5_0 c5_1 c5_2
    go_at_call 18
    refine (HA0.out _ _ _ _ Cx0.out).mono ?_
    rintro e u10 ⟨rfl, ho, s⟩
    have qN0 := N0.out
    have qN1 := N1.out
    have qNN2 := NN2.out
    have qNN3 := NN3.out
    have qNN4 := NN4.out
    have qNN5 := NN5.out
    have qNN6 := NN6.out
    have qNN7 := NN7.out
    have qNN8 := NN8.out
    have qNN9 := NN9.out
    have qNN10 := NN10.out
    have qNN11 := NN11.out
    have qNX0a := NX0a.out
    have qNX0b := NX0b.out
    have qNN14 := NN14.out
    have qNN15 := NN15.out
    have qNN16 := NN16.out
    have qNN17 := NN17.out
    have qNN18 := NN18.out
    have qNN19 := NN19.out
    have qNN20 := NN20.out
    have qNN21 := NN21.out
    have qNN22 := NN22.out
    have qNN23 := NN23.out
    have qNN24 := NN24.out
    have qNN25 := NN25.out
    have qNN26 := NN26.out
    have qNN27 := NN27.out
    have tA0 := CA0.out.top.1
    have tA2 := CA2.out.top.1
    have tx0 := Cx0.out.top.1
    have tG0 := CG0.out.top.1
    have tG2 := CG2.out.top.1
    have X := hide (X.out.seg s (by omega) (by simp; omega))
    have CA0 := hide (CA0.out.seg s (by omega))
    have CA2 := hide (CA2.out.seg s (by omega))
    have CG0 := hide (CG0.out.seg s (by omega))
    have CG2 := hide (CG2.out.seg s (by omega))
    have hbs := s.below.size
    clear s qN0 qN1 qNN2 qNN3 qNN4 qNN5 qNN6 qNN7 qNN8 qNN9 qNN10 qNN11 qNX0a qNX0b qNN14 qNN15 qNN16 qNN17 qNN18 qNN19 qNN20 qNN21 qNN22 qNN23 qNN24 qNN25 qNN26 qNN27  tA0 tA2 tx0 tG0 tG2
    have NN28 := hide hbs
    clear hbs
    clear ho Cx0
    have c6_0 : u10.cell? ⟨bG0, 0, none⟩ = some (.slice gG00 r0x.length kG00) := X.out.cell 6 0 rfl rfl
    have c6_1 : u10.cell? ⟨bG0, 1, none⟩ = some (.slice gG01 r0y.length kG01) := X.out.cell 6 1 rfl rfl
    have c6_2 : u10.cell? ⟨bG0, 2, none⟩ = some (.slice gG02 r0z.length kG02) := X.out.cell 6 2 rfl rfl
    have c3_0 : u10.cell? ⟨bA0, 0, none⟩ = some (.slice gA00 r0x.length kA00) := X.out.cell 3 0 rfl rfl
    have c3_1 : u10.cell? ⟨bA0, 1, none⟩ = some (.slice gA01 r0y.length kA01) := X.out.cell 3 1 rfl rfl
    have c3_2 : u10.cell? ⟨bA0, 2, none⟩ = some (.slice gA02 r0z.length kA02) := X.out.cell 3 2 rfl rfl
    go_wp2_with fail
    clear c6_0 c6_1 c6_2 c3_0 c3_1 c3_2
    go_at_call 15
    refine (eqCracker_same _ _ r0x r0y r0z _ _ (Nat.le_refl _) (RD0.out _ _ _ _ CG0.out) (RD0.out _ _ _ _ CA0.out)).mono ?_
    rintro e u11 ⟨rfl, hb⟩
    have X := hide (X.out.up hb)
    have CA0 := hide (CA0.out.below hb)
    have CA2 := hide (CA2.out.below hb)
    have CG0 := hide (CG0.out.below hb)
    have CG2 := hide (CG2.out.below hb)
    have NN29 := hide (hb.size)
    clear hb
    have c7_0 : u11.cell? ⟨bG1, 0, none⟩ = some (.int .i64 p1f) := X.out.cell 7 0 rfl rfl
    have c7_1 : u11.cell? ⟨bG1, 1, none⟩ = some (.int .i64 p1g) := X.out.cell 7 1 rfl rfl
    have c7_2 : u11.cell? ⟨bG1, 2, none⟩ = some (.int .i64 r1h) := X.out.cell 7 2 rfl rfl
    have c4_0 : u11.cell? ⟨bA1, 0, none⟩ = some (.int .i64 p1f) := X.out.cell 4 0 rfl rfl
    have c4_1 : u11.cell? ⟨bA1, 1, none⟩ = some (.int .i64 p1g) := X.out.cell 4 1 rfl rfl
    have c4_2 : u11.cell? ⟨bA1, 2, none⟩ = some (.int .i64 r1h) := X.out.cell 4 2 rfl rfl
    go_wp2_with fail
    clear c7_0 c7_1 c7_2 c4_0 c4_1 c4_2
    go_at_call 16
    refine (eqSettings_same _ _ _ _).mono ?_
    rintro e u12 ⟨rfl, hb⟩
    have X := hide (X.out.up hb)
    have CA0 := hide (CA0.out.below hb)
    have CA2 := hide (CA2.out.below hb)
    have CG0 := hide (CG0.out.below hb)
    have CG2 := hide (CG2.out.below hb)
    have NN30 := hide (hb.size)
    clear hb
    go_wp2_with fail
    go_at_call 17
    refine (eqIntS_same _ _ r2x _ _ (Nat.le_refl _) (RD2.out _ _ _ _ CG2.out) (RD2.out _ _ _ _ CA2.out)).mono ?_
    rintro e u13 ⟨rfl, hb⟩
    have X := hide (X.out.up hb)
    have CA0 := hide (CA0.out.below hb)
    have CA2 := hide (CA2.out.below hb)
    have CG0 := hide (CG0.out.below hb)
    have CG2 := hide (CG2.out.below hb)
    have NN31 := hide (hb.size)
    clear hb
    have c6_0 : u13.cell? ⟨bG0, 0, none⟩ = some (.slice gG00 r0x.length kG00) := X.out.cell 6 0 rfl rfl
    have c6_1 : u13.cell? ⟨bG0, 1, none⟩ = some (.slice gG01 r0y.length kG01) := X.out.cell 6 1 rfl rfl
    have c6_2 : u13.cell? ⟨bG0, 2, none⟩ = some (.slice gG02 r0z.length kG02) := X.out.cell 6 2 rfl rfl
    go_wp2_with fail
    clear c6_0 c6_1 c6_2
    go_at_call 18
    refine (HM0.out _ _ _ _ CG0.out).mono ?_
    rintro e u14 ⟨rfl, ho, s⟩
    have qN0 := N0.out
    have qN1 := N1.out
    have qNN2 := NN2.out
    have qNN3 := NN3.out
    have qNN4 := NN4.out
    have qNN5 := NN5.out
    have qNN6 := NN6.out
    have qNN7 := NN7.out
    have qNN8 := NN8.out
    have qNN9 := NN9.out
    have qNN10 := NN10.out
    have qNN11 := NN11.out
    have qNX0a := NX0a.out
    have qNX0b := NX0b.out
    have qNN14 := NN14.out
    have qNN15 := NN15.out
    have qNN16 := NN16.out
    have qNN17 := NN17.out
    have qNN18 := NN18.out
    have qNN19 := NN19.out
    have qNN20 := NN20.out
    have qNN21 := NN21.out
    have qNN22 := NN22.out
    have qNN23 := NN23.out
    have qNN24 := NN24.out
    have qNN25 := NN25.out
    have qNN26 := NN26.out
    have qNN27 := NN27.out
    have qNN28 := NN28.out
    have qNN29 := NN29.out
    have qNN30 := NN30.out
    have qNN31 := NN31.out
    have qDG0_bG0 := DG0_bG0.out
    have qDG0_bG1 := DG0_bG1.out
    have qDG0_G2 := DG0_G2.out
    have tA0 := CA0.out.top.1
    have tA2 := CA2.out.top.1
    have tG0 := CG0.out.top.1
    have tG2 := CG2.out.top.1
    have X := hide (X.out.seg s (by omega) (by simp; omega))
    have CA0 := hide (CA0.out.seg s (by omega))
    have CA2 := hide (CA2.out.seg s (by omega))
    have CG2 := hide (CG2.out.seg s (by omega))
    have hbs := s.below.size
    clear s qN0 qN1 qNN2 qNN3 qNN4 qNN5 qNN6 qNN7 qNN8 qNN9 qNN10 qNN11 qNX0a qNX0b qNN14 qNN15 qNN16 qNN17 qNN18 qNN19 qNN20 qNN21 qNN22 qNN23 qNN24 qNN25 qNN26 qNN27 qNN28 qNN29 qNN30 qNN31 qDG0_bG0 qDG0_bG1 qDG0_G2 tA0 tA2 tG0 tG2
    have NN32 := hide hbs
    clear hbs
    have CG0 := hide ho
    clear ho
    go_wp2_with fail
    go_at_call 19
    refine (HM2.out _ _ _ _ CG2.out).mono ?_
    rintro e u15 ⟨rfl, ho, s⟩
    have qN0 := N0.out
    have qN1 := N1.out
    have qNN2 := NN2.out
    have qNN3 := NN3.out
    have qNN4 := NN4.out
    have qNN5 := NN5.out
    have qNN6 := NN6.out
    have qNN7 := NN7.out
    have qNN8 := NN8.out
    have qNN9 := NN9.out
    have qNN10 := NN10.out
    have qNN11 := NN11.out
    have qNX0a := NX0a.out
    have qNX0b := NX0b.out
    have qNN14 := NN14.out
    have qNN15 := NN15.out
    have qNN16 := NN16.out
    have qNN17 := NN17.out
    have qNN18 := NN18.out
    have qNN19 := NN19.out
    have qNN20 := NN20.out
    have qNN21 := NN21.out
    have qNN22 := NN22.out
    have qNN23 := NN23.out
    have qNN24 := NN24.out
    have qNN25 := NN25.out
    have qNN26 := NN26.out
    have qNN27 := NN27.out
    have qNN28 := NN28.out
    have qNN29 := NN29.out
    have qNN30 := NN30.out
    have qNN31 := NN31.out
    have qNN32 := NN32.out
    have qDG2_bG0 := DG2_bG0.out
    have qDG2_bG1 := DG2_bG1.out
    have qDG0_G2 := DG0_G2.out
    have tA0 := CA0.out.top.1
    have tA2 := CA2.out.top.1
    have tG0 := CG0.out.top.1
    have tG2 := CG2.out.top.1
    have X := hide (X.out.seg s (by omega) (by simp; omega))
    have CA0 := hide (CA0.out.seg s (by omega))
    have CA2 := hide (CA2.out.seg s (by omega))
    have CG0 := hide (CG0.out.seg s (by omega))
    have hbs := s.below.size
    clear s qN0 qN1 qNN2 qNN3 qNN4 qNN5 qNN6 qNN7 qNN8 qNN9 qNN10 qNN11 qNX0a qNX0b qNN14 qNN15 qNN16 qNN17 qNN18 qNN19 qNN20 qNN21 qNN22 qNN23 qNN24 qNN25 qNN26 qNN27 qNN28 qNN29 qNN30 qNN31 qNN32 qDG2_bG0 qDG2_bG1 qDG0_G2 tA0 tA2 tG0 tG2
    have NN33 := hide hbs
    clear hbs
    have CG2 := hide ho
    clear ho
    have c6_0 : u15.cell? ⟨bG0, 0, none⟩ = some (.slice gG00 r0x.length kG00) := X.out.cell 6 0 rfl rfl
    have c6_1 : u15.cell? ⟨bG0, 1, none⟩ = some (.slice gG01 r0y.length kG01) := X.out.cell 6 1 rfl rfl
    have c6_2 : u15.cell? ⟨bG0, 2, none⟩ = some (.slice gG02 r0z.length kG02) := X.out.cell 6 2 rfl rfl
    go_wp2_with fail
    clear c6_0 c6_1 c6_2
    go_at_call 20
    refine (HH0.out _ _ _ _ CG0.out).mono ?_
    rintro e u16 ⟨rfl, hb⟩
    have X := hide (X.out.up hb)
    have CA0 := hide (CA0.out.below hb)
    have CA2 := hide (CA2.out.below hb)
    have CG0 := hide (CG0.out.below hb)
    have CG2 := hide (CG2.out.below hb)
    have NN34 := hide (hb.size)
    clear hb
    go_wp2_with fail
    go_at_call 21
    refine (HH2.out _ _ _ _ CG2.out).mono ?_
    rintro e u17 ⟨rfl, hb⟩
    have X := hide (X.out.up hb)
    have CA0 := hide (CA0.out.below hb)
    have CA2 := hide (CA2.out.below hb)
    have CG0 := hide (CG0.out.below hb)
    have CG2 := hide (CG2.out.below hb)
    have NN35 := hide (hb.size)
    clear hb
    -- region 28
    go_upto_region 28 with fail
    have X1 := X
    refine wp_region_any (by kernel_rfl) ?_
    refine wpAny_facts (w0 := u17) (fun i => ([(fun lo hi s W => s 128 = .agg #[.slice s00 p0x.length c00, .slice s01 p0y.length c01, .slice s02 p0z.length c02]),
      (fun lo hi s W => Oc W (s 129) p0x p0y p0z lo hi),
      (fun lo hi s W => s 130 = .agg #[.int .i64 p1f, .int .i64 p1g, .int .i64 p1h]),
      (fun lo hi s W => s 131 = .agg #[.int .i64 p1f, .int .i64 p1g, .int .i64 p1h]),
      (fun lo hi s W => s 132 = .agg #[.int .i64 p2f, .int .i64 p2g]),
      (fun lo hi s W => s 133 = .agg #[.int .i64 p2f, .int .i64 p2g]),
      (fun lo hi s W => ∃ q0 q2 lo0 hi0 lo2 hi2, s 134 = .tuple #[q0, .agg #[.int .i64 p1f, .int .i64 p1g, .int .i64 r1h], q2, .int .i64 r3] ∧ Oc W q0 r0x r0y r0z lo0 hi0 ∧ lo ≤ lo0 ∧ hi0 ≤ hi ∧ Oin W q2 r2x lo2 hi2 ∧ lo ≤ lo2 ∧ hi2 ≤ hi ∧ (hi0 ≤ lo2 ∨ hi2 ≤ lo0)),
      (fun lo hi s W => s 127 = s 134),
      (fun lo hi s W => s 135 = cmpV (s 127) 0),
      (fun lo hi s W => s 136 = cmpV (s 127) 1),
      (fun lo hi s W => s 137 = cmpV (s 127) 2),
      (fun lo hi s W => s 138 = cmpV (s 127) 3),
      (fun lo hi s W => ∃ g cs, s 20 = .pointer (some ⟨g, 0, none⟩) ∧ lo ≤ g ∧ g < hi ∧ W.heap[g]? = some (.cells cs 33 (0, 0)) ∧ cs.size = 3),
      (fun lo hi s W => ∃ g cs, s 21 = .pointer (some ⟨g, 0, none⟩) ∧ lo ≤ g ∧ g < hi ∧ W.heap[g]? = some (.cells cs 34 (0, 0)) ∧ cs.size = 3),
      (fun lo hi s W => ∃ g cs, s 20 = .pointer (some ⟨g, 0, none⟩) ∧ s 135 = .agg cs ∧ lo ≤ g ∧ g < hi ∧ W.heap[g]? = some (.cells cs 33 (0, 0))),
      (fun lo hi s W => ∃ g cs, s 21 = .pointer (some ⟨g, 0, none⟩) ∧ s 136 = .agg cs ∧ lo ≤ g ∧ g < hi ∧ W.heap[g]? = some (.cells cs 34 (0, 0))),
      (fun lo hi s W => s 22 = s 137),
      (fun lo hi s W => s 23 = s 138)] : List (Nat → Nat → (Nat → Value) → World → Prop)).getD i (fun _ _ _ _ => True)) [[], [0], [], [0, 1, 2], [], [0, 1, 2, 3, 4], [0, 1, 2, 3, 4, 5], [0, 1, 2, 3, 4, 5, 6], [0, 1, 2, 3, 4, 5, 6, 7], [0, 1, 2, 3, 4, 5, 6, 7], [0, 1, 2, 3, 4, 5, 6, 7], [0, 1, 2, 3, 4, 5, 6, 7], [], [], [0, 1, 2, 3, 4, 5, 6, 7, 8, 12, 13], [0, 1, 2, 3, 4, 5, 6, 7, 8, 9, 12, 13, 14], [0, 1, 2, 3, 4, 5, 6, 7, 8, 9, 10, 12, 13, 14, 15], [0, 1, 2, 3, 4, 5, 6, 7, 8, 9, 10, 11, 12, 13, 14, 15, 16]] [0, 1, 2, 3, 4, 5, 6, 7, 8, 9, 10, 11, 12, 13, 12, 13, 16, 17] [[128], [129], [130], [131], [132], [133], [134], [127, 134], [135, 127], [136, 127], [137, 127], [138, 127], [20], [21], [20, 135], [21, 136], [22, 137], [23, 138]] [[], [], [], [], [], [], [], [], [], [], [], [], [], [], [12], [13], [], []] (by kernel_rfl) (by kernel_rfl) ?st ?step ?fin
    case st =>
      clear HSP HIP
      intro i hi lo hi' s W W' h q1 q2 q3 q4 k
      have hi : i < 18 := hi
      clear X X1 CA0 CA2 CG0 CG2
      rcases (show i = 0 ∨ i = 1 ∨ i = 2 ∨ i = 3 ∨ i = 4 ∨ i = 5 ∨ i = 6 ∨ i = 7 ∨ i = 8 ∨ i = 9 ∨ i = 10 ∨ i = 11 ∨ i = 12 ∨ i = 13 ∨ i = 14 ∨ i = 15 ∨ i = 16 ∨ i = 17 by omega) with rfl | rfl | rfl | rfl | rfl | rfl | rfl | rfl | rfl | rfl | rfl | rfl | rfl | rfl | rfl | rfl | rfl | rfl
      · have h : s 128 = .agg #[.slice s00 p0x.length c00, .slice s01 p0y.length c01, .slice s02 p0z.length c02] := h
        show s 128 = .agg #[.slice s00 p0x.length c00, .slice s01 p0y.length c01, .slice s02 p0z.length c02]
        exact h
      · have h : Oc W (s 129) p0x p0y p0z lo hi' := h
        show Oc W' (s 129) p0x p0y p0z lo hi'
        exact h.on k
      · have h : s 130 = .agg #[.int .i64 p1f, .int .i64 p1g, .int .i64 p1h] := h
        show s 130 = .agg #[.int .i64 p1f, .int .i64 p1g, .int .i64 p1h]
        exact h
      · have h : s 131 = .agg #[.int .i64 p1f, .int .i64 p1g, .int .i64 p1h] := h
        show s 131 = .agg #[.int .i64 p1f, .int .i64 p1g, .int .i64 p1h]
        exact h
      · have h : s 132 = .agg #[.int .i64 p2f, .int .i64 p2g] := h
        show s 132 = .agg #[.int .i64 p2f, .int .i64 p2g]
        exact h
      · have h : s 133 = .agg #[.int .i64 p2f, .int .i64 p2g] := h
        show s 133 = .agg #[.int .i64 p2f, .int .i64 p2g]
        exact h
      · have h : ∃ q0 q2 lo0 hi0 lo2 hi2, s 134 = .tuple #[q0, .agg #[.int .i64 p1f, .int .i64 p1g, .int .i64 r1h], q2, .int .i64 r3] ∧ Oc W q0 r0x r0y r0z lo0 hi0 ∧ lo ≤ lo0 ∧ hi0 ≤ hi' ∧ Oin W q2 r2x lo2 hi2 ∧ lo ≤ lo2 ∧ hi2 ≤ hi' ∧ (hi0 ≤ lo2 ∨ hi2 ≤ lo0) := h
        show ∃ q0 q2 lo0 hi0 lo2 hi2, s 134 = .tuple #[q0, .agg #[.int .i64 p1f, .int .i64 p1g, .int .i64 r1h], q2, .int .i64 r3] ∧ Oc W' q0 r0x r0y r0z lo0 hi0 ∧ lo ≤ lo0 ∧ hi0 ≤ hi' ∧ Oin W' q2 r2x lo2 hi2 ∧ lo ≤ lo2 ∧ hi2 ≤ hi' ∧ (hi0 ≤ lo2 ∨ hi2 ≤ lo0)
        obtain ⟨q0, q2, lo0, hi0, lo2, hi2, e1, o0, x0, y0, o2, x2, y2, ap0⟩ := h; exact ⟨_, _, _, _, _, _, e1, o0.on ⟨k.size, k.old, fun b b1 b2 b3 => k.own b (Nat.le_trans x0 b1) (Nat.lt_of_lt_of_le b2 y0) b3⟩, x0, y0, o2.on ⟨k.size, k.old, fun b b1 b2 b3 => k.own b (Nat.le_trans x2 b1) (Nat.lt_of_lt_of_le b2 y2) b3⟩, x2, y2, ap0⟩
      · have h : s 127 = s 134 := h
        show s 127 = s 134
        exact h
      · have h : s 135 = cmpV (s 127) 0 := h
        show s 135 = cmpV (s 127) 0
        exact h
      · have h : s 136 = cmpV (s 127) 1 := h
        show s 136 = cmpV (s 127) 1
        exact h
      · have h : s 137 = cmpV (s 127) 2 := h
        show s 137 = cmpV (s 127) 2
        exact h
      · have h : s 138 = cmpV (s 127) 3 := h
        show s 138 = cmpV (s 127) 3
        exact h
      · have h : ∃ g cs, s 20 = .pointer (some ⟨g, 0, none⟩) ∧ lo ≤ g ∧ g < hi' ∧ W.heap[g]? = some (.cells cs 33 (0, 0)) ∧ cs.size = 3 := h
        show ∃ g cs, s 20 = .pointer (some ⟨g, 0, none⟩) ∧ lo ≤ g ∧ g < hi' ∧ W'.heap[g]? = some (.cells cs 33 (0, 0)) ∧ cs.size = 3
        obtain ⟨g, cs, e1, e2, e3, e4, e5⟩ := h; exact ⟨g, cs, e1, e2, e3, (k.own g e2 e3 (Array.getElem?_eq_some_iff.1 e4).1).trans e4, e5⟩
      · have h : ∃ g cs, s 21 = .pointer (some ⟨g, 0, none⟩) ∧ lo ≤ g ∧ g < hi' ∧ W.heap[g]? = some (.cells cs 34 (0, 0)) ∧ cs.size = 3 := h
        show ∃ g cs, s 21 = .pointer (some ⟨g, 0, none⟩) ∧ lo ≤ g ∧ g < hi' ∧ W'.heap[g]? = some (.cells cs 34 (0, 0)) ∧ cs.size = 3
        obtain ⟨g, cs, e1, e2, e3, e4, e5⟩ := h; exact ⟨g, cs, e1, e2, e3, (k.own g e2 e3 (Array.getElem?_eq_some_iff.1 e4).1).trans e4, e5⟩
      · have h : ∃ g cs, s 20 = .pointer (some ⟨g, 0, none⟩) ∧ s 135 = .agg cs ∧ lo ≤ g ∧ g < hi' ∧ W.heap[g]? = some (.cells cs 33 (0, 0)) := h
        show ∃ g cs, s 20 = .pointer (some ⟨g, 0, none⟩) ∧ s 135 = .agg cs ∧ lo ≤ g ∧ g < hi' ∧ W'.heap[g]? = some (.cells cs 33 (0, 0))
        obtain ⟨g, cs, e1, e2, e3, e4, e5⟩ := h; exact ⟨g, cs, e1, e2, e3, e4, (k.own g e3 e4 (Array.getElem?_eq_some_iff.1 e5).1).trans e5⟩
      · have h : ∃ g cs, s 21 = .pointer (some ⟨g, 0, none⟩) ∧ s 136 = .agg cs ∧ lo ≤ g ∧ g < hi' ∧ W.heap[g]? = some (.cells cs 34 (0, 0)) := h
        show ∃ g cs, s 21 = .pointer (some ⟨g, 0, none⟩) ∧ s 136 = .agg cs ∧ lo ≤ g ∧ g < hi' ∧ W'.heap[g]? = some (.cells cs 34 (0, 0))
        obtain ⟨g, cs, e1, e2, e3, e4, e5⟩ := h; exact ⟨g, cs, e1, e2, e3, e4, (k.own g e3 e4 (Array.getElem?_eq_some_iff.1 e5).1).trans e5⟩
      · have h : s 22 = s 137 := h
        show s 22 = s 137
        exact h
      · have h : s 23 = s 138 := h
        show s 23 = s 138
        exact h
    case step =>
      intro i hi a W iv hb hsz hdf hrest hanc hivs hap K HK
      have hi : i < 18 := hi
      have HK := hide HK
      have HAN := hide hanc
      have HIV := hide hivs
      have HRS := hide hrest
      have XU := hide (X1.out.up hb)
      have HB := hide hb
      clear hanc hivs hap hrest hb hsz hdf X X1
      rcases (show i = 0 ∨ i = 1 ∨ i = 2 ∨ i = 3 ∨ i = 4 ∨ i = 5 ∨ i = 6 ∨ i = 7 ∨ i = 8 ∨ i = 9 ∨ i = 10 ∨ i = 11 ∨ i = 12 ∨ i = 13 ∨ i = 14 ∨ i = 15 ∨ i = 16 ∨ i = 17 by omega) with rfl | rfl | rfl | rfl | rfl | rfl | rfl | rfl | rfl | rfl | rfl | rfl | rfl | rfl | rfl | rfl | rfl | rfl
      · refine wpOp_step (o := _) rfl fun K' hK => ?_
        rw [if_pos (by go_simp)]
        have e1 : a.tmps.getD 3 undef = .pointer (some ⟨w.heap.size, 0, none⟩) := (HRS.out 3 (by decide)).trans rfl
        have c0 : W.cell? ⟨w.heap.size, 0, none⟩ = some (.slice s00 p0x.length c00) := XU.out.cell 0 0 rfl rfl
        have c1 : W.cell? ⟨w.heap.size, 1, none⟩ = some (.slice s01 p0y.length c01) := XU.out.cell 0 1 rfl rfl
        have c2 : W.cell? ⟨w.heap.size, 2, none⟩ = some (.slice s02 p0z.length c02) := XU.out.cell 0 2 rfl rfl
        go_simp
        exact hK _ _ (HK.out _ _ ⟨fun _ => ⟨Below.refl _ _, rfl⟩, fun h => absurd rfl h⟩)
      · refine wpOp_step (o := _) rfl fun K' hK => ?_
        rw [if_pos (by go_simp)]
        have e1 : a.tmps.getD 128 undef = .agg #[.slice s00 p0x.length c00, .slice s01 p0y.length c01, .slice s02 p0z.length c02] := HAN.out 0 (by decide)
        go_simp
        go_at_call 11
        refine (T0.out _ XU.out.below).mono ?_
        rintro e W' ⟨vv, rfl, ho, hbb⟩
        skip
        exact hK _ _ (HK.out _ _ ⟨fun _ => ⟨hbb, ho⟩, fun h => absurd rfl h⟩)
      · refine wpOp_step (o := _) rfl fun K' hK => ?_
        rw [if_pos (by go_simp)]
        have e1 : a.tmps.getD 4 undef = .pointer (some ⟨w.heap.size + 1, 0, none⟩) := (HRS.out 4 (by decide)).trans rfl
        have c0 : W.cell? ⟨w.heap.size + 1, 0, none⟩ = some (.int .i64 p1f) := XU.out.cell 1 0 rfl rfl
        have c1 : W.cell? ⟨w.heap.size + 1, 1, none⟩ = some (.int .i64 p1g) := XU.out.cell 1 1 rfl rfl
        have c2 : W.cell? ⟨w.heap.size + 1, 2, none⟩ = some (.int .i64 p1h) := XU.out.cell 1 2 rfl rfl
        go_simp
        exact hK _ _ (HK.out _ _ ⟨fun _ => ⟨Below.refl _ _, rfl⟩, fun h => absurd rfl h⟩)
      · refine wpOp_step (o := _) rfl fun K' hK => ?_
        rw [if_pos (by go_simp)]
        have e1 : a.tmps.getD 130 undef = .agg #[.int .i64 p1f, .int .i64 p1g, .int .i64 p1h] := HAN.out 2 (by decide)
        go_simp
        go_at_call 12
        refine (toSettings_any _ _ _ _).mono ?_
        rintro e W' ⟨rfl, hbb⟩
        skip
        exact hK _ _ (HK.out _ _ ⟨fun _ => ⟨hbb, rfl⟩, fun h => absurd rfl h⟩)
      · refine wpOp_step (o := _) rfl fun K' hK => ?_
        rw [if_pos (by go_simp)]
        have e1 : a.tmps.getD 5 undef = .pointer (some ⟨w.heap.size + 1 + 1, 0, none⟩) := (HRS.out 5 (by decide)).trans rfl
        have c0 : W.cell? ⟨w.heap.size + 1 + 1, 0, none⟩ = some (.int .i64 p2f) := XU.out.cell 2 0 rfl rfl
        have c1 : W.cell? ⟨w.heap.size + 1 + 1, 1, none⟩ = some (.int .i64 p2g) := XU.out.cell 2 1 rfl rfl
        go_simp
        exact hK _ _ (HK.out _ _ ⟨fun _ => ⟨Below.refl _ _, rfl⟩, fun h => absurd rfl h⟩)
      · refine wpOp_step (o := _) rfl fun K' hK => ?_
        rw [if_pos (by go_simp)]
        have e1 : a.tmps.getD 132 undef = .agg #[.int .i64 p2f, .int .i64 p2g] := HAN.out 4 (by decide)
        go_simp
        go_at_call 13
        refine (toRange_any _ _ _).mono ?_
        rintro e W' ⟨rfl, hbb⟩
        skip
        exact hK _ _ (HK.out _ _ ⟨fun _ => ⟨hbb, rfl⟩, fun h => absurd rfl h⟩)
      · refine wpOp_step (o := _) rfl fun K' hK => ?_
        rw [if_pos (by go_simp)]
        have e1 : a.tmps.getD 131 undef = .agg #[.int .i64 p1f, .int .i64 p1g, .int .i64 p1h] := HAN.out 3 (by decide)
        have e2 : a.tmps.getD 133 undef = .agg #[.int .i64 p2f, .int .i64 p2g] := HAN.out 5 (by decide)
        have k0 : Oc W (a.tmps.getD 129 undef) p0x p0y p0z _ _ := HAN.out 1 (by decide)
        obtain ⟨y0, hy0⟩ : ∃ q, a.tmps.getD 129 undef = q := ⟨_, rfl⟩
        rw [hy0] at k0
        have k0 := hide (PD0.out _ _ _ _ k0)
        go_simp
        go_at_call 14
        refine (HIP.out _ _ k0.out).mono ?_
        rintro e W' ⟨q0, q1, lo0, hi0, lo1, hi1, rfl, o0, l0, o1, l1, ap0, hbb⟩
        skip
        exact hK _ _ (HK.out _ _ ⟨fun _ => ⟨hbb, ⟨_, _, _, _, _, _, rfl, o0, l0, o0.top.2, o1, l1, o1.top.2, ap0⟩⟩, fun h => absurd rfl h⟩)
      · refine wpOp_step (o := _) rfl fun K' hK => ?_
        rw [if_pos (by go_simp)]
        obtain ⟨y, e1⟩ : ∃ y, a.tmps.getD 134 undef = y := ⟨_, rfl⟩
        go_simp
        exact hK _ _ (HK.out _ _ ⟨fun _ => ⟨Below.refl _ _, e1.symm⟩, fun h => absurd rfl h⟩)
      · refine wpOp_step (o := _) rfl fun K' hK => ?_
        rw [if_pos (by go_simp)]
        have h0 := HAN.out 6 (by decide)
        obtain ⟨q0, q2, _, _, _, _, h0, -⟩ : ∃ q0 q2 lo0 hi0 lo2 hi2, a.tmps.getD 134 undef = .tuple #[q0, .agg #[.int .i64 p1f, .int .i64 p1g, .int .i64 r1h], q2, .int .i64 r3] ∧ _ := h0
        have h1 : a.tmps.getD 127 undef = a.tmps.getD 134 undef := HAN.out 7 (by decide)
        rw [h0] at h1
        clear h0
        have h0 := h1
        clear h1
        go_simp
        exact hK _ _ (HK.out _ _ ⟨fun _ => ⟨Below.refl _ _, by show _ = cmpV (a.tmps.getD 127 undef) 0; rw [h0]; rfl⟩, fun h => absurd rfl h⟩)
      · refine wpOp_step (o := _) rfl fun K' hK => ?_
        rw [if_pos (by go_simp)]
        have h0 := HAN.out 6 (by decide)
        obtain ⟨q0, q2, _, _, _, _, h0, -⟩ : ∃ q0 q2 lo0 hi0 lo2 hi2, a.tmps.getD 134 undef = .tuple #[q0, .agg #[.int .i64 p1f, .int .i64 p1g, .int .i64 r1h], q2, .int .i64 r3] ∧ _ := h0
        have h1 : a.tmps.getD 127 undef = a.tmps.getD 134 undef := HAN.out 7 (by decide)
        rw [h0] at h1
        clear h0
        have h0 := h1
        clear h1
        go_simp
        exact hK _ _ (HK.out _ _ ⟨fun _ => ⟨Below.refl _ _, by show _ = cmpV (a.tmps.getD 127 undef) 1; rw [h0]; rfl⟩, fun h => absurd rfl h⟩)
      · refine wpOp_step (o := _) rfl fun K' hK => ?_
        rw [if_pos (by go_simp)]
        have h0 := HAN.out 6 (by decide)
        obtain ⟨q0, q2, _, _, _, _, h0, -⟩ : ∃ q0 q2 lo0 hi0 lo2 hi2, a.tmps.getD 134 undef = .tuple #[q0, .agg #[.int .i64 p1f, .int .i64 p1g, .int .i64 r1h], q2, .int .i64 r3] ∧ _ := h0
        have h1 : a.tmps.getD 127 undef = a.tmps.getD 134 undef := HAN.out 7 (by decide)
        rw [h0] at h1
        clear h0
        have h0 := h1
        clear h1
        go_simp
        exact hK _ _ (HK.out _ _ ⟨fun _ => ⟨Below.refl _ _, by show _ = cmpV (a.tmps.getD 127 undef) 2; rw [h0]; rfl⟩, fun h => absurd rfl h⟩)
      · refine wpOp_step (o := _) rfl fun K' hK => ?_
        rw [if_pos (by go_simp)]
        have h0 := HAN.out 6 (by decide)
        obtain ⟨q0, q2, _, _, _, _, h0, -⟩ : ∃ q0 q2 lo0 hi0 lo2 hi2, a.tmps.getD 134 undef = .tuple #[q0, .agg #[.int .i64 p1f, .int .i64 p1g, .int .i64 r1h], q2, .int .i64 r3] ∧ _ := h0
        have h1 : a.tmps.getD 127 undef = a.tmps.getD 134 undef := HAN.out 7 (by decide)
        rw [h0] at h1
        clear h0
        have h0 := h1
        clear h1
        go_simp
        exact hK _ _ (HK.out _ _ ⟨fun _ => ⟨Below.refl _ _, by show _ = cmpV (a.tmps.getD 127 undef) 3; rw [h0]; rfl⟩, fun h => absurd rfl h⟩)
      · refine wpOp_step (o := _) rfl fun K' hK => ?_
        rw [if_pos (by go_simp)]
        go_simp
        exact hK _ _ (HK.out _ _ ⟨fun _ => ⟨below1 W _, ⟨W.heap.size, _, rfl, Nat.le_refl _, by simp, heap_alloc_new W _, rfl⟩⟩, fun h => absurd rfl h⟩)
      · refine wpOp_step (o := _) rfl fun K' hK => ?_
        rw [if_pos (by go_simp)]
        go_simp
        exact hK _ _ (HK.out _ _ ⟨fun _ => ⟨below1 W _, ⟨W.heap.size, _, rfl, Nat.le_refl _, by simp, heap_alloc_new W _, rfl⟩⟩, fun h => absurd rfl h⟩)
      · refine wpOp_step (o := _) rfl fun K' hK => ?_
        rw [if_pos (by go_simp)]
        obtain ⟨g, cs, e1, g1, g2, g3, g4⟩ : ∃ g cs, a.tmps.getD 20 undef = .pointer (some ⟨g, 0, none⟩) ∧ (iv 12).1 ≤ g ∧ g < (iv 12).2 ∧ W.heap[g]? = some (.cells cs 33 (0, 0)) ∧ cs.size = 3 := HAN.out 12 (by decide)
        obtain ⟨q0, q2, lo0, hi0, lo2, hi2, h0, o0, -, -, o2, -, -, -⟩ : ∃ q0 q2 lo0 hi0 lo2 hi2, a.tmps.getD 134 undef = .tuple #[q0, .agg #[.int .i64 p1f, .int .i64 p1g, .int .i64 r1h], q2, .int .i64 r3] ∧ Oc W q0 r0x r0y r0z lo0 hi0 ∧ (iv 6).1 ≤ lo0 ∧ hi0 ≤ (iv 6).2 ∧ Oin W q2 r2x lo2 hi2 ∧ (iv 6).1 ≤ lo2 ∧ hi2 ≤ (iv 6).2 ∧ _ := HAN.out 6 (by decide)
        obtain ⟨x0, y0, x1, y1, x2, y2, hf⟩ := o0.form
        rw [hf] at h0
        clear hf o0 o2
        have h1 : a.tmps.getD 127 undef = a.tmps.getD 134 undef := HAN.out 7 (by decide)
        rw [h0] at h1
        clear h0
        have h0 := h1
        clear h1
        have h1 : a.tmps.getD 135 undef = cmpV (a.tmps.getD 127 undef) 0 := HAN.out 8 (by decide)
        rw [h0] at h1
        clear h0
        have h0 : a.tmps.getD 135 undef = .agg #[.slice x0 r0x.length y0, .slice x1 r0y.length y1, .slice x2 r0z.length y2] := h1
        clear h1
        have G3 := hide g3
        obtain ⟨z0, z1, z2, rfl⟩ := size3 g4
        have c0 : W.cell? ⟨g, 0, none⟩ = some z0 := cell_of_row W g 0 _ _ (0, 0) g3
        have f0 : W.frozen? ⟨g, 0, none⟩ = false := frozen_of_row W g 0 _ _ g3
        have c1 : W.cell? ⟨g, 1, none⟩ = some z1 := cell_of_row W g 1 _ _ (0, 0) g3
        have f1 : W.frozen? ⟨g, 1, none⟩ = false := frozen_of_row W g 1 _ _ g3
        have c2 : W.cell? ⟨g, 2, none⟩ = some z2 := cell_of_row W g 2 _ _ (0, 0) g3
        have f2 : W.frozen? ⟨g, 2, none⟩ = false := frozen_of_row W g 2 _ _ g3
        clear g3 g4
        go_simp
        exact hK _ _ (HK.out undef _ ⟨fun h => absurd h (by decide), fun _ => ⟨segS3 g1 g2 _ _ _, ⟨g, _, e1, h0, g1, g2, heap_put3 G3.out rfl _ _ _⟩, fun j hj => by
          obtain rfl : j = 12 := by simpa using hj
          intro _
          exact ⟨g, _, e1, g1, g2, heap_put3 G3.out rfl _ _ _, rfl⟩⟩⟩)
      · refine wpOp_step (o := _) rfl fun K' hK => ?_
        rw [if_pos (by go_simp)]
        obtain ⟨g, cs, e1, g1, g2, g3, g4⟩ : ∃ g cs, a.tmps.getD 21 undef = .pointer (some ⟨g, 0, none⟩) ∧ (iv 13).1 ≤ g ∧ g < (iv 13).2 ∧ W.heap[g]? = some (.cells cs 34 (0, 0)) ∧ cs.size = 3 := HAN.out 13 (by decide)
        obtain ⟨q0, q2, lo0, hi0, lo2, hi2, h0, o0, -, -, o2, -, -, -⟩ : ∃ q0 q2 lo0 hi0 lo2 hi2, a.tmps.getD 134 undef = .tuple #[q0, .agg #[.int .i64 p1f, .int .i64 p1g, .int .i64 r1h], q2, .int .i64 r3] ∧ Oc W q0 r0x r0y r0z lo0 hi0 ∧ (iv 6).1 ≤ lo0 ∧ hi0 ≤ (iv 6).2 ∧ Oin W q2 r2x lo2 hi2 ∧ (iv 6).1 ≤ lo2 ∧ hi2 ≤ (iv 6).2 ∧ _ := HAN.out 6 (by decide)
        clear o0 o2
        have h1 : a.tmps.getD 127 undef = a.tmps.getD 134 undef := HAN.out 7 (by decide)
        rw [h0] at h1
        clear h0
        have h0 := h1
        clear h1
        have h1 : a.tmps.getD 136 undef = cmpV (a.tmps.getD 127 undef) 1 := HAN.out 9 (by decide)
        rw [h0] at h1
        clear h0
        have h0 : a.tmps.getD 136 undef = .agg #[.int .i64 p1f, .int .i64 p1g, .int .i64 r1h] := h1
        clear h1
        have G3 := hide g3
        obtain ⟨z0, z1, z2, rfl⟩ := size3 g4
        have c0 : W.cell? ⟨g, 0, none⟩ = some z0 := cell_of_row W g 0 _ _ (0, 0) g3
        have f0 : W.frozen? ⟨g, 0, none⟩ = false := frozen_of_row W g 0 _ _ g3
        have c1 : W.cell? ⟨g, 1, none⟩ = some z1 := cell_of_row W g 1 _ _ (0, 0) g3
        have f1 : W.frozen? ⟨g, 1, none⟩ = false := frozen_of_row W g 1 _ _ g3
        have c2 : W.cell? ⟨g, 2, none⟩ = some z2 := cell_of_row W g 2 _ _ (0, 0) g3
        have f2 : W.frozen? ⟨g, 2, none⟩ = false := frozen_of_row W g 2 _ _ g3
        clear g3 g4
        go_simp
        exact hK _ _ (HK.out undef _ ⟨fun h => absurd h (by decide), fun _ => ⟨segS3 g1 g2 _ _ _, ⟨g, _, e1, h0, g1, g2, heap_put3 G3.out rfl _ _ _⟩, fun j hj => by
          obtain rfl : j = 13 := by simpa using hj
          intro _
          exact ⟨g, _, e1, g1, g2, heap_put3 G3.out rfl _ _ _, rfl⟩⟩⟩)
      · refine wpOp_step (o := _) rfl fun K' hK => ?_
        rw [if_pos (by go_simp)]
        obtain ⟨y, e1⟩ : ∃ y, a.tmps.getD 137 undef = y := ⟨_, rfl⟩
        go_simp
        exact hK _ _ (HK.out _ _ ⟨fun _ => ⟨Below.refl _ _, e1.symm⟩, fun h => absurd rfl h⟩)
      · refine wpOp_step (o := _) rfl fun K' hK => ?_
        rw [if_pos (by go_simp)]
        obtain ⟨y, e1⟩ : ∃ y, a.tmps.getD 138 undef = y := ⟨_, rfl⟩
        go_simp
        exact hK _ _ (HK.out _ _ ⟨fun _ => ⟨Below.refl _ _, e1.symm⟩, fun h => absurd rfl h⟩)
    case fin =>
    intro a u18 iv I
    have hbY := I.below
    have CA0 := hide (CA0.out.below hbY)
    have CA2 := hide (CA2.out.below hbY)
    have CG0 := hide (CG0.out.below hbY)
    have CG2 := hide (CG2.out.below hbY)
    have X0 := X1
    have X := hide (X1.out.up hbY)
    clear X1
    have F0 : slot a 128 = .agg #[.slice s00 p0x.length c00, .slice s01 p0y.length c01, .slice s02 p0z.length c02] := (I.fact 0 (by decide) rfl).2
    have F1 : Oc u18 (slot a 129) p0x p0y p0z (iv 1).1 (iv 1).2 := (I.fact 1 (by decide) rfl).2
    have F2 : slot a 130 = .agg #[.int .i64 p1f, .int .i64 p1g, .int .i64 p1h] := (I.fact 2 (by decide) rfl).2
    have F3 : slot a 131 = .agg #[.int .i64 p1f, .int .i64 p1g, .int .i64 p1h] := (I.fact 3 (by decide) rfl).2
    have F4 : slot a 132 = .agg #[.int .i64 p2f, .int .i64 p2g] := (I.fact 4 (by decide) rfl).2
    have F5 : slot a 133 = .agg #[.int .i64 p2f, .int .i64 p2g] := (I.fact 5 (by decide) rfl).2
    have F6 : ∃ q0 q2 lo0 hi0 lo2 hi2, slot a 134 = .tuple #[q0, .agg #[.int .i64 p1f, .int .i64 p1g, .int .i64 r1h], q2, .int .i64 r3] ∧ Oc u18 q0 r0x r0y r0z lo0 hi0 ∧ (iv 6).1 ≤ lo0 ∧ hi0 ≤ (iv 6).2 ∧ Oin u18 q2 r2x lo2 hi2 ∧ (iv 6).1 ≤ lo2 ∧ hi2 ≤ (iv 6).2 ∧ (hi0 ≤ lo2 ∨ hi2 ≤ lo0) := (I.fact 6 (by decide) rfl).2
    have F7 : slot a 127 = slot a 134 := (I.fact 7 (by decide) rfl).2
    have F8 : slot a 135 = cmpV (slot a 127) 0 := (I.fact 8 (by decide) rfl).2
    have F9 : slot a 136 = cmpV (slot a 127) 1 := (I.fact 9 (by decide) rfl).2
    have F10 : slot a 137 = cmpV (slot a 127) 2 := (I.fact 10 (by decide) rfl).2
    have F11 : slot a 138 = cmpV (slot a 127) 3 := (I.fact 11 (by decide) rfl).2
    have F12 : ∃ g cs, slot a 20 = .pointer (some ⟨g, 0, none⟩) ∧ (iv 12).1 ≤ g ∧ g < (iv 12).2 ∧ u18.heap[g]? = some (.cells cs 33 (0, 0)) ∧ cs.size = 3 := (I.fact 12 (by decide) rfl).2
    have F13 : ∃ g cs, slot a 21 = .pointer (some ⟨g, 0, none⟩) ∧ (iv 13).1 ≤ g ∧ g < (iv 13).2 ∧ u18.heap[g]? = some (.cells cs 34 (0, 0)) ∧ cs.size = 3 := (I.fact 13 (by decide) rfl).2
    have F14 : ∃ g cs, slot a 20 = .pointer (some ⟨g, 0, none⟩) ∧ slot a 135 = .agg cs ∧ (iv 12).1 ≤ g ∧ g < (iv 12).2 ∧ u18.heap[g]? = some (.cells cs 33 (0, 0)) := (I.fact 14 (by decide) rfl).2
    have F15 : ∃ g cs, slot a 21 = .pointer (some ⟨g, 0, none⟩) ∧ slot a 136 = .agg cs ∧ (iv 13).1 ≤ g ∧ g < (iv 13).2 ∧ u18.heap[g]? = some (.cells cs 34 (0, 0)) := (I.fact 15 (by decide) rfl).2
    have F16 : slot a 22 = slot a 137 := (I.fact 16 (by decide) rfl).2
    have F17 : slot a 23 = slot a 138 := (I.fact 17 (by decide) rfl).2
    obtain ⟨iv6a, iv6b, iv6c⟩ := I.ivs 6 (by decide) rfl rfl
    obtain ⟨iv12a, iv12b, iv12c⟩ := I.ivs 12 (by decide) rfl rfl
    obtain ⟨iv13a, iv13b, iv13c⟩ := I.ivs 13 (by decide) rfl rfl
    have ap6_12 := I.apart 6 12 (by decide) (by decide) rfl rfl rfl rfl (by decide)
    have ap6_13 := I.apart 6 13 (by decide) (by decide) rfl rfl rfl rfl (by decide)
    have ap12_13 := I.apart 12 13 (by decide) (by decide) rfl rfl rfl rfl (by decide)
    have hfr := frame_of [128, 129, 130, 131, 132, 133, 134, 127, 135, 136, 137, 138, 20, 21, 22, 23] I.size I.defers (fun s hs => I.rest s (rfDsts_spec (by kernel_rfl) hs))
    skip
    obtain ⟨qH0, qH2, loH0, hiH0, loH2, hiH2, E134, CH0, laH0, lbH0, CH2, laH2, lbH2, axH0⟩ := F6
    obtain ⟨gH00, kH00, gH01, kH01, gH02, kH02, hf⟩ := CH0.form
    subst hf
    obtain ⟨gH20, kH20, hf⟩ := CH2.form
    subst hf
    rw [E134] at F7
    rw [F7] at F8
    have F8 : slot a 135 = .agg #[.slice gH00 r0x.length kH00, .slice gH01 r0y.length kH01, .slice gH02 r0z.length kH02] := F8
    rw [F7] at F9
    have F9 : slot a 136 = .agg #[.int .i64 p1f, .int .i64 p1g, .int .i64 r1h] := F9
    rw [F7] at F10
    have F10 : slot a 137 = .slice gH20 r2x.length kH20 := F10
    rw [F7] at F11
    have F11 : slot a 138 = .int .i64 r3 := F11
    obtain ⟨bH0, cs, E20, hv, g1bH0, g2bH0, hcbH0⟩ := F14
    rw [F8] at hv
    obtain rfl : cs = #[.slice gH00 r0x.length kH00, .slice gH01 r0y.length kH01, .slice gH02 r0z.length kH02] := by injection hv with hv; exact hv.symm
    clear hv
    obtain ⟨bH1, cs, E21, hv, g1bH1, g2bH1, hcbH1⟩ := F15
    rw [F9] at hv
    obtain rfl : cs = #[.int .i64 p1f, .int .i64 p1g, .int .i64 r1h] := by injection hv with hv; exact hv.symm
    clear hv
    rw [F10] at F16
    rw [F11] at F17
    rw [hfr]
    simp only [List.foldl_cons, List.foldl_nil, List.setIfInBounds_toArray, List.set_cons_succ, List.set_cons_zero, E134, F7, F8, F9, F10, F11, E20, E21, F16, F17]
    generalize slot a 128 = t128
    generalize slot a 129 = t129
    generalize slot a 130 = t130
    generalize slot a 131 = t131
    generalize slot a 132 = t132
    generalize slot a 133 = t133
    have XN := Kn.add (Kn.add (Kn.none hbY) hcbH0 (Nat.le_trans iv12a g1bH0) (fun e he => by simp at he)) hcbH1 (Nat.le_trans iv13a g1bH1) (fun e he => by simp at he; rcases he with rfl <;> (simp; omega))
    have X := hide (Kn.joinR X0.out XN)
    simp only [List.cons_append, List.nil_append] at X
    clear XN
    have NN36 := hide (hbY.size)
    have hw : u17.heap.size ≤ loH0 := by omega
    have NN37 := hide (hw)
    clear hw
    have hw : hiH0 ≤ u18.heap.size := by omega
    have NN38 := hide (hw)
    clear hw
    have hw : u17.heap.size ≤ loH2 := by omega
    have NN39 := hide (hw)
    clear hw
    have hw : hiH2 ≤ u18.heap.size := by omega
    have NN40 := hide (hw)
    clear hw
    have hw : u17.heap.size ≤ bH0 := by omega
    have NN41 := hide (hw)
    clear hw
    have hw : bH0 < u18.heap.size := by omega
    have NN42 := hide (hw)
    clear hw
    have DH0_bH0 := hide (show bH0 < loH0 ∨ hiH0 ≤ bH0 by omega)
    have DH2_bH0 := hide (show bH0 < loH2 ∨ hiH2 ≤ bH0 by omega)
    have hw : u17.heap.size ≤ bH1 := by omega
    have NN43 := hide (hw)
    clear hw
    have hw : bH1 < u18.heap.size := by omega
    have NN44 := hide (hw)
    clear hw
    have DH0_bH1 := hide (show bH1 < loH0 ∨ hiH0 ≤ bH1 by omega)
    have DH2_bH1 := hide (show bH1 < loH2 ∨ hiH2 ≤ bH1 by omega)
    have DH0_H2 := hide (show hiH0 ≤ loH2 ∨ hiH2 ≤ loH0 by omega)
    have CH0 := hide CH0
    have CH2 := hide CH2
    try clear I
    try clear hfr
    try clear hbY
    try clear X0
    try clear F0
    try clear F1
    try clear F2
    try clear F3
    try clear F4
    try clear F5
    try clear F6
    try clear F7
    try clear F8
    try clear F9
    try clear F10
    try clear F11
    try clear F12
    try clear F13
    try clear F14
    try clear F15
    try clear F16
    try clear F17
    try clear E134
    try clear E20
    try clear E21
    try clear iv6a
    try clear iv6b
    try clear iv6c
    try clear iv12a
    try clear iv12b
    try clear iv12c
    try clear iv13a
    try clear iv13b
    try clear iv13c
    try clear ap6_12
    try clear ap6_13
    try clear ap12_13
    try clear g1bH0
    try clear g2bH0
    try clear hcbH0
    try clear g1bH1
    try clear g2bH1
    try clear hcbH1
    try clear laH0
    try clear lbH0
    try clear laH2
    try clear lbH2
    try clear axH0
    try clear iv a
    have c8_0 : u18.cell? ⟨bH0, 0, none⟩ = some (.slice gH00 r0x.length kH00) := X.out.cell 8 0 rfl rfl
    have c8_1 : u18.cell? ⟨bH0, 1, none⟩ = some (.slice gH01 r0y.length kH01) := X.out.cell 8 1 rfl rfl
    have c8_2 : u18.cell? ⟨bH0, 2, none⟩ = some (.slice gH02 r0z.length kH02) := X.out.cell 8 2 rfl rfl
    have c3_0 : u18.cell? ⟨bA0, 0, none⟩ = some (.slice gA00 r0x.length kA00) := X.out.cell 3 0 rfl rfl
    have c3_1 : u18.cell? ⟨bA0, 1, none⟩ = some (.slice gA01 r0y.length kA01) := X.out.cell 3 1 rfl rfl
    have c3_2 : u18.cell? ⟨bA0, 2, none⟩ = some (.slice gA02 r0z.length kA02) := X.out.cell 3 2 rfl rfl
    go_wp2_with fail
    clear c8_0 c8_1 c8_2 c3_0 c3_1 c3_2
    go_at_call 15
    refine (eqCracker_same _ _ r0x r0y r0z _ _ (Nat.le_refl _) (RD0.out _ _ _ _ CH0.out) (RD0.out _ _ _ _ CA0.out)).mono ?_
    rintro e u19 ⟨rfl, hb⟩
    have X := hide (X.out.up hb)
    have CA0 := hide (CA0.out.below hb)
    have CA2 := hide (CA2.out.below hb)
    have CG0 := hide (CG0.out.below hb)
    have CG2 := hide (CG2.out.below hb)
    have CH0 := hide (CH0.out.below hb)
    have CH2 := hide (CH2.out.below hb)
    have NN45 := hide (hb.size)
    clear hb
    have c9_0 : u19.cell? ⟨bH1, 0, none⟩ = some (.int .i64 p1f) := X.out.cell 9 0 rfl rfl
    have c9_1 : u19.cell? ⟨bH1, 1, none⟩ = some (.int .i64 p1g) := X.out.cell 9 1 rfl rfl
    have c9_2 : u19.cell? ⟨bH1, 2, none⟩ = some (.int .i64 r1h) := X.out.cell 9 2 rfl rfl
    have c4_0 : u19.cell? ⟨bA1, 0, none⟩ = some (.int .i64 p1f) := X.out.cell 4 0 rfl rfl
    have c4_1 : u19.cell? ⟨bA1, 1, none⟩ = some (.int .i64 p1g) := X.out.cell 4 1 rfl rfl
    have c4_2 : u19.cell? ⟨bA1, 2, none⟩ = some (.int .i64 r1h) := X.out.cell 4 2 rfl rfl
    go_wp2_with fail
    clear c9_0 c9_1 c9_2 c4_0 c4_1 c4_2
    go_at_call 16
    refine (eqSettings_same _ _ _ _).mono ?_
    rintro e u20 ⟨rfl, hb⟩
    have X := hide (X.out.up hb)
    have CA0 := hide (CA0.out.below hb)
    have CA2 := hide (CA2.out.below hb)
    have CG0 := hide (CG0.out.below hb)
    have CG2 := hide (CG2.out.below hb)
    have CH0 := hide (CH0.out.below hb)
    have CH2 := hide (CH2.out.below hb)
    have NN46 := hide (hb.size)
    clear hb
    go_wp2_with fail
    go_at_call 17
    refine (eqIntS_same _ _ r2x _ _ (Nat.le_refl _) (RD2.out _ _ _ _ CH2.out) (RD2.out _ _ _ _ CA2.out)).mono ?_
    rintro e u21 ⟨rfl, hb⟩
    have X := hide (X.out.up hb)
    have CA0 := hide (CA0.out.below hb)
    have CA2 := hide (CA2.out.below hb)
    have CG0 := hide (CG0.out.below hb)
    have CG2 := hide (CG2.out.below hb)
    have CH0 := hide (CH0.out.below hb)
    have CH2 := hide (CH2.out.below hb)
    have NN47 := hide (hb.size)
    clear hb
    have c6_0 : u21.cell? ⟨bG0, 0, none⟩ = some (.slice gG00 r0x.length kG00) := X.out.cell 6 0 rfl rfl
    have c6_1 : u21.cell? ⟨bG0, 1, none⟩ = some (.slice gG01 r0y.length kG01) := X.out.cell 6 1 rfl rfl
    have c6_2 : u21.cell? ⟨bG0, 2, none⟩ = some (.slice gG02 r0z.length kG02) := X.out.cell 6 2 rfl rfl
    go_wp2_with fail
    clear c6_0 c6_1 c6_2
    go_at_call 20
    refine (HH0.out _ _ _ _ CG0.out).mono ?_
    rintro e u22 ⟨rfl, hb⟩
    have X := hide (X.out.up hb)
    have CA0 := hide (CA0.out.below hb)
    have CA2 := hide (CA2.out.below hb)
    have CG0 := hide (CG0.out.below hb)
    have CG2 := hide (CG2.out.below hb)
    have CH0 := hide (CH0.out.below hb)
    have CH2 := hide (CH2.out.below hb)
    have NN48 := hide (hb.size)
    clear hb
    go_wp2_with fail
    go_at_call 21
    refine (HH2.out _ _ _ _ CG2.out).mono ?_
    rintro e u23 ⟨rfl, hb⟩
    have X := hide (X.out.up hb)
    have CA0 := hide (CA0.out.below hb)
    have CA2 := hide (CA2.out.below hb)
    have CG0 := hide (CG0.out.below hb)
    have CG2 := hide (CG2.out.below hb)
    have CH0 := hide (CH0.out.below hb)
    have CH2 := hide (CH2.out.below hb)
    have NN49 := hide (hb.size)
    clear hb
    go_wp2_with fail
    go_ret
    exact ⟨rfl, X.out.below⟩

set_option maxRecDepth 100000 in
theorem lifted (os : Os) (started : os.Started) (H : Type) (enc : TypeId × Value → H) :
    ReturnsInHanded {} Tryz.checked os 3 .any (Rows.fnExactSelectWithSpec.pre6 enc Tryz.prog Tryz.f3 Rows.fnExactSelectWithRow.domain false) (Rows.fnExactSelectWithSpec.post enc Tryz.prog Tryz.f3 false true false false) := by
  refine returnsInHanded_of_change (C := Tryz.checked) own started (by kernel_rfl) Tryz.func3
    (ChangeSpec.witness6 (enc := enc) (C := Tryz.checked) false ⟨#[], #[.agg #[.slice none 0 0, .slice none 0 0, .slice none 0 0], .agg #[.int .i64 0, .int .i64 0, .int .i64 0], .agg #[.int .i64 0, .int .i64 0]], []⟩ 8 (by kernel_rfl) (by kernel_rfl) (by kernel_rfl) (by kernel_rfl)) ?_
  intro W base args ds gs before hval0 hW hcnd _
  have hval : ∀ (j : Nat) t v, Tryz.f3.params[j]? = some t → args[j]? = some v → Value.okWide Tryz.prog W .any base t v := hval0
  have hW' := hW
  obtain ⟨p, q, hA0, hV, rfl, hfz, hnd⟩ := hW
  have hA : DataW.TrodAll enc Tryz.prog W 0 (fun _ => true) true Tryz.f3.params.toList args.toList ds p := hA0
  rw [Tryz.params3] at hA hval
  obtain ⟨v0, vs0, d0, ds0, p0, q0, hargs, rfl, rfl, h0, r0⟩ := trodAll_cons hA
  obtain ⟨v1, vs1, d1, ds1, p1, q1, rfl, rfl, rfl, h1, r1⟩ := trodAll_cons r0
  obtain ⟨v2, vs2, d2, ds2, p2, q2, rfl, rfl, rfl, h2, r2⟩ := trodAll_cons r1
  obtain ⟨rfl, rfl, rfl⟩ := trodAll_nil r2
  obtain rfl : args = #[v0, v1, v2] := by cases args; simp_all
  obtain ⟨rfl, rfl⟩ := trodVars_none hV
  have k0 := h0
  have lt0 : ∀ x ∈ p0, x.block < W.heap.size := by obtain ⟨m, hm⟩ := k0; exact DataW.trod_lt m _ _ _ hm
  have k1 := h1
  have lt1 : ∀ x ∈ p1, x.block < W.heap.size := by obtain ⟨m, hm⟩ := k1; exact DataW.trod_lt m _ _ _ hm
  have k2 := h2
  have lt2 : ∀ x ∈ p2, x.block < W.heap.size := by obtain ⟨m, hm⟩ := k2; exact DataW.trod_lt m _ _ _ hm
  have w0 := open_ck (hval 0 25 v0 rfl rfl) h0
  have w1 := open_st (hval 1 27 v1 rfl rfl) h1
  have w2 := open_rg (hval 2 29 v2 rfl rfl) h2
  clear hA0 hval0
  refine (walk W v0 w0 v1 w1 v2 w2).mono fun e W' ⟨he, bel⟩ => ?_
  subst he
  exact ⟨_, rfl, _, _, _, [], _, [], hW', trodAll_mk1 (shut_bool Tryz.underlying4 _), (trodAll_cons_mk (Below.trod laidOut (by kernel_rfl) (of_decide_eq_true (by kernel_rfl)) k0 bel lt0) (trodAll_cons_mk (Below.trod laidOut (by kernel_rfl) (of_decide_eq_true (by kernel_rfl)) k1 bel lt1) (trodAll_cons_mk (Below.trod laidOut (by kernel_rfl) (of_decide_eq_true (by kernel_rfl)) k2 bel lt2) trodAll_mk0))), rfl, bel.frame _, fun h => by cases h⟩

theorem over : Rows.fnExactSelectWithRow.holds Tryz.pinned (OpenSpec.ofChange Rows.fnExactSelectWithSpec) :=
  OpenClaim.holds_of_wide 3 Tryz.f3 rfl rfl rfl rfl rfl rfl rfl ⟨rfl, rfl, rfl, rfl, rfl⟩ rfl rfl rfl rfl rfl (by kernel_rfl) Tryz.func3 (by kernel_rfl)
    (of_decide_eq_true (by kernel_rfl)) (by unfold Func.isWrapper; first | (rw [if_pos (by decide +kernel)]; kernel_rfl) | (rw [if_neg (by decide +kernel)]; exact ⟨rfl, rfl⟩))
    (fun os started H enc _ => lifted os started H enc)

/-- The statement. -/
theorem proved : Rows.FnExactSelectWithSaid := over
#print axioms proved
end Go.Proofs.YtajfhalalnlejaaGreat.fnExactSelectWith
