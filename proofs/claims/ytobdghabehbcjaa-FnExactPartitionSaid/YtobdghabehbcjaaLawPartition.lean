/- The law FnExactPartition holds: whatever the arguments, the call returns true, and they read afterwards as before. -/
import Derived.Test.YtobdghabehbcjaaRows
import Derived.WalkKit
import Derived.ProofKit
import Derived.OpenShut
import Derived.ShutString
import Derived.ChangeOld
import Derived.Below
import Derived.Test.YtobdghabehbcjaaPtM
import Derived.Test.YtobdghabehbcjaaPtJ
namespace Go.Proofs.Ytobdghabehbcjaa.fnExactPartition
open Go.ChangeShapes Go.WideShapes Go.ChangeAt Go.RowKit
open Go.ChangeMaps (open_string shut_string)
set_option linter.unusedVariables false
set_option linter.unusedSimpArgs false

theorem own : ownKnob Try.prog.godebug = none := by kernel_rfl
theorem laidOut : laidOutB Try.prog = true := by kernel_rfl

set_option maxRecDepth 100000 in
set_option maxHeartbeats 4000000 in
theorem walk (w : World) (v0 : Value) (w0 : ∃ l, Ints w w.heap.size v0 l) (a : Int) (wa : (Lit.int .i64 a).wf = true) (b : Int) (wb : (Lit.int .i64 b).wf = true) (p : Int) (wp : (Lit.int .i64 p).wf = true) :
    Calls Try.prog 5 #[v0, .int .i64 a, .int .i64 b, .int .i64 p] w fun e w' => e = .returned (.bool true) ∧ Below w.heap.size w w' := by
  obtain ⟨l, hl⟩ := w0
  have hl0 := hl
  obtain ⟨ad, cap, rfl, hlen, hwf, -⟩ := hl0
  have HL := hide hl
  have HW := hide hwf
  clear hl wa wb wp
  by_cases hbig : l.length ≤ 1048576
  · have T := hide (fun (W : World) (h : Below w.heap.size w W) => toIntS_own _ l W w.heap.size (HL.out.below h (Nat.le_refl _)) h.size hbig)
    have HS := hide (fun (W : World) (v : Value) (h : Ints W W.heap.size v l) => sPart_any v l a b p W _ h (Nat.le_refl _) hbig)
    have HI := hide (fun (W : World) (v : Value) (h : Ints W W.heap.size v l) => iPart_any v l a b p W _ h (Nat.le_refl _) hbig)
    have hn := (partP_nums l a b p hbig).2.1
    have hw := partP_wf l a b p hbig
    obtain ⟨R, hR⟩ : ∃ R, R = partP l a b p := ⟨_, rfl⟩
    rw [← hR] at HS HI hn hw
    obtain ⟨sw, at0⟩ := R
    simp only at hn hw
    have HSI := hide (fun (W : World) (v : Value) (lo hi : Nat) (h : Osw W v sw lo hi) => h.own.pvs (Nat.le_refl _) (show sw.length ≤ 9223372036854775807 by omega) hw)
    obtain ⟨M, hM⟩ : ∃ M : Int, M = 1 + 2 * (sw.length : Int) := ⟨_, rfl⟩
    have HMk := hide (fun (W : World) (v : Value) (lo hi : Nat) (h : Osw W v sw lo hi) => show Calls Try.prog 31 #[v, .int .i64 1] W (RetMSw W v lo hi M (mkP 1 sw.length)) by rw [hM]; exact markSws_ow v sw lo hi 1 W h (by omega) (by omega))
    have HHd := hide (fun (W : World) (v : Value) (lo hi : Nat) (h : Osw W v (mkP 1 sw.length) lo hi) => show Calls Try.prog 32 #[v, .int .i64 1] W (fun e w' => e = .returned (.int .i64 M) ∧ W = w') by rw [hM]; exact heldSws_ow v sw.length lo hi 1 W h (by omega) (by omega))
    have hM0 : decide (M < 0) = false := by simp; omega
    have hM1 : (M != M) = false := by simp
    have hT : (at0 != at0) = false := by simp
    have hK0 : decide ((1 : Int) + (l.length : Int) < 0) = false := by simp; omega
    clear hM hR hn hw hwf
    go_enter Try.func5, Try.ntmps5
    go_wp2_with fail
    go_at_call 27
    refine (T.out _ (Below.refl _ _)).mono ?_
    rintro e w1 ⟨v1, rfl, O1, hb⟩
    have X := hide ((Kn.start w).up hb)
    clear hb
    go_wp2_with fail
    go_at_call 13
    refine (HS.out _ _ (O1.ints (Nat.le_refl _) hlen HW.out)).mono ?_
    rintro e w2 ⟨v2, rfl, OA, hb⟩
    have X := hide (X.out.up hb)
    obtain ⟨a2, k2, rfl⟩ := OA.form
    have OA := hide (Osw.of OA hb.size)
    have N2 := hide X.out.below.size
    clear hb O1
    go_wp2_with fail
    go_at_call 27
    refine (T.out _ X.out.below).mono ?_
    rintro e w3 ⟨v3, rfl, O3, hb⟩
    have X := hide (X.out.up hb)
    have OA := hide (OA.out.below hb)
    have N3 := hide hb.size
    have OX := hide (Ow.of O3 hb.size)
    clear hb
    go_wp2_with fail
    go_at_call 12
    refine (HI.out _ _ (O3.ints (Nat.le_refl _) hlen HW.out)).mono ?_
    rintro e w4 ⟨v4, rfl, OG, hb⟩
    have X := hide (X.out.up hb)
    have OA := hide (OA.out.below hb)
    have OX := hide (OX.out.below hb)
    have N4 := hide hb.size
    obtain ⟨a4, k4, rfl⟩ := OG.form
    have OG := hide (Osw.of OG hb.size)
    clear hb O3
    go_wp2_with fail
    go_at_call 28
    refine (eqSwapS_same _ _ sw _ _ (HSI.out _ _ _ _ OG.out) (HSI.out _ _ _ _ OA.out) (Nat.le_refl _)).mono ?_
    rintro e w5 ⟨rfl, hb⟩
    have X := hide (X.out.up hb)
    have OA := hide (OA.out.below hb)
    have OX := hide (OX.out.below hb)
    have OG := hide (OG.out.below hb)
    clear hb
    go_wp2_with fail
    go_at_call 27
    refine (T.out _ X.out.below).mono ?_
    rintro e w6 ⟨v6, rfl, O6, hb⟩
    have X := hide (X.out.up hb)
    have OA := hide (OA.out.below hb)
    have OX := hide (OX.out.below hb)
    have OG := hide (OG.out.below hb)
    clear hb
    go_wp2_with fail
    go_at_call 29
    refine (eqIntS_alike _ _ l _ _ (OX.out.ints HW.out) (O6.ints (Nat.le_refl _) hlen HW.out)).mono ?_
    rintro e w7 ⟨rfl, hb⟩
    have X := hide (X.out.up hb)
    have OA := hide (OA.out.below hb)
    have OX := hide (OX.out.below hb)
    have OG := hide (OG.out.below hb)
    clear hb O6
    go_wp2_with fail
    go_at_call 30
    refine (markIntS_ow _ l _ _ 1 _ OX.out (by omega) (by omega)).mono ?_
    rintro e w8 ⟨rfl, -, s⟩
    have q2 := N2.out
    have q3 := N3.out
    have q4 := N4.out
    have X := hide (X.out.seg s q2 (by simp))
    have OA := hide (OA.out.seg s (by omega))
    have OG := hide (OG.out.seg s (by omega))
    clear s OX q2 q3 q4
    go_wp2_with fail
    go_at_call 28
    refine (eqSwapS_same _ _ sw _ _ (HSI.out _ _ _ _ OG.out) (HSI.out _ _ _ _ OA.out) (Nat.le_refl _)).mono ?_
    rintro e w9 ⟨rfl, hb⟩
    have X := hide (X.out.up hb)
    have OA := hide (OA.out.below hb)
    have OG := hide (OG.out.below hb)
    clear hb
    go_wp2_with fail
    go_at_call 31
    refine (HMk.out _ _ _ _ OG.out).mono ?_
    rintro e w10 ⟨rfl, OG2, s⟩
    have q2 := N2.out
    have q3 := N3.out
    have X := hide (X.out.seg s (by omega) (by simp))
    have OA := hide (OA.out.seg s (by omega))
    have OG := hide OG2
    clear s OG2 q2 q3
    go_wp2_with fail
    go_at_call 32
    refine (HHd.out _ _ _ _ OG.out).mono ?_
    rintro e w11 ⟨rfl, rfl⟩
    go_wp2_with fail
    go_at_call 27
    refine (T.out _ X.out.below).mono ?_
    rintro e w12 ⟨v12, rfl, O12, hb⟩
    have X := hide (X.out.up hb)
    have OA := hide (OA.out.below hb)
    have OG := hide (OG.out.below hb)
    clear hb
    go_wp2_with fail
    go_at_call 12
    refine (HI.out _ _ (O12.ints (Nat.le_refl _) hlen HW.out)).mono ?_
    rintro e w13 ⟨v13, rfl, OH, hb⟩
    have X := hide (X.out.up hb)
    have OA := hide (OA.out.below hb)
    have OG := hide (OG.out.below hb)
    obtain ⟨a13, k13, rfl⟩ := OH.form
    have OH := hide (Osw.of OH hb.size)
    clear hb O12
    go_wp2_with fail
    go_at_call 28
    refine (eqSwapS_same _ _ sw _ _ (HSI.out _ _ _ _ OH.out) (HSI.out _ _ _ _ OA.out) (Nat.le_refl _)).mono ?_
    rintro e w14 ⟨rfl, hb⟩
    have X := hide (X.out.up hb)
    have OG := hide (OG.out.below hb)
    clear hb
    go_wp2_with fail
    go_at_call 32
    refine (HHd.out _ _ _ _ OG.out).mono ?_
    rintro e w15 ⟨rfl, rfl⟩
    go_wp2_with fail
    go_ret
    exact ⟨rfl, X.out.below⟩
  · go_enter Try.func5, Try.ntmps5
    go_wp2_with fail
    go_ret
    exact ⟨rfl, Below.refl _ _⟩

set_option maxRecDepth 100000 in
theorem lifted (os : Os) (started : os.Started) (H : Type) (enc : TypeId × Value → H) :
    ReturnsInHanded {} Try.checked os 5 .any (Rows.fnExactPartitionSpec.pre6 enc Try.prog Try.f5 Rows.fnExactPartitionRow.domain false) (Rows.fnExactPartitionSpec.post enc Try.prog Try.f5 false true false false) := by
  refine returnsInHanded_of_change (C := Try.checked) own started (by kernel_rfl) Try.func5
    (ChangeSpec.witness6 (enc := enc) (C := Try.checked) false ⟨#[], #[.slice none 0 0, .int .i64 0, .int .i64 0, .int .i64 0], []⟩ 8 (by kernel_rfl) (by kernel_rfl) (by kernel_rfl) (by kernel_rfl)) ?_
  intro W base args ds gs before hval0 hW hcnd _
  have hval : ∀ (j : Nat) t v, Try.f5.params[j]? = some t → args[j]? = some v → Value.okWide Try.prog W .any base t v := hval0
  have hW' := hW
  obtain ⟨p, q, hA0, hV, rfl, hfz, hnd⟩ := hW
  have hA : DataW.TrodAll enc Try.prog W 0 (fun _ => true) true Try.f5.params.toList args.toList ds p := hA0
  rw [Try.params5] at hA hval
  obtain ⟨v0, vs0, d0, ds0, p0, q0, hargs, rfl, rfl, h0, r0⟩ := trodAll_cons hA
  obtain ⟨v1, vs1, d1, ds1, p1, q1, rfl, rfl, rfl, h1, r1⟩ := trodAll_cons r0
  obtain ⟨v2, vs2, d2, ds2, p2, q2, rfl, rfl, rfl, h2, r2⟩ := trodAll_cons r1
  obtain ⟨v3, vs3, d3, ds3, p3, q3, rfl, rfl, rfl, h3, r3⟩ := trodAll_cons r2
  obtain ⟨rfl, rfl, rfl⟩ := trodAll_nil r3
  obtain rfl : args = #[v0, v1, v2, v3] := by cases args; simp_all
  obtain ⟨rfl, rfl⟩ := trodVars_none hV
  have k0 := h0
  have lt0 : ∀ x ∈ p0, x.block < W.heap.size := by obtain ⟨m, hm⟩ := k0; exact DataW.trod_lt m _ _ _ hm
  have k1 := h1
  have lt1 : ∀ x ∈ p1, x.block < W.heap.size := by obtain ⟨m, hm⟩ := k1; exact DataW.trod_lt m _ _ _ hm
  have k2 := h2
  have lt2 : ∀ x ∈ p2, x.block < W.heap.size := by obtain ⟨m, hm⟩ := k2; exact DataW.trod_lt m _ _ _ hm
  have k3 := h3
  have lt3 : ∀ x ∈ p3, x.block < W.heap.size := by obtain ⟨m, hm⟩ := k3; exact DataW.trod_lt m _ _ _ hm
  have w0 := open_intS (hval 0 24 v0 rfl rfl) h0
  obtain ⟨a1, rfl, e1, f1, w1⟩ := open_int Try.underlying3 (hval 1 3 v1 rfl rfl) h1
  obtain ⟨a2, rfl, e2, f2, w2⟩ := open_int Try.underlying3 (hval 2 3 v2 rfl rfl) h2
  obtain ⟨a3, rfl, e3, f3, w3⟩ := open_int Try.underlying3 (hval 3 3 v3 rfl rfl) h3
  clear hA0 hval0
  refine (walk W v0 w0 a1 w1 a2 w2 a3 w3).mono fun e W' ⟨he, bel⟩ => ?_
  subst he
  exact ⟨_, rfl, _, _, _, [], _, [], hW', trodAll_mk1 (shut_bool Try.underlying4 _), (trodAll_cons_mk (Below.trod laidOut (by kernel_rfl) (of_decide_eq_true (by kernel_rfl)) k0 bel lt0) (trodAll_cons_mk (Below.trod laidOut (by kernel_rfl) (of_decide_eq_true (by kernel_rfl)) k1 bel lt1) (trodAll_cons_mk (Below.trod laidOut (by kernel_rfl) (of_decide_eq_true (by kernel_rfl)) k2 bel lt2) (trodAll_cons_mk (Below.trod laidOut (by kernel_rfl) (of_decide_eq_true (by kernel_rfl)) k3 bel lt3) trodAll_mk0)))), rfl, bel.frame _, fun h => by cases h⟩

theorem over : Rows.fnExactPartitionRow.holds Try.pinned (OpenSpec.ofChange Rows.fnExactPartitionSpec) :=
  OpenClaim.holds_of_wide 5 Try.f5 rfl rfl rfl rfl rfl rfl rfl ⟨rfl, rfl, rfl, rfl, rfl⟩ rfl rfl rfl rfl rfl (by kernel_rfl) Try.func5 (by kernel_rfl)
    (of_decide_eq_true (by kernel_rfl)) (by unfold Func.isWrapper; first | (rw [if_pos (by decide +kernel)]; kernel_rfl) | (rw [if_neg (by decide +kernel)]; exact ⟨rfl, rfl⟩))
    (fun os started H enc _ => lifted os started H enc)

/-- The statement. -/
theorem proved : Rows.FnExactPartitionSaid := over
#print axioms proved
end Go.Proofs.Ytobdghabehbcjaa.fnExactPartition
