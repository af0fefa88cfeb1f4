/- The law FnExactScanRange holds: whatever the arguments, the call returns true, and they read afterwards as before. -/
import Derived.Test.YtgeegbbcjdlkbaaRows
import Derived.WalkKit
import Derived.ProofKit
import Derived.OpenShut
import Derived.ShutString
import Derived.ChangeOld
import Derived.Below
import Derived.Test.YtgeegbbcjdlkbaaOw
namespace Go.Proofs.Ytgeegbbcjdlkbaa.fnExactScanRange
open Go.ChangeShapes Go.WideShapes Go.ChangeAt Go.RowKit
open Go.ChangeMaps (open_string shut_string)
set_option linter.unusedVariables false
set_option linter.unusedSimpArgs false

theorem own : ownKnob Try.prog.godebug = none := by kernel_rfl
theorem laidOut : laidOutB Try.prog = true := by kernel_rfl

set_option maxRecDepth 100000 in
set_option maxHeartbeats 4000000 in
theorem walk (w : World) (v0 : Value) (w0 : ∃ l, Ints w w.heap.size v0 l) (v1 : Value) (w1' : ∃ f t : Int, v1 = .agg #[.int .i64 f, .int .i64 t] ∧ I64 f ∧ I64 t) :
    Calls Try.prog 6 #[v0, v1] w fun e w' => e = .returned (.bool true) ∧ Below w.heap.size w w' := by
  obtain ⟨l, hv⟩ := w0
  obtain ⟨f, t, rfl, -, -⟩ := w1'
  have hv0 := hv
  obtain ⟨a, cap, rfl, hlen, hwl, -⟩ := hv0
  have HV := hide hv
  have HWL := hide hwl
  have X := hide (Kn.one w #[.int .i64 f, .int .i64 t] 23)
  obtain ⟨wC, hw1⟩ : ∃ w1, w1 = w.alloc (.cells #[.int .i64 f, .int .i64 t] 23) := ⟨_, rfl⟩
  rw [← hw1] at X
  have d0 := X.out.cell 0 0 rfl rfl
  have d1 := X.out.cell 0 1 rfl rfl
  clear hv hwl
  by_cases hbig : l.length ≤ 1048576
  · obtain ⟨m, hm⟩ : ∃ m, m = scanK l f t l.length := ⟨_, rfl⟩
    have hml : m.length ≤ 1048576 := by rw [hm]; exact Nat.le_trans (scanK_length _ _ _ _) hbig
    have HW := hide (show ∀ x ∈ m, I64 x by rw [hm]; exact scanK_wf l f t l.length hlen)
    have HSS := hide (fun (W : World) (v : Value) (h : Ints W W.heap.size v l) => sScan_any v l f t W _ h (Nat.le_refl _) hbig)
    have HSI := hide (fun (W : World) (v : Value) (h : Ints W W.heap.size v l) => iScan_any v l f t W _ h (Nat.le_refl _) hbig)
    rw [← hm] at HSS HSI
    have hqq : ((1 : Int) + (m.length : Int) != (1 : Int) + (m.length : Int)) = false := by simp
    clear hm
    go_enter Try.func6, Try.ntmps6
    go_wp2_with fail
    rw [← hw1]
    have hsC := hide (show wC.heap.size = w.heap.size + 1 by rw [hw1]; simp)
    clear hw1
    go_upto_region 3 with fail
    go_cut [5] (fun s wx => ∃ v n, s = v ∧ Hid (wC.heap.size ≤ n) ∧ Hid (n ≤ wx.heap.size) ∧ Hid (Ow wx v m n wx.heap.size) ∧ Hid (Below wC.heap.size wC wx) ∧ Hid (Kn w wx [(w.heap.size, #[.int .i64 f, .int .i64 t], 23)]))
    case first =>
      have hD := hide ((Below.refl wC.heap.size wC).drew)
      have XD := hide X.out.drew
      have I := hide True.intro
      go_region_held3 (fun w' => w'.cell? ⟨w.heap.size, 0, none⟩ = some (.int .i64 f) ∧ w'.cell? ⟨w.heap.size, 1, none⟩ = some (.int .i64 t)) (first | exact ⟨d0, d1⟩ | go_keep) (first
        | (go_at_call 16; refine (toIntS_any _ l _ w.heap.size (HV.out.below XD.out.below (Nat.le_refl _)) XD.out.below.size hbig).mono ?_; rintro e wa ⟨va, rfl, I, hb⟩; have I := hide I; have hD := hide (hD.out.trans (hb.mono hD.out.size)); have XD := hide (XD.out.up hb); have d0 := XD.out.cell 0 0 rfl rfl; have d1 := XD.out.cell 0 1 rfl rfl)
        | (go_at_call 8; refine (toRange_any _ _ _).mono ?_; rintro e wa ⟨rfl, hb⟩; (first | have I := hide (I.out.up hb) | skip); have hD := hide (hD.out.trans (hb.mono hD.out.size)); have XD := hide (XD.out.up hb); have d0 := XD.out.cell 0 0 rfl rfl; have d1 := XD.out.cell 0 1 rfl rfl)
        | (go_at_call 15; refine (HSS.out _ _ I.out).mono ?_; rintro e wa ⟨va, rfl, O, hb⟩; have hn := hide hD.out.size; have hn2 := hide hb.size; have O := hide (Ow.of O hb.size); have hD := hide (hD.out.trans (hb.mono hD.out.size)); have XD := hide (XD.out.up hb); have d0 := XD.out.cell 0 0 rfl rfl; have d1 := XD.out.cell 0 1 rfl rfl))
      all_goals go_wp2_with fail
      all_goals go_meet
      all_goals exact ⟨_, _, rfl, hn.out, hn2.out, O.out, hD.out, XD.out⟩
    case rest =>
      obtain ⟨v5, n5, rfl, hn5, hm5, O5, hB, X⟩ := hcut
      clear d0 d1 hB
      go_wp2_with fail
      refine (toIntS_own _ l _ w.heap.size (HV.out.below X.out.below (Nat.le_refl _)) X.out.below.size hbig).mono ?_
      rintro e w6 ⟨v6, rfl, O6, hb⟩
      have O6 := hide (Ow.of O6 hb.size)
      have hs6 := hide hb.size
      have O5 := hide (O5.out.below hb)
      have X := hide (X.out.up hb)
      have d0 := X.out.cell 0 0 rfl rfl
      have d1 := X.out.cell 0 1 rfl rfl
      clear hb
      go_wp2_with fail
      refine (toRange_any _ _ _).mono ?_
      rintro e w7 ⟨rfl, hb⟩
      have hs7 := hide hb.size
      have O5 := hide (O5.out.below hb)
      have O6 := hide (O6.out.below hb)
      have X := hide (X.out.up hb)
      clear hb d0 d1
      go_wp2_with fail
      refine (HSI.out _ _ (O6.out.ints HWL.out)).mono ?_
      rintro e w8 ⟨v7, rfl, O7, hb⟩
      have O7 := hide (Ow.of O7 hb.size)
      have hs8 := hide hb.size
      have O5 := hide (O5.out.below hb)
      have O6 := hide (O6.out.below hb)
      have X := hide (X.out.up hb)
      clear hb
      go_wp2_with fail
      refine (eqIntS_alike _ _ m _ _ (O7.out.ints HW.out) (O5.out.ints HW.out)).mono ?_
      rintro e w9 ⟨rfl, hb⟩
      have O5 := hide (O5.out.below hb)
      have O6 := hide (O6.out.below hb)
      have O7 := hide (O7.out.below hb)
      have X := hide (X.out.up hb)
      clear hb
      go_wp2_with fail
      refine (toIntS_any _ l _ w.heap.size (HV.out.below X.out.below (Nat.le_refl _)) X.out.below.size hbig).mono ?_
      rintro e w10 ⟨v10, rfl, I10, hb⟩
      have I10 := hide I10
      have O5 := hide (O5.out.below hb)
      have O6 := hide (O6.out.below hb)
      have O7 := hide (O7.out.below hb)
      have X := hide (X.out.up hb)
      clear hb
      go_wp2_with fail
      refine (eqIntS_alike _ _ l _ _ (O6.out.ints HWL.out) I10.out).mono ?_
      rintro e w11 ⟨rfl, hb⟩
      have O5 := hide (O5.out.below hb)
      have O6 := hide (O6.out.below hb)
      have O7 := hide (O7.out.below hb)
      have X := hide (X.out.up hb)
      clear hb
      go_wp2_with fail
      refine (markIntS_ow _ l _ _ 1 w11 O6.out (by omega) (by omega)).mono ?_
      rintro e w12 ⟨rfl, -, sg⟩
      have O5 := hide (O5.out.seg sg (.inl (Nat.le_refl _)))
      have O7 := hide (O7.out.seg sg (.inr hs7.out))
      have X := hide (X.out.seg sg (by have := hsC.out; have := hn5.out; have := hm5.out; omega) (by simp; have := hsC.out; have := hn5.out; have := hm5.out; omega))
      have hk0 : decide ((1 : Int) + (l.length : Int) < 0) = false := decide_eq_false (by omega)
      clear sg
      go_wp2_with fail
      refine (eqIntS_alike _ _ m _ _ (O7.out.ints HW.out) (O5.out.ints HW.out)).mono ?_
      rintro e w13 ⟨rfl, hb⟩
      have O5 := hide (O5.out.below hb)
      have O7 := hide (O7.out.below hb)
      have X := hide (X.out.up hb)
      clear hb
      go_wp2_with fail
      refine (markIntS_ow _ m _ _ 1 w13 O7.out (by omega) (by omega)).mono ?_
      rintro e w14 ⟨rfl, O7, sg⟩
      have O7 := hide O7
      have O5 := hide (O5.out.seg sg (.inl (by have := hs6.out; have := hs7.out; omega)))
      have X := hide (X.out.seg sg (by have := hsC.out; have := hn5.out; have := hm5.out; have := hs6.out; have := hs7.out; omega) (by simp; have := hsC.out; have := hn5.out; have := hm5.out; have := hs6.out; have := hs7.out; omega))
      clear sg
      go_wp2_with fail
      refine (heldIntS_ow _ m.length _ _ 1 w14 O7.out (by omega) (by omega)).mono ?_
      rintro e w14' ⟨rfl, rfl⟩
      have d0 := X.out.cell 0 0 rfl rfl
      have d1 := X.out.cell 0 1 rfl rfl
      have hk1 : decide ((1 : Int) + (m.length : Int) < 0) = false := decide_eq_false (by omega)
      go_upto_region 22 with fail
      go_cut [11] (fun s wx => ∃ v n, s = v ∧ Hid (w14.heap.size ≤ n) ∧ Hid (n ≤ wx.heap.size) ∧ Hid (Ow wx v m n wx.heap.size) ∧ Hid (Below w14.heap.size w14 wx) ∧ Hid (Kn w wx [(w.heap.size, #[.int .i64 f, .int .i64 t], 23)]))
      case first =>
        have hD := hide ((Below.refl w14.heap.size w14).drew)
        have XD := hide X.out.drew
        have I := hide True.intro
        go_region_held3 (fun w' => w'.cell? ⟨w.heap.size, 0, none⟩ = some (.int .i64 f) ∧ w'.cell? ⟨w.heap.size, 1, none⟩ = some (.int .i64 t)) (first | exact ⟨d0, d1⟩ | go_keep) (first
          | (go_at_call 16; refine (toIntS_any _ l _ w.heap.size (HV.out.below XD.out.below (Nat.le_refl _)) XD.out.below.size hbig).mono ?_; rintro e wa ⟨va, rfl, I, hb⟩; have I := hide I; have hD := hide (hD.out.trans (hb.mono hD.out.size)); have XD := hide (XD.out.up hb); have d0 := XD.out.cell 0 0 rfl rfl; have d1 := XD.out.cell 0 1 rfl rfl)
          | (go_at_call 8; refine (toRange_any _ _ _).mono ?_; rintro e wa ⟨rfl, hb⟩; (first | have I := hide (I.out.up hb) | skip); have hD := hide (hD.out.trans (hb.mono hD.out.size)); have XD := hide (XD.out.up hb); have d0 := XD.out.cell 0 0 rfl rfl; have d1 := XD.out.cell 0 1 rfl rfl)
          | (go_at_call 17; refine (HSI.out _ _ I.out).mono ?_; rintro e wa ⟨va, rfl, O, hb⟩; have hn := hide hD.out.size; have hn2 := hide hb.size; have O := hide (Ow.of O hb.size); have hD := hide (hD.out.trans (hb.mono hD.out.size)); have XD := hide (XD.out.up hb); have d0 := XD.out.cell 0 0 rfl rfl; have d1 := XD.out.cell 0 1 rfl rfl))
        all_goals go_wp2_with fail
        all_goals go_meet
        all_goals exact ⟨_, _, rfl, hn.out, hn2.out, O.out, hD.out, XD.out⟩
      case rest =>
        obtain ⟨v22, n22, rfl, hn22, hm22, O22, hB, X⟩ := hcut
        have O5 := hide (O5.out.below hB.out)
        have O7 := hide (O7.out.below hB.out)
        clear d0 d1 hB
        go_wp2_with fail
        refine (eqIntS_alike _ _ m _ _ (O22.out.ints HW.out) (O5.out.ints HW.out)).mono ?_
        rintro e w23 ⟨rfl, hb⟩
        have O7 := hide (O7.out.below hb)
        have X := hide (X.out.up hb)
        clear hb
        go_wp2_with fail
        refine (heldIntS_ow _ m.length _ _ 1 w23 O7.out (by omega) (by omega)).mono ?_
        rintro e w23' ⟨rfl, rfl⟩
        go_wp2_with fail
        go_ret
        exact ⟨rfl, X.out.below⟩
  · go_enter Try.func6, Try.ntmps6
    go_wp2_with fail
    rw [← hw1]
    go_ret
    exact ⟨rfl, X.out.below⟩

set_option maxRecDepth 100000 in
theorem lifted (os : Os) (started : os.Started) (H : Type) (enc : TypeId × Value → H) :
    ReturnsInHanded {} Try.checked os 6 .any (Rows.fnExactScanRangeSpec.pre6 enc Try.prog Try.f6 Rows.fnExactScanRangeRow.domain false) (Rows.fnExactScanRangeSpec.post enc Try.prog Try.f6 false true false false) := by
  refine returnsInHanded_of_change (C := Try.checked) own started (by kernel_rfl) Try.func6
    (ChangeSpec.witness6 (enc := enc) (C := Try.checked) false ⟨#[], #[.slice none 0 0, .agg #[.int .i64 0, .int .i64 0]], []⟩ 8 (by kernel_rfl) (by kernel_rfl) (by kernel_rfl) (by kernel_rfl)) ?_
  intro W base args ds gs before hval0 hW hcnd _
  have hval : ∀ (j : Nat) t v, Try.f6.params[j]? = some t → args[j]? = some v → Value.okWide Try.prog W .any base t v := hval0
  have hW' := hW
  obtain ⟨p, q, hA0, hV, rfl, hfz, hnd⟩ := hW
  have hA : DataW.TrodAll enc Try.prog W 0 (fun _ => true) true Try.f6.params.toList args.toList ds p := hA0
  rw [Try.params6] at hA hval
  obtain ⟨v0, vs0, d0, ds0, p0, q0, hargs, rfl, rfl, h0, r0⟩ := trodAll_cons hA
  obtain ⟨v1, vs1, d1, ds1, p1, q1, rfl, rfl, rfl, h1, r1⟩ := trodAll_cons r0
  obtain ⟨rfl, rfl, rfl⟩ := trodAll_nil r1
  obtain rfl : args = #[v0, v1] := by cases args; simp_all
  obtain ⟨rfl, rfl⟩ := trodVars_none hV
  have k0 := h0
  have lt0 : ∀ x ∈ p0, x.block < W.heap.size := by obtain ⟨m, hm⟩ := k0; exact DataW.trod_lt m _ _ _ hm
  have k1 := h1
  have lt1 : ∀ x ∈ p1, x.block < W.heap.size := by obtain ⟨m, hm⟩ := k1; exact DataW.trod_lt m _ _ _ hm
  have w0 := open_intS (hval 0 33 v0 rfl rfl) h0
  have w1 := open_rg (hval 1 23 v1 rfl rfl) h1
  clear hA0 hval0
  refine (walk W v0 w0 v1 w1).mono fun e W' ⟨he, bel⟩ => ?_
  subst he
  exact ⟨_, rfl, _, _, _, [], _, [], hW', trodAll_mk1 (shut_bool Try.underlying4 _), (trodAll_cons_mk (Below.trod laidOut (by kernel_rfl) (of_decide_eq_true (by kernel_rfl)) k0 bel lt0) (trodAll_cons_mk (Below.trod laidOut (by kernel_rfl) (of_decide_eq_true (by kernel_rfl)) k1 bel lt1) trodAll_mk0)), rfl, bel.frame _, fun h => by cases h⟩

theorem over : Rows.fnExactScanRangeRow.holds Try.pinned (OpenSpec.ofChange Rows.fnExactScanRangeSpec) :=
  OpenClaim.holds_of_wide 6 Try.f6 rfl rfl rfl rfl rfl rfl rfl ⟨rfl, rfl, rfl, rfl, rfl⟩ rfl rfl rfl rfl rfl (by kernel_rfl) Try.func6 (by kernel_rfl)
    (of_decide_eq_true (by kernel_rfl)) (by unfold Func.isWrapper; first | (rw [if_pos (by decide +kernel)]; kernel_rfl) | (rw [if_neg (by decide +kernel)]; exact ⟨rfl, rfl⟩))
    (fun os started H enc _ => lifted os started H enc)

/-- The statement. -/
theorem proved : Rows.FnExactScanRangeSaid := over
#print axioms proved
end Go.Proofs.Ytgeegbbcjdlkbaa.fnExactScanRange
