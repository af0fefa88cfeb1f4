/- The law FnExactColumnOf holds: whatever the arguments, the call returns true, and they read afterwards as before. -/
import Derived.Test.YtiianddblanffaaRows
import Derived.WalkKit
import Derived.ProofKit
import Derived.OpenShut
import Derived.ShutString
import Derived.ChangeOld
import Derived.Below
import Derived.Test.YtiianddblanffaaColOf
namespace Go.Proofs.Ytiianddblanffaa.fnExactColumnOf
open Go.ChangeShapes Go.WideShapes Go.ChangeAt Go.RowKit
open Go.ChangeMaps (open_string shut_string)
set_option linter.unusedVariables false
set_option linter.unusedSimpArgs false

theorem own : ownKnob Try.prog.godebug = none := by kernel_rfl
theorem laidOut : laidOutB Try.prog = true := by kernel_rfl

set_option maxRecDepth 100000 in
set_option maxHeartbeats 4000000 in
theorem walk (w : World) (v0 : Value) (w0 : ∃ cs, Tbl w w.heap.size v0 cs) (a1 : ByteArray) (w1' : a1.size ≤ maxLen) :
    Calls Try.prog 8 #[v0, .string a1] w fun e w' => e = .returned (.bool true) ∧ Below w.heap.size w w' := by
  unfold maxLen at w1'
  obtain ⟨cs, ht⟩ := w0
  have HT := hide ht
  obtain ⟨a, cap, rfl⟩ := ht.form
  have HSZ := hide ht.sizes
  clear ht
  have HB1 := hide (Box.new w (.slice a cs.length cap) 29)
  obtain ⟨z, hz⟩ : ∃ z, z = lft (totC cs) 1048576 := ⟨_, rfl⟩
  have TB : Hid (∀ W, Below w.heap.size w W → Tbl W w.heap.size (.agg #[.slice a cs.length cap]) cs) := fun W h => HT.out.below h (Nat.le_refl _)
  by_cases hbig : a1.size ≤ 1048576
  · clear w1'
    by_cases hz0 : z < 0
    · have HZ := hide hz
      clear hz
      go_enter Try.func8, Try.ntmps8
      go_wp2_with fail
      obtain ⟨w1, hw1⟩ : ∃ w1, w1 = w.alloc (.cells #[.slice a cs.length cap] 29) := ⟨_, rfl⟩
      rw [← hw1] at HB1 ⊢
      clear hw1
      go_at_call 15
      refine (szTable_any _ cs _ w1 w.heap.size (TB.out _ HB1.out.1) (Nat.le_of_lt HB1.out.2.2) (by omega) (by omega)).mono ?_
      rintro e w2 ⟨rfl, hb2⟩
      have B2 := hide (HB1.out.up hb2)
      clear hb2
      rw [← HZ.out]
      go_wp2_with fail
      go_ret
      exact ⟨rfl, B2.out.1⟩
    · have hsm := small_of (cs := cs) (by rw [← hz]; exact hz0)
      have hs := hide hsm
      have HZ := hide hz
      obtain ⟨⟨l, t⟩, hr⟩ : ∃ r, r = colOf cs a1 := ⟨_, rfl⟩
      have hok := colOf_ok a1 (K := 1048576) (fun c hc => ⟨(hsm.2 c hc).2, (HSZ.out.2 c hc).2.2⟩)
      rw [← hr] at hok
      obtain ⟨hll, hwf0⟩ := hok
      have hwf := hide hwf0
      simp only at hll
      have hcnt : cnt cs ≤ 1099511627776 := by
        have h1 : totC cs ≤ 1048576 := by unfold lft at hz; split at hz <;> omega
        have h2 : ∀ ds : List Col, cnt ds ≤ ds.length + sumC ds := by
          intro ds
          induction ds with
          | nil => simp [cnt]
          | cons d ds ih => simp [cnt, sumC, wC] at *; omega
        have := h2 cs
        unfold totC at h1
        omega
      have HR := hide hr
      have htt : (t != t) = false := by simp
      have hqq : ((1 : Int) + (l.length : Int) != (1 : Int) + (l.length : Int)) = false := by simp
      clear hz hr hsm hwf0
      go_enter Try.func8, Try.ntmps8
      go_wp2_with fail
      obtain ⟨w1, hw1⟩ : ∃ w1, w1 = w.alloc (.cells #[.slice a cs.length cap] 29) := ⟨_, rfl⟩
      rw [← hw1] at HB1 ⊢
      clear hw1
      go_at_call 15
      refine (szTable_any _ cs _ w1 w.heap.size (TB.out _ HB1.out.1) (Nat.le_of_lt HB1.out.2.2) (by omega) (by omega)).mono ?_
      rintro e w2 ⟨rfl, hb2⟩
      have B2 := hide (HB1.out.up hb2)
      have c2 := B2.out.2.1
      clear hb2
      rw [← HZ.out]
      go_wp2_with fail
      go_at_call 17
      refine (toTable_m _ cs w2 w.heap.size (TB.out _ B2.out.1) (Nat.le_of_lt B2.out.2.2) hs.out).mono ?_
      rintro e w3 ⟨a3, cap3, F3, rfl, hm3, hl3, hb3⟩
      have B3 := hide (B2.out.up hb3)
      have M3 := hide hm3
      clear hb3 hm3 hl3 c2
      go_wp2_with fail
      go_at_call 24
      refine (sColOf_any _ cs F3 a1 w3 M3.out (by omega)).mono ?_
      rintro e w4 ⟨u4, rfl, ho4, hb4⟩
      have B4 := hide (B3.out.up hb4)
      have c4 := B4.out.2.1
      rw [← HR.out] at ho4 ⊢
      have O4 := hide (OI.of ho4).1
      have L4 := hide (O4.out.lt)
      clear hb4 ho4
      go_wp2_with fail
      go_at_call 17
      refine (toTable_m _ cs w4 w.heap.size (TB.out _ B4.out.1) (Nat.le_of_lt B4.out.2.2) hs.out).mono ?_
      rintro e w5 ⟨a5, cap5, F5, rfl, hm5, hl5, hb5⟩
      have B5 := hide (B4.out.up hb5)
      have M5 := hide hm5
      have O5 := hide (O4.out.below hb5)
      have F5lo := hide hl5
      have H45 := hide hb5.size
      have F5hi := hide (slE.lt colE_good hm5.own)
      clear hb5 hm5 hl5 c4
      have X6 := hide (Box.new w5 (.slice a5 cs.length cap5) 34)
      go_wp2_with fail
      obtain ⟨w6, hw6⟩ : ∃ w6, w6 = w5.alloc (.cells #[.slice a5 cs.length cap5] 34) := ⟨_, rfl⟩
      rw [← hw6] at X6 ⊢
      clear hw6
      have B6 := hide (B5.out.up X6.out.1)
      have M6 := hide (M5.out.up X6.out.1)
      have O6 := hide (O5.out.below X6.out.1)
      go_at_call 25
      refine (iColOf_any _ cs F5 a1 w6 M6.out (by omega)).mono ?_
      rintro e w7 ⟨u7, rfl, ho7, hb7⟩
      have B7 := hide (B6.out.up hb7)
      have X7 := hide (X6.out.up hb7)
      have M7 := hide (M6.out.up hb7)
      have O7 := hide (O6.out.below hb7)
      rw [← HR.out] at ho7 ⊢
      obtain ⟨hg7, hgl7⟩ := OI.of ho7
      have G7 := hide hg7
      have G7lo := hide hgl7
      clear hb7 ho7 hg7 hgl7
      go_wp2_with fail
      go_at_call 14
      refine (eqIntS_same _ _ l w7 _ (G7.out.ints hwf.out) (O7.out.ints hwf.out)).mono ?_
      rintro e w8 ⟨rfl, hb8⟩
      have B8 := hide (B7.out.up hb8)
      have X8 := hide (X7.out.up hb8)
      have M8 := hide (M7.out.up hb8)
      have O8 := hide (O7.out.below hb8)
      have G8 := hide (G7.out.below hb8)
      have c8 := B8.out.2.1
      have x8 := X8.out.2.1
      clear hb8
      go_wp2_with fail
      go_region_with (first
        | (go_at_call 17; refine (toTable_any _ cs w8.drew w.heap.size (TB.out _ B8.out.1.drew) (Nat.le_of_lt B8.out.2.2) hs.out).mono ?_; rintro e w9 ⟨a9, cap9, rfl, ht9, hb9⟩; have x9 := cell_up (W := w8.drew) x8 X8.out.2.2 hb9)
        | (go_at_call 19; refine (eqTable_same _ _ cs _ _ (Nat.le_refl _) (Tbl.up (w := w8.drew) M8.out.tbl hb9) ht9).mono ?_; rintro e w10 ⟨rfl, hb10⟩))
      all_goals
        have hb8' := hide ((Below.refl w8.heap.size w8).drew)
        have B10 := hide (((B8.out.up hb8'.out).up hb9).up hb10)
        have X10 := hide (((X8.out.up hb8'.out).up hb9).up hb10)
        have M10 := hide (((M8.out.up hb8'.out).up hb9).up hb10)
        have O10 := hide (((O8.out.below hb8'.out).below hb9).below hb10)
        have G10 := hide (((G8.out.below hb8'.out).below hb9).below hb10)
        have x10 := X10.out.2.1
        clear hb9 hb10 c8 x8
        try clear x9
        go_wp2_with fail
        go_at_call 26
        refine (markTable_own _ cs F5 1 w10 M10.out.own (by omega) (by omega)).mono ?_
        rintro e w11 ⟨rfl, -, hw11⟩
        have B11 := hide (B10.out.only hw11 (fun b hb => Nat.lt_of_lt_of_le B4.out.2.2 (F5lo.out b hb)))
        have O11 := hide (O10.out.only hw11 (fun b hb hf => by have := L4.out b hb; have := F5lo.out b hf; omega))
        have G11 := hide (G10.out.only hw11 (fun b hb hf => by have := (G7lo.out b hb).1; have := F5hi.out b hf; have := X6.out.1.size; omega))
        clear hw11 x10
        go_wp2_with fail
        go_at_call 14
        refine (eqIntS_same _ _ l w11 _ (G11.out.ints hwf.out) (O11.out.ints hwf.out)).mono ?_
        rintro e w12 ⟨rfl, hb12⟩
        have B12 := hide (B11.out.up hb12)
        have O12 := hide (O11.out.below hb12)
        have G12 := hide (G11.out.below hb12)
        clear hb12
        go_wp2_with fail
        go_at_call 27
        refine (markIntS_own _ l _ 1 w12 G12.out (by omega) (by omega)).mono ?_
        rintro e w13 ⟨rfl, hg13, hw13⟩
        have B13 := hide (B12.out.only hw13 (fun b hb => Nat.lt_of_lt_of_le B6.out.2.2 (G7lo.out b hb).1))
        have O13 := hide (O12.out.only hw13 (fun b hb hf => by have := L4.out b hb; have := (G7lo.out b hf).1; have := X6.out.1.size; have := H45.out; omega))
        have G13 := hide hg13
        have c13 := B13.out.2.1
        clear hg13 hw13
        go_wp2_with fail
        go_at_call 28
        refine (heldIntS_own _ l.length _ 1 w13 G13.out (by omega) (by omega)).mono ?_
        rintro e w13' ⟨rfl, rfl⟩
        go_wp2_with fail
        go_at_call 17
        refine (toTable_m _ cs w13 w.heap.size (TB.out _ B13.out.1) (Nat.le_of_lt B13.out.2.2) hs.out).mono ?_
        rintro e w14 ⟨a14, cap14, F14, rfl, hm14, hl14, hb14⟩
        have B14 := hide (B13.out.up hb14)
        have O14 := hide (O13.out.below hb14)
        have G14 := hide (G13.out.below hb14)
        have M14 := hide hm14
        clear hm14 hl14 hb14 c13
        go_wp2_with fail
        go_at_call 25
        refine (iColOf_any _ cs F14 a1 w14 M14.out (by omega)).mono ?_
        rintro e w15 ⟨u15, rfl, ho15, hb15⟩
        rw [← HR.out] at ho15 ⊢
        have H15 := hide (OI.of ho15).1
        have B15 := hide (B14.out.up hb15)
        have O15 := hide (O14.out.below hb15)
        have G15 := hide (G14.out.below hb15)
        clear ho15 hb15
        go_wp2_with fail
        go_at_call 14
        refine (eqIntS_same _ _ l w15 _ (H15.out.ints hwf.out) (O15.out.ints hwf.out)).mono ?_
        rintro e w16 ⟨rfl, hb16⟩
        have B16 := hide (B15.out.up hb16)
        have G16 := hide (G15.out.below hb16)
        clear hb16
        go_wp2_with fail
        go_at_call 28
        refine (heldIntS_own _ l.length _ 1 w16 G16.out (by omega) (by omega)).mono ?_
        rintro e w16' ⟨rfl, rfl⟩
        go_wp2_with fail
        go_ret
        exact ⟨rfl, B16.out.1⟩
  · go_enter Try.func8, Try.ntmps8
    go_wp2_with fail
    go_ret
    exact ⟨rfl, HB1.out.1⟩

set_option maxRecDepth 100000 in
theorem lifted (os : Os) (started : os.Started) (H : Type) (enc : TypeId × Value → H) :
    ReturnsInHanded {} Try.checked os 8 .any (Rows.fnExactColumnOfSpec.pre6 enc Try.prog Try.f8 Rows.fnExactColumnOfRow.domain false) (Rows.fnExactColumnOfSpec.post enc Try.prog Try.f8 false true false false) := by
  refine returnsInHanded_of_change (C := Try.checked) own started (by kernel_rfl) Try.func8
    (ChangeSpec.witness6 (enc := enc) (C := Try.checked) false ⟨#[], #[.agg #[.slice none 0 0], .string ByteArray.empty], []⟩ 8 (by kernel_rfl) (by kernel_rfl) (by kernel_rfl) (by kernel_rfl)) ?_
  intro W base args ds gs before hval0 hW hcnd _
  have hval : ∀ (j : Nat) t v, Try.f8.params[j]? = some t → args[j]? = some v → Value.okWide Try.prog W .any base t v := hval0
  have hW' := hW
  obtain ⟨p, q, hA0, hV, rfl, hfz, hnd⟩ := hW
  have hA : DataW.TrodAll enc Try.prog W 0 (fun _ => true) true Try.f8.params.toList args.toList ds p := hA0
  rw [Try.params8] at hA hval
  obtain ⟨v0, vs0, d0, ds0, p0, q0, hargs, rfl, rfl, h0, r0⟩ := trodAll_cons hA
  obtain ⟨v1, vs1, d1, ds1, p1, q1, rfl, rfl, rfl, h1, r1⟩ := trodAll_cons r0
  obtain ⟨rfl, rfl, rfl⟩ := trodAll_nil r1
  obtain rfl : args = #[v0, v1] := by cases args; simp_all
  obtain ⟨rfl, rfl⟩ := trodVars_none hV
  have k0 := h0
  have lt0 : ∀ x ∈ p0, x.block < W.heap.size := by obtain ⟨m, hm⟩ := k0; exact DataW.trod_lt m _ _ _ hm
  have k1 := h1
  have lt1 : ∀ x ∈ p1, x.block < W.heap.size := by obtain ⟨m, hm⟩ := k1; exact DataW.trod_lt m _ _ _ hm
  have w0 := open_tbl (hval 0 29 v0 rfl rfl) h0
  obtain ⟨a1, rfl, e1, f1, w1⟩ := open_string Try.underlying9 (hval 1 9 v1 rfl rfl) h1
  clear hA0 hval0
  refine (walk W v0 w0 a1 w1).mono fun e W' ⟨he, bel⟩ => ?_
  subst he
  exact ⟨_, rfl, _, _, _, [], _, [], hW', trodAll_mk1 (shut_bool Try.underlying4 _), (trodAll_cons_mk (Below.trod laidOut (by kernel_rfl) (of_decide_eq_true (by kernel_rfl)) k0 bel lt0) (trodAll_cons_mk (Below.trod laidOut (by kernel_rfl) (of_decide_eq_true (by kernel_rfl)) k1 bel lt1) trodAll_mk0)), rfl, bel.frame _, fun h => by cases h⟩

theorem over : Rows.fnExactColumnOfRow.holds Try.pinned (OpenSpec.ofChange Rows.fnExactColumnOfSpec) :=
  OpenClaim.holds_of_wide 8 Try.f8 rfl rfl rfl rfl rfl rfl rfl ⟨rfl, rfl, rfl, rfl, rfl⟩ rfl rfl rfl rfl rfl (by kernel_rfl) Try.func8 (by kernel_rfl)
    (of_decide_eq_true (by kernel_rfl)) (by unfold Func.isWrapper; first | (rw [if_pos (by decide +kernel)]; kernel_rfl) | (rw [if_neg (by decide +kernel)]; exact ⟨rfl, rfl⟩))
    (fun os started H enc _ => lifted os started H enc)

/-- The statement. -/
theorem proved : Rows.FnExactColumnOfSaid := over
#print axioms proved
end Go.Proofs.Ytiianddblanffaa.fnExactColumnOf
