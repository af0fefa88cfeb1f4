/- The law FnExactParseTable holds: whatever the arguments, the call returns true, and they read afterwards as before. Condition: together the arguments hold at most 1048576 values and letters. -/
import Derived.Test.YtiianddblanffaaDoorRows
import Derived.WalkKit
import Derived.ProofKit
import Derived.OpenShut
import Derived.ShutString
import Derived.ChangeOld
import Derived.Below
import Derived.Lay
import Derived.Test.YtiianddblanffaaDoorCards
import Derived.Test.YtiianddblanffaaDoorTie
import Derived.SevenTiedAt
import Derived.LaidMore
import Derived.Stop.Joined
import Derived.MakeChecks
import Derived.Lib.LaidTab
import Derived.Test.YtiianddblanffaaDoorTblLaw
import Derived.Test.YtiianddblanffaaDoorParL
namespace Go.Proofs.YtiianddblanffaaDoor.fnExactParseTable
open Go.ChangeShapes Go.WideShapes Go.ChangeAt Go.RowKit
open Go.ChangeMaps (open_string shut_string)
set_option linter.unusedVariables false
set_option linter.unusedSimpArgs false

theorem own : ownKnob Tryd.prog.godebug = none := by kernel_rfl
theorem laidOut : laidOutB Tryd.prog = true := by kernel_rfl

set_option maxRecDepth 100000 in
set_option maxHeartbeats 4000000 in
theorem walk (w : World) (a0 : ByteArray) (w0 : a0.size ≤ maxLen) (hTab : Tab w) (hML : ML w) :
    Calls Tryd.prog 4 #[.string a0] w fun e w' => e = .returned (.bool true) ∧ Below w.heap.size w w' := by
  unfold maxLen at w0
  by_cases hbig : a0.size ≤ 1048576
  · have HS := hide (fun W : World => sParse_any a0 W hbig)
    have HI := hide (fun (W : World) (h1 : Tab W) (h2 : ML W) => iParse_sp a0 W hbig h1 h2)
    have HP := hide (sP_parsed a0.data.toList)
    obtain ⟨⟨cs, t⟩, hr⟩ : ∃ p, p = sP a0.data.toList := ⟨_, rfl⟩
    rw [← hr] at HS HI HP
    have HT := hide hTab
    have HM := hide hML
    clear hr hTab hML
    go_enter Tryd.func4, Tryd.ntmps4
    go_wp2_with fail
    go_at_call 10
    refine (HS.out w).mono ?_
    rintro e w1 ⟨hb1, aw, capw, Fw, rfl, hcw, hFw⟩
    have B1 := hide hb1
    have W1 := hide hcw
    have FWlo := hide hFw
    have FWhi := hide (slE.lt colE_good hcw)
    clear hb1 hcw hFw
    have Y2 := hide ((Below.refl w1.heap.size w1).alloc (Nat.le_refl _) (.cells #[.slice aw cs.length capw] 29))
    have K2 := hide (Cel.new w1 (.slice aw cs.length capw) 29)
    go_wp2_with fail
    obtain ⟨w2, hw2⟩ : ∃ w2, w2 = w1.alloc (.cells #[.slice aw cs.length capw] 29) := ⟨_, rfl⟩
    rw [← hw2] at Y2 K2 ⊢
    clear hw2
    have B2 := hide (B1.out.trans (Y2.out.mono B1.out.size))
    have W2 := hide (slE.below colE_good W1.out Y2.out)
    go_at_call 11
    refine (HI.out w2 (HT.out.stays B2.out (Nat.le_refl _)) (HM.out.up B2.out)).mono ?_
    rintro e w3 ⟨hb3, ag, capg, Fg, rfl, hcg, hFg⟩
    have B3 := hide (B2.out.trans (hb3.mono B2.out.size))
    have W3 := hide (slE.below colE_good W2.out hb3)
    have K3 := hide (K2.out.up hb3)
    have G3 := hide hcg
    have FGlo := hide hFg
    have FGhi := hide (slE.lt colE_good hcg)
    clear hb3 hcg hFg
    have Y4 := hide ((Below.refl w3.heap.size w3).alloc (Nat.le_refl _) (.cells #[.slice ag cs.length capg] 29))
    have L4 := hide (Cel.new w3 (.slice ag cs.length capg) 29)
    have K4 := hide (K3.out.up Y4.out)
    have W4 := hide (slE.below colE_good W3.out Y4.out)
    have G4 := hide (slE.below colE_good G3.out Y4.out)
    have B4 := hide (B3.out.trans (Y4.out.mono B3.out.size))
    have c4 := K4.out.1
    go_wp2_with fail
    obtain ⟨w4, hw4⟩ : ∃ w4, w4 = w3.alloc (.cells #[.slice ag cs.length capg] 29) := ⟨_, rfl⟩
    rw [← hw4] at Y4 L4 K4 W4 G4 B4 ⊢
    clear hw4 c4
    go_at_call 9
    refine (eqTable_same _ _ cs w4 _ (Nat.le_refl _) (HP.out.tbl G4.out) (HP.out.tbl W4.out)).mono ?_
    rintro e w5 ⟨rfl, hb5⟩
    have B5 := hide (B4.out.trans (hb5.mono B4.out.size))
    have W5 := hide (slE.below colE_good W4.out hb5)
    have G5 := hide (slE.below colE_good G4.out hb5)
    have K5 := hide (K4.out.up hb5)
    have L5 := hide (L4.out.up hb5)
    have ht : (t != t) = false := by cases t <;> rfl
    have c5 := K5.out.1
    have d5 := L5.out.1
    have hcn := HP.out.1.2
    clear hb5
    go_wp2_with fail
    go_at_call 12
    refine (markTable_own _ cs Fg 1 w5 G5.out (by omega) (by omega)).mono ?_
    rintro e w6 ⟨rfl, hg6, ho6⟩
    have B6 := hide (B5.out.trans (ho6.toBelow (lo := w.heap.size) (fun b hb => Nat.le_trans B2.out.size (FGlo.out b hb)) B5.out.size))
    have W6 := hide (slE.only colE_good W5.out ho6 (fun b hb hf => by have := FWhi.out b hb; have := FGlo.out b hf; have := Y2.out.size; omega))
    have K6 := hide (K5.out.only ho6 (fun hf => by have := FGlo.out _ hf; have := K2.out.2; omega))
    have L6 := hide (L5.out.only ho6 (fun hf => by have := FGhi.out _ hf; omega))
    have G6 := hide hg6
    clear hg6 ho6 c5 d5
    have c6 := K6.out.1
    have d6 := L6.out.1
    obtain ⟨m, hm⟩ : ∃ m : Nat, m = 1 + cnt cs := ⟨_, rfl⟩
    have HH := hide (fun (W : World) (hW : colsE W (.slice ag cs.length capg) (mkC 1 cs) Fg) => heldTable_own _ cs Fg 1 W hW (by omega) (by omega))
    rw [← hm] at HH ⊢
    have hm0 : ((m : Int) < 0) = False := by simp
    have hmm : ((m : Int) != (m : Int)) = false := by simp
    clear hm
    go_wp2_with fail
    go_at_call 13
    refine (HH.out w6 G6.out).mono ?_
    rintro e w7 ⟨rfl, hb7⟩
    have B7 := hide (B6.out.trans (hb7.mono B6.out.size))
    have W7 := hide (slE.below colE_good W6.out hb7)
    have G7 := hide (slE.below colE_good G6.out hb7)
    have K7 := hide (K6.out.up hb7)
    have L7 := hide (L6.out.up hb7)
    clear hb7 c6 d6
    have c7 := K7.out.1
    have d7 := L7.out.1
    go_wp2_with fail
    go_at_call 11
    refine (HI.out w7 (HT.out.stays B7.out (Nat.le_refl _)) (HM.out.up B7.out)).mono ?_
    rintro e w8 ⟨hb8, ah, caph, Fh, rfl, hch, hFh⟩
    have B8 := hide (B7.out.trans (hb8.mono B7.out.size))
    have W8 := hide (slE.below colE_good W7.out hb8)
    have G8 := hide (slE.below colE_good G7.out hb8)
    have K8 := hide (K7.out.up hb8)
    have L8 := hide (L7.out.up hb8)
    have H8 := hide hch
    clear hb8 hch hFh c7 d7
    have Y9 := hide ((Below.refl w8.heap.size w8).alloc (Nat.le_refl _) (.cells #[.slice ah cs.length caph] 29))
    have B9 := hide (B8.out.trans (Y9.out.mono B8.out.size))
    have W9 := hide (slE.below colE_good W8.out Y9.out)
    have G9 := hide (slE.below colE_good G8.out Y9.out)
    have H9 := hide (slE.below colE_good H8.out Y9.out)
    have K9 := hide (K8.out.up Y9.out)
    have L9 := hide (L8.out.up Y9.out)
    have c9 := K9.out.1
    have d9 := L9.out.1
    go_wp2_with fail
    obtain ⟨w9, hw9⟩ : ∃ w9, w9 = w8.alloc (.cells #[.slice ah cs.length caph] 29) := ⟨_, rfl⟩
    rw [← hw9] at Y9 B9 W9 G9 H9 K9 L9 ⊢
    clear hw9 c9 d9
    go_at_call 9
    refine (eqTable_same _ _ cs w9 _ (Nat.le_refl _) (HP.out.tbl H9.out) (HP.out.tbl W9.out)).mono ?_
    rintro e w10 ⟨rfl, hb10⟩
    have B10 := hide (B9.out.trans (hb10.mono B9.out.size))
    have G10 := hide (slE.below colE_good G9.out hb10)
    have L10 := hide (L9.out.up hb10)
    clear hb10
    have d10 := L10.out.1
    go_wp2_with fail
    go_at_call 13
    refine (HH.out w10 G10.out).mono ?_
    rintro e w11 ⟨rfl, hb11⟩
    have B11 := hide (B10.out.trans (hb11.mono B10.out.size))
    clear hb11 d10
    go_wp2_with fail
    go_ret
    exact ⟨rfl, B11.out⟩
  · go_enter Tryd.func4, Tryd.ntmps4
    go_wp2_with fail
    go_ret
    exact ⟨rfl, Below.refl _ _⟩


theorem of_laid {W : World} (h : laidMetH Tryd.prog Rows.fnExactParseTableRow.laid W) : Tab W := by
  rw [MakeChecks.laidMetH_plain _ _ _ (by kernel_rfl)] at h
  obtain ⟨ps, ⟨g0, t0, cs0, f0, p0, q0, hg0, ht0, hv0, hd0, ⟨g1, t1, cs1, f1, p1, q1, hg1, ht1, hv1, hd1, ⟨g2, t2, cs2, f2, p2, q2, hg2, ht2, hv2, hd2, ⟨g3, t3, cs3, f3, p3, q3, hg3, ht3, hv3, hd3, ⟨g4, t4, cs4, f4, p4, q4, hg4, ht4, hv4, hd4, _, _⟩, _⟩, _⟩, _⟩, _⟩, _, _⟩ := h
  obtain rfl := Option.some.inj (tabG.symm.trans hg2)
  obtain rfl := Option.some.inj ((show (Tryd.prog.globals[1]?).map (·.type) = some 113 by kernel_rfl).symm.trans ht2)
  show Lib.TabIs _ _ _ _ _
  unfold Lib.TabIs
  rw [hv2, ← Lib.cells_of_tab (zs := Lib.pow10Tab) Tryd.underlying113 Tryd.underlying107 (by kernel_rfl) (by kernel_rfl) hd2]

set_option maxRecDepth 100000 in
theorem lifted (os : Os) (started : os.Started) (H : Type) (enc : TypeId × Value → H) :
    ReturnsInHanded {} Tryd.checked os 4 .any (fun w args => (Rows.fnExactParseTableSpec.pre enc Tryd.prog Tryd.f4 [] false w args ∧ laidMetH Tryd.prog Rows.fnExactParseTableRow.laid w) ∧ sizedMet enc Tryd.prog Tryd.f4 (OpenSpec.ofChange Rows.fnExactParseTableSpec) false w args) (Rows.fnExactParseTableSpec.post enc Tryd.prog Tryd.f4 false true false false) := by
  refine handed_open (C := Tryd.checked) (X := fun w _ => laidMetH Tryd.prog Rows.fnExactParseTableRow.laid w) (fun _ _ _ hh h => h.of_heap hh) own started (by kernel_rfl) Tryd.func4
    (ChangeSpec.witness_shaped (enc := enc) (C := Tryd.checked) (os := os) (X := fun w _ => laidMetH Tryd.prog Rows.fnExactParseTableRow.laid w) false (World.laidAll Tryd.prog os Rows.fnExactParseTableRow.laid) #[.string ByteArray.empty] 8 (World.laidAll_os _ _ _) (World.shaped_of_ZipB (by kernel_rfl) (by kernel_rfl)) (by kernel_rfl) (by kernel_rfl) (by kernel_rfl) (by rw [MakeChecks.laidMetH_plain _ _ _ (by kernel_rfl)]; exact laidMet_laidAll _ (by kernel_rfl) (by kernel_rfl))) ?_
  intro W base args ds gs before hval0 hW hsh hL
  have hval : ∀ (j : Nat) t v, Tryd.f4.params[j]? = some t → args[j]? = some v → Value.okWide Tryd.prog W .any base t v := hval0
  have hW' := hW
  obtain ⟨p, q, hA0, hV, rfl, hfz, hnd⟩ := hW
  have hA : DataW.TrodAll enc Tryd.prog W 0 (fun _ => true) true Tryd.f4.params.toList args.toList ds p := hA0
  rw [Tryd.params4] at hA hval
  obtain ⟨v0, vs0, d0, ds0, p0, q0, hargs, rfl, rfl, h0, r0⟩ := trodAll_cons hA
  obtain ⟨rfl, rfl, rfl⟩ := trodAll_nil r0
  obtain rfl : args = #[v0] := by cases args; simp_all
  obtain ⟨rfl, rfl⟩ := trodVars_none hV
  have k0 := h0
  have lt0 : ∀ x ∈ p0, x.block < W.heap.size := by obtain ⟨m, hm⟩ := k0; exact DataW.trod_lt m _ _ _ hm
  obtain ⟨a0, rfl, e0, f0, w0⟩ := open_string Tryd.underlying9 (hval 0 9 v0 rfl rfl) h0
  clear hA0 hval0
  refine (walk W a0 w0 (of_laid hL) (ml_of hsh)).mono fun e W' ⟨he, bel⟩ => ?_
  subst he
  exact ⟨_, rfl, _, _, _, [], _, [], hW', trodAll_mk1 (shut_bool Tryd.underlying4 _), (trodAll_cons_mk (Below.trod laidOut (by kernel_rfl) (of_decide_eq_true (by kernel_rfl)) k0 bel lt0) trodAll_mk0), rfl, bel.frame _, fun h => by cases h⟩

theorem over : Rows.fnExactParseTableRow.holds Tryd.pinned (OpenSpec.ofChange Rows.fnExactParseTableSpec) :=
  OpenClaim.holds_of_wide 4 Tryd.f4 rfl rfl rfl rfl rfl rfl rfl ⟨rfl, rfl, rfl, rfl, rfl⟩ rfl rfl rfl rfl rfl (by kernel_rfl) Tryd.func4 (by kernel_rfl)
    (of_decide_eq_true (by kernel_rfl)) (by unfold Func.isWrapper; first | (rw [if_pos (by decide +kernel)]; kernel_rfl) | (rw [if_neg (by decide +kernel)]; exact ⟨rfl, rfl⟩))
    (fun os started H enc _ => lifted os started H enc)

/-- The statement: the card. -/
theorem proved : Rows.FnExactParseTableCardSaid :=
  Claim7.holds_tied_plain_at .later [] [.data, .data, .data, .data, .pinned] true (true, "7daa775cd7011c4ef23764a5f3d0ceda42ac6a8377729681b4336cdb25d84586") false
    over (fun _ h => by cases h) (by kernel_rfl) (fun _ h => by cases h) fnExactParseTable_row_tie rfl ⟨rfl, rfl⟩ (by kernel_rfl) rfl
    (fun f fn hf hfn => by
      obtain rfl : f = 4 := Option.some.inj ((show Tryd.prog.funcNamed Rows.fnExactParseTableRow.func = some 4 by kernel_rfl).symm.trans hf) |>.symm
      obtain rfl : fn = Tryd.f4 := (Option.some.inj (Tryd.func4.symm.trans hfn)).symm
      exact ⟨by kernel_rfl, fun j t ht => by
        rw [Tryd.params4] at ht
        have hm : t ∈ [9] := by simpa using Array.mem_of_getElem? ht
        have hall : ([9].all fun u => !Tryd.prog.wantsStandIn u) = true := by kernel_rfl
        exact (show Tryd.prog.wantsStandIn t = false by simpa using List.all_eq_true.1 hall t hm)⟩)
    (by kernel_rfl)
#print axioms proved
end Go.Proofs.YtiianddblanffaaDoor.fnExactParseTable
