/- The law FnExactFormatTable holds: whatever the arguments, the call returns true, and they read afterwards as before. Condition: together the arguments hold at most 1048576 values and letters. -/
import Derived.Test.YtiianddblanffaaDoorRows
import Derived.WalkKit
import Derived.ProofKit
import Derived.OpenShut
import Derived.ShutString
import Derived.ChangeOld
import Derived.Below
import Derived.Test.YtiianddblanffaaDoorCards
import Derived.Test.YtiianddblanffaaDoorTie
import Derived.SevenTiedAt
import Derived.LaidMore
import Derived.Stop.Joined
import Derived.MakeChecks
import Derived.Lib.LaidTab
import Derived.Test.YtiianddblanffaaDoorTblLaw
import Derived.Test.YtiianddblanffaaDoorFmtI2
namespace Go.Proofs.YtiianddblanffaaDoor.fnExactFormatTable
open Go.ChangeShapes Go.WideShapes Go.ChangeAt Go.RowKit
open Go.ChangeMaps (open_string shut_string)
set_option linter.unusedVariables false
set_option linter.unusedSimpArgs false

theorem own : ownKnob Tryd.prog.godebug = none := by kernel_rfl
theorem laidOut : laidOutB Tryd.prog = true := by kernel_rfl

set_option maxRecDepth 100000 in
set_option maxHeartbeats 2000000 in
theorem walk (w : World) (v0 : Value) (w0 : ∃ cs, Tbl w w.heap.size v0 cs) (hTab : Tab w) :
    Calls Tryd.prog 3 #[v0] w fun e w' => e = .returned (.bool true) ∧ Below w.heap.size w w' := by
  have HTab := hide hTab
  clear hTab
  obtain ⟨cs, ht⟩ := w0
  have HT := hide ht
  obtain ⟨a, cap, rfl⟩ := ht.form
  clear ht
  have HB1 := hide (Box.new w (.slice a cs.length cap) 24)
  obtain ⟨z, hz⟩ : ∃ z, z = lft (totC cs) 1048576 := ⟨_, rfl⟩
  have TB : Hid (∀ W, Below w.heap.size w W → Tbl W w.heap.size (.agg #[.slice a cs.length cap]) cs) := fun W h => HT.out.below h (Nat.le_refl _)
  by_cases hz0 : z < 0
  · have HZ := hide hz
    clear hz
    go_enter Tryd.func3, Tryd.ntmps3
    go_wp2_with fail
    obtain ⟨w1, hw1⟩ : ∃ w1, w1 = w.alloc (.cells #[.slice a cs.length cap] 24) := ⟨_, rfl⟩
    rw [← hw1] at HB1 ⊢
    clear hw1
    go_at_call 5
    refine (szTable_any _ cs _ w1 w.heap.size (TB.out _ HB1.out.1) (Nat.le_of_lt HB1.out.2.2) (by omega) (by omega)).mono ?_
    rintro e w2 ⟨rfl, hb2⟩
    have B2 := hide (HB1.out.up hb2)
    clear hb2
    rw [← HZ.out]
    go_wp2_with fail
    go_ret
    exact ⟨rfl, B2.out.1⟩
  · have hs := hide (small_of (cs := cs) (by rw [← hz]; exact hz0))
    have HZ := hide hz
    clear hz
    obtain ⟨r, hr⟩ : ∃ r, r = fmtTab cs := ⟨_, rfl⟩
    have HR := hide hr
    clear hr
    go_enter Tryd.func3, Tryd.ntmps3
    go_wp2_with fail
    obtain ⟨w1, hw1⟩ : ∃ w1, w1 = w.alloc (.cells #[.slice a cs.length cap] 24) := ⟨_, rfl⟩
    rw [← hw1] at HB1 ⊢
    clear hw1
    go_at_call 5
    refine (szTable_any _ cs _ w1 w.heap.size (TB.out _ HB1.out.1) (Nat.le_of_lt HB1.out.2.2) (by omega) (by omega)).mono ?_
    rintro e w2 ⟨rfl, hb2⟩
    have B2 := hide (HB1.out.up hb2)
    have c2 := B2.out.2.1
    clear hb2
    rw [← HZ.out]
    go_wp2_with fail
    go_at_call 7
    refine (toTable_any _ cs w2 w.heap.size (TB.out _ B2.out.1) (Nat.le_of_lt B2.out.2.2) hs.out).mono ?_
    rintro e w3 ⟨a3, cap3, rfl, ht3, hb3⟩
    have B3 := hide (B2.out.up hb3)
    have T3 := hide ht3
    clear hb3 ht3 c2
    go_wp2_with fail
    go_at_call 6
    refine (sFmt_any _ cs w3 _ T3.out (Nat.le_refl _)).mono ?_
    rintro e w4 ⟨rfl, hb4⟩
    have B4 := hide (B3.out.up hb4)
    have c4 := B4.out.2.1
    clear hb4
    rw [← HR.out]
    go_wp2_with fail
    go_at_call 7
    refine (toTable_any _ cs w4 w.heap.size (TB.out _ B4.out.1) (Nat.le_of_lt B4.out.2.2) hs.out).mono ?_
    rintro e w5 ⟨a5, cap5, rfl, ht5, hb5⟩
    have B5 := hide (B4.out.up hb5)
    have T5 := hide ht5
    clear hb5 ht5 c4
    have X6 := hide (Box.new w5 (.slice a5 cs.length cap5) 29)
    go_wp2_with fail
    obtain ⟨w6, hw6⟩ : ∃ w6, w6 = w5.alloc (.cells #[.slice a5 cs.length cap5] 29) := ⟨_, rfl⟩
    rw [← hw6] at X6 ⊢
    clear hw6
    have B6 := hide (B5.out.up X6.out.1)
    have T6 := hide (T5.out.up X6.out.1)
    go_at_call 8
    refine (iFmt_any _ cs w6 _ T6.out (Nat.le_refl _) (HTab.out.stays B6.out.1 (Nat.le_refl _))).mono ?_
    rintro e w7 ⟨rfl, hb7⟩
    have B7 := hide (B6.out.up hb7)
    have X7 := hide (X6.out.up hb7)
    have T7 := hide (T6.out.up hb7)
    have c7 := B7.out.2.1
    have x7 := X7.out.2.1
    clear hb7
    rw [← HR.out]
    go_wp2_with fail
    go_region_with (first
      | (go_at_call 7; refine (toTable_any _ cs w7.drew w.heap.size (TB.out _ B7.out.1.drew) (Nat.le_of_lt B7.out.2.2) hs.out).mono ?_; rintro e w8 ⟨a8, cap8, rfl, ht8, hb8⟩; have x8 := cell_up (W := w7.drew) x7 X7.out.2.2 hb8)
      | (go_at_call 9; refine (eqTable_same _ _ cs _ _ (Nat.le_refl _) (Tbl.up (w := w7.drew) T7.out hb8) ht8).mono ?_; rintro e w9 ⟨rfl, hb9⟩))
    all_goals go_wp2_with fail
    all_goals go_ret
    all_goals exact ⟨rfl, ((B7.out.drew.up hb8).up hb9).1⟩

theorem door_met (os : Os) (args : Array Value) : laidMetH Tryd.prog Rows.fnExactFormatTableRow.laid ((World.doorLaid Tryd.prog 34 os).forCall (fun _ _ => 0) ⟨#[], args, []⟩).memory :=
  laidMetH_of_parts3 (fuel := 8) (laidMet_of_run' 8 (by kernel_rfl) (by kernel_rfl)) (by kernel_rfl) (by kernel_rfl)

theorem of_laid {W : World} (h : laidMetH Tryd.prog Rows.fnExactFormatTableRow.laid W) : Tab W := by
  rw [MakeChecks.laidMetH_plain _ _ _ (by kernel_rfl)] at h
  obtain ⟨ps, ⟨g0, t0, cs0, f0, p0, q0, hg0, ht0, hv0, hd0, ⟨g1, t1, cs1, f1, p1, q1, hg1, ht1, hv1, hd1, ⟨g2, t2, cs2, f2, p2, q2, hg2, ht2, hv2, hd2, _, _⟩, _⟩, _⟩, _, _⟩ := h
  obtain rfl := Option.some.inj (tabG.symm.trans hg2)
  obtain rfl := Option.some.inj ((show (Tryd.prog.globals[1]?).map (·.type) = some 113 by kernel_rfl).symm.trans ht2)
  show Lib.TabIs _ _ _ _ _
  unfold Lib.TabIs
  rw [hv2, ← Lib.cells_of_tab (zs := Lib.pow10Tab) Tryd.underlying113 Tryd.underlying107 (by kernel_rfl) (by kernel_rfl) hd2]

set_option maxRecDepth 100000 in
theorem lifted (os : Os) (started : os.Started) (H : Type) (enc : TypeId × Value → H) :
    ReturnsInHanded {} Tryd.checked os 3 .any (fun w args => (Rows.fnExactFormatTableSpec.pre enc Tryd.prog Tryd.f3 [] false w args ∧ laidMetH Tryd.prog Rows.fnExactFormatTableRow.laid w) ∧ sizedMet enc Tryd.prog Tryd.f3 (OpenSpec.ofChange Rows.fnExactFormatTableSpec) false w args) (Rows.fnExactFormatTableSpec.post enc Tryd.prog Tryd.f3 false true false false) := by
  refine returnsInHanded_of_change_and (C := Tryd.checked) (X := fun w _ => laidMetH Tryd.prog Rows.fnExactFormatTableRow.laid w) (fun _ _ _ hh h => h.of_heap hh) own started (by kernel_rfl) Tryd.func3
    (ChangeSpec.witness_shaped (enc := enc) (C := Tryd.checked) (os := os) (X := fun w _ => laidMetH Tryd.prog Rows.fnExactFormatTableRow.laid w) false (World.doorLaid Tryd.prog 34 os) #[.agg #[.slice none 0 0]] 8 rfl (World.shaped_of_RefB (by kernel_rfl) (by kernel_rfl)) (by kernel_rfl) (by kernel_rfl) (by kernel_rfl) (door_met os _)) ?_
  intro W base args ds gs before hval0 hW _ _ hL _
  have hval : ∀ (j : Nat) t v, Tryd.f3.params[j]? = some t → args[j]? = some v → Value.okWide Tryd.prog W .any base t v := hval0
  have hW' := hW
  obtain ⟨p, q, hA0, hV, rfl, hfz, hnd⟩ := hW
  have hA : DataW.TrodAll enc Tryd.prog W 0 (fun _ => true) true Tryd.f3.params.toList args.toList ds p := hA0
  rw [Tryd.params3] at hA hval
  obtain ⟨v0, vs0, d0, ds0, p0, q0, hargs, rfl, rfl, h0, r0⟩ := trodAll_cons hA
  obtain ⟨rfl, rfl, rfl⟩ := trodAll_nil r0
  obtain rfl : args = #[v0] := by cases args; simp_all
  obtain ⟨rfl, rfl⟩ := trodVars_none hV
  have k0 := h0
  have lt0 : ∀ x ∈ p0, x.block < W.heap.size := by obtain ⟨m, hm⟩ := k0; exact DataW.trod_lt m _ _ _ hm
  have w0 := open_tbl (hval 0 24 v0 rfl rfl) h0
  clear hA0 hval0
  refine (walk W v0 w0 (of_laid hL)).mono fun e W' ⟨he, bel⟩ => ?_
  subst he
  exact ⟨_, rfl, _, _, _, [], _, [], hW', trodAll_mk1 (shut_bool Tryd.underlying4 _), (trodAll_cons_mk (Below.trod laidOut (by kernel_rfl) (of_decide_eq_true (by kernel_rfl)) k0 bel lt0) trodAll_mk0), rfl, bel.frame _, fun h => by cases h⟩

theorem over : Rows.fnExactFormatTableRow.holds Tryd.pinned (OpenSpec.ofChange Rows.fnExactFormatTableSpec) :=
  OpenClaim.holds_of_wide 3 Tryd.f3 rfl rfl rfl rfl rfl rfl rfl ⟨rfl, rfl, rfl, rfl, rfl⟩ rfl rfl rfl rfl rfl (by kernel_rfl) Tryd.func3 (by kernel_rfl)
    (of_decide_eq_true (by kernel_rfl)) (by unfold Func.isWrapper; first | (rw [if_pos (by decide +kernel)]; kernel_rfl) | (rw [if_neg (by decide +kernel)]; exact ⟨rfl, rfl⟩))
    (fun os started H enc _ => lifted os started H enc)

/-- The statement: the card. -/
theorem proved : Rows.FnExactFormatTableCardSaid :=
  Claim7.holds_tied_plain_at .later [] [.data, .data, .data] true (true, "7daa775cd7011c4ef23764a5f3d0ceda42ac6a8377729681b4336cdb25d84586") false
    over (fun _ h => by cases h) (by kernel_rfl) (fun _ h => by cases h) fnExactFormatTable_row_tie rfl ⟨rfl, rfl⟩ (by kernel_rfl) rfl
    (fun f fn hf hfn => by
      obtain rfl : f = 3 := Option.some.inj ((show Tryd.prog.funcNamed Rows.fnExactFormatTableRow.func = some 3 by kernel_rfl).symm.trans hf) |>.symm
      obtain rfl : fn = Tryd.f3 := (Option.some.inj (Tryd.func3.symm.trans hfn)).symm
      exact ⟨by kernel_rfl, fun j t ht => by
        rw [Tryd.params3] at ht
        have hm : t ∈ [24] := by simpa using Array.mem_of_getElem? ht
        have hall : ([24].all fun u => !Tryd.prog.wantsStandIn u) = true := by kernel_rfl
        exact (show Tryd.prog.wantsStandIn t = false by simpa using List.all_eq_true.1 hall t hm)⟩)
    (by kernel_rfl)
#print axioms proved
end Go.Proofs.YtiianddblanffaaDoor.fnExactFormatTable
