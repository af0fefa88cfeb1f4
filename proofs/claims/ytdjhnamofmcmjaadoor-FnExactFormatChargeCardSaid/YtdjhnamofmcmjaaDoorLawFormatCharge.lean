/- The law FnExactFormatCharge holds: whatever the arguments, the call returns true, and they read afterwards as before. Condition: together the arguments hold at most 1048576 values and letters. -/
import Derived.Test.YtdjhnamofmcmjaaDoorRows
import Derived.WalkKit
import Derived.ProofKit
import Derived.OpenShut
import Derived.ShutString
import Derived.ChangeOld
import Derived.Below
import Derived.Test.YtdjhnamofmcmjaaDoorCards
import Derived.Test.YtdjhnamofmcmjaaDoorTie
import Derived.SevenTiedAt
import Derived.LaidMore
import Derived.Stop.Joined
import Derived.MakeChecks
import Derived.Lib.LaidTab
import Derived.Test.YtdjhnamofmcmjaaDoorFc
namespace Go.Proofs.YtdjhnamofmcmjaaDoor.fnExactFormatCharge
open Go.ChangeShapes Go.WideShapes Go.ChangeAt Go.RowKit
open Go.ChangeMaps (open_string shut_string)
set_option linter.unusedVariables false
set_option linter.unusedSimpArgs false

theorem own : ownKnob Tryd.prog.godebug = none := by kernel_rfl
theorem laidOut : laidOutB Tryd.prog = true := by kernel_rfl

set_option maxRecDepth 100000 in
set_option maxHeartbeats 1000000 in
theorem walk (w : World) (v0 : Value) (w0 : ∃ c : Chg, v0 = .agg #[.int .i64 c.q, .int .i64 c.v, .int .i64 c.a, .int .i64 c.b, .int .i64 c.n] ∧ c.Ok) (ht : Tab w) :
    Calls Tryd.prog 3 #[v0] w fun e w' => e = .returned (.bool true) ∧ Below w.heap.size w w' := by
  obtain ⟨⟨q, v, a, b, n⟩, rfl, -⟩ := w0
  simp only
  have X1 := hide (Kn.one w #[.int .i64 q, .int .i64 v, .int .i64 a, .int .i64 b, .int .i64 n] 23)
  obtain ⟨w1, hw1⟩ : ∃ w1, w1 = w.alloc (.cells #[.int .i64 q, .int .i64 v, .int .i64 a, .int .i64 b, .int .i64 n] 23) := ⟨_, rfl⟩
  obtain ⟨r, hr⟩ : ∃ r : ByteArray, r = ⟨(fmtC q v a b n).toArray⟩ := ⟨_, rfl⟩
  have HT := hide ht
  have TC := hide (fun (W : World) => toCharge_any ⟨q, v, a, b, n⟩ W)
  have HS := hide (fun W => show Calls Tryd.prog 4 #[.agg #[.int .i64 q, .int .i64 v, .int .i64 a, .int .i64 b, .int .i64 n]] W fun e w' => e = .returned (.string ⟨(fmtC q v a b n).toArray⟩) ∧ Below W.heap.size W w' from sFmtC_any q v a b n W)
  have HI := hide (fun W hW => show Calls Tryd.prog 6 #[.agg #[.int .i64 q, .int .i64 v, .int .i64 a, .int .i64 b, .int .i64 n]] W fun e w' => e = .returned (.string ⟨(fmtC q v a b n).toArray⟩) ∧ Below W.heap.size W w' from iFmtC_any q v a b n W hW)
  have hrr : (r.toList != r.toList) = false := by simp
  rw [← hr] at HS HI
  clear hr ht
  rw [← hw1] at X1
  have c0 : w1.cell? ⟨w.heap.size, 0, none⟩ = some (.int .i64 q) := X1.out.cell 0 0 rfl rfl
  have c1 : w1.cell? ⟨w.heap.size, 1, none⟩ = some (.int .i64 v) := X1.out.cell 0 1 rfl rfl
  have c2 : w1.cell? ⟨w.heap.size, 2, none⟩ = some (.int .i64 a) := X1.out.cell 0 2 rfl rfl
  have c3 : w1.cell? ⟨w.heap.size, 3, none⟩ = some (.int .i64 b) := X1.out.cell 0 3 rfl rfl
  have c4 : w1.cell? ⟨w.heap.size, 4, none⟩ = some (.int .i64 n) := X1.out.cell 0 4 rfl rfl
  rw [hw1] at c0 c1 c2 c3 c4
  go_enter Tryd.func3, Tryd.ntmps3
  go_wp2_with fail
  rw [← hw1]
  clear hw1 c0 c1 c2 c3 c4
  go_at_call 5
  refine (TC.out _).mono ?_
  rintro e w2 ⟨rfl, hb⟩
  have X2 := hide (X1.out.up hb)
  clear hb
  simp only
  go_wp2_with fail
  go_at_call 4
  refine (HS.out _).mono ?_
  rintro e w3 ⟨rfl, hb⟩
  have X3 := hide (X2.out.up hb)
  have c0 : w3.cell? ⟨w.heap.size, 0, none⟩ = some (.int .i64 q) := X3.out.cell 0 0 rfl rfl
  have c1 : w3.cell? ⟨w.heap.size, 1, none⟩ = some (.int .i64 v) := X3.out.cell 0 1 rfl rfl
  have c2 : w3.cell? ⟨w.heap.size, 2, none⟩ = some (.int .i64 a) := X3.out.cell 0 2 rfl rfl
  have c3 : w3.cell? ⟨w.heap.size, 3, none⟩ = some (.int .i64 b) := X3.out.cell 0 3 rfl rfl
  have c4 : w3.cell? ⟨w.heap.size, 4, none⟩ = some (.int .i64 n) := X3.out.cell 0 4 rfl rfl
  clear hb
  go_wp2_with fail
  clear c0 c1 c2 c3 c4
  go_at_call 5
  refine (TC.out _).mono ?_
  rintro e w4 ⟨rfl, hb⟩
  have X4 := hide (X3.out.up hb)
  clear hb
  simp only
  go_wp2_with fail
  go_at_call 6
  refine (HI.out _ (HT.out.stays X4.out.below (Nat.le_refl _))).mono ?_
  rintro e w5 ⟨rfl, hb⟩
  have X5 := hide (X4.out.up hb)
  clear hb
  go_wp2_with fail
  go_ret
  exact ⟨rfl, X5.out.below⟩

theorem door_met (os : Os) (args : Array Value) : laidMetH Tryd.prog Rows.fnExactFormatChargeRow.laid ((World.doorLaid Tryd.prog 24 os).forCall (fun _ _ => 0) ⟨#[], args, []⟩).memory :=
  laidMetH_of_parts3 (fuel := 8) (laidMet_of_run' 8 (by kernel_rfl) (by kernel_rfl)) (by kernel_rfl) (by kernel_rfl)

theorem of_laid {W : World} (h : laidMetH Tryd.prog Rows.fnExactFormatChargeRow.laid W) : Tab W := by
  rw [MakeChecks.laidMetH_plain _ _ _ (by kernel_rfl)] at h
  obtain ⟨ps, ⟨g0, t0, cs0, f0, p0, q0, hg0, ht0, hv0, hd0, ⟨g1, t1, cs1, f1, p1, q1, hg1, ht1, hv1, hd1, ⟨g2, t2, cs2, f2, p2, q2, hg2, ht2, hv2, hd2, _, _⟩, _⟩, _⟩, _, _⟩ := h
  obtain rfl := Option.some.inj (tabG.symm.trans hg2)
  obtain rfl := Option.some.inj ((show (Tryd.prog.globals[0]?).map (·.type) = some 46 by kernel_rfl).symm.trans ht2)
  show Lib.TabIs _ _ _ _ _
  unfold Lib.TabIs
  rw [hv2, ← Lib.cells_of_tab (zs := Lib.pow10Tab) Tryd.underlying46 Tryd.underlying39 (by kernel_rfl) (by kernel_rfl) hd2]

set_option maxRecDepth 100000 in
theorem lifted (os : Os) (started : os.Started) (H : Type) (enc : TypeId × Value → H) :
    ReturnsInHanded {} Tryd.checked os 3 .any (fun w args => (Rows.fnExactFormatChargeSpec.pre enc Tryd.prog Tryd.f3 [] false w args ∧ laidMetH Tryd.prog Rows.fnExactFormatChargeRow.laid w) ∧ sizedMet enc Tryd.prog Tryd.f3 (OpenSpec.ofChange Rows.fnExactFormatChargeSpec) false w args) (Rows.fnExactFormatChargeSpec.post enc Tryd.prog Tryd.f3 false true false false) := by
  refine returnsInHanded_of_change_and (C := Tryd.checked) (X := fun w _ => laidMetH Tryd.prog Rows.fnExactFormatChargeRow.laid w) (fun _ _ _ hh h => h.of_heap hh) own started (by kernel_rfl) Tryd.func3
    (ChangeSpec.witness_shaped (enc := enc) (C := Tryd.checked) (os := os) (X := fun w _ => laidMetH Tryd.prog Rows.fnExactFormatChargeRow.laid w) false (World.doorLaid Tryd.prog 24 os) #[.agg #[.int .i64 0, .int .i64 0, .int .i64 0, .int .i64 0, .int .i64 0]] 8 rfl (World.shaped_of_RefB (by kernel_rfl) (by kernel_rfl)) (by kernel_rfl) (by kernel_rfl) (by kernel_rfl) (door_met os _)) ?_
  intro W base args ds gs before hval0 hW _ _ hL _
  have hval : ∀ (j : Nat) t v, Tryd.f3.params[j]? = some t → args[j]? = some v → Value.okWide Tryd.prog W .any base t v := hval0
  have hW' := hW
  obtain ⟨p, q, hA0, hV, rfl, hfz, hnd⟩ := hW
  have hA : DataW.TrodAll enc Tryd.prog W 0 (fun _ => true) true Tryd.f3.params.toList args.toList ds p := hA0
  rw [Tryd.params3] at hA hval
  obtain ⟨v0, vs0, d0, ds0, p0, q0, hargs, rfl, rfl, h0, r0⟩ := trodAll_cons hA
  obtain ⟨rfl, rfl, rfl⟩ := trodAll_nil r0
  obtain rfl : args = #[v0] := by cases args; simp_all
  obtain ⟨rfl, rfl⟩ := trodVars_none hV
  have k0 := h0
  have lt0 : ∀ x ∈ p0, x.block < W.heap.size := by obtain ⟨m, hm⟩ := k0; exact DataW.trod_lt m _ _ _ hm
  have w0 := open_chg1 (hval 0 23 v0 rfl rfl) h0
  clear hA0 hval0
  refine (walk W v0 w0 (of_laid hL)).mono fun e W' ⟨he, bel⟩ => ?_
  subst he
  exact ⟨_, rfl, _, _, _, [], _, [], hW', trodAll_mk1 (shut_bool Tryd.underlying4 _), (trodAll_cons_mk (Below.trod laidOut (by kernel_rfl) (of_decide_eq_true (by kernel_rfl)) k0 bel lt0) trodAll_mk0), rfl, bel.frame _, fun h => by cases h⟩

theorem over : Rows.fnExactFormatChargeRow.holds Tryd.pinned (OpenSpec.ofChange Rows.fnExactFormatChargeSpec) :=
  OpenClaim.holds_of_wide 3 Tryd.f3 rfl rfl rfl rfl rfl rfl rfl ⟨rfl, rfl, rfl, rfl, rfl⟩ rfl rfl rfl rfl rfl (by kernel_rfl) Tryd.func3 (by kernel_rfl)
    (of_decide_eq_true (by kernel_rfl)) (by unfold Func.isWrapper; first | (rw [if_pos (by decide +kernel)]; kernel_rfl) | (rw [if_neg (by decide +kernel)]; exact ⟨rfl, rfl⟩))
    (fun os started H enc _ => lifted os started H enc)

/-- The statement: the card. -/
theorem proved : Rows.FnExactFormatChargeCardSaid :=
  Claim7.holds_tied_plain_at .later [] [.data, .data, .data] true (true, "7cda464b93340f10decc9a8f03bc3b7d71f97d3c6da4b7b5d6cd7ed83a1b995e") false
    over (fun _ h => by cases h) (by kernel_rfl) (fun _ h => by cases h) fnExactFormatCharge_row_tie rfl ⟨rfl, rfl⟩ (by kernel_rfl) rfl
    (fun f fn hf hfn => by
      obtain rfl : f = 3 := Option.some.inj ((show Tryd.prog.funcNamed Rows.fnExactFormatChargeRow.func = some 3 by kernel_rfl).symm.trans hf) |>.symm
      obtain rfl : fn = Tryd.f3 := (Option.some.inj (Tryd.func3.symm.trans hfn)).symm
      exact ⟨by kernel_rfl, fun j t ht => by
        rw [Tryd.params3] at ht
        have hm : t ∈ [23] := by simpa using Array.mem_of_getElem? ht
        have hall : ([23].all fun u => !Tryd.prog.wantsStandIn u) = true := by kernel_rfl
        exact (show Tryd.prog.wantsStandIn t = false by simpa using List.all_eq_true.1 hall t hm)⟩)
    (by kernel_rfl)
#print axioms proved
end Go.Proofs.YtdjhnamofmcmjaaDoor.fnExactFormatCharge
