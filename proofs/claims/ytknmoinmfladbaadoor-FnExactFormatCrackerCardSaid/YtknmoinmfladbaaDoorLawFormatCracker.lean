/- The law FnExactFormatCracker holds: whatever the arguments, the call returns true, and they read afterwards as before. Condition: together the arguments hold at most 1048576 values and letters. -/
import Derived.Test.YtknmoinmfladbaaDoorRows
import Derived.WalkKit
import Derived.ProofKit
import Derived.OpenShut
import Derived.ShutString
import Derived.ChangeOld
import Derived.Below
import Derived.Test.YtknmoinmfladbaaDoorCards
import Derived.Test.YtknmoinmfladbaaDoorTie
import Derived.SevenTiedAt
import Derived.LaidMore
import Derived.Stop.Joined
import Derived.MakeChecks
import Derived.Lib.LaidTab
import Derived.Test.YtknmoinmfladbaaDoorCkFs
import Derived.Test.YtknmoinmfladbaaDoorCkFi
namespace Go.Proofs.YtknmoinmfladbaaDoor.fnExactFormatCracker
open Go.ChangeShapes Go.WideShapes Go.ChangeAt Go.RowKit
open Go.ChangeMaps (open_string shut_string)
set_option linter.unusedVariables false
set_option linter.unusedSimpArgs false

theorem own : ownKnob Tryd.prog.godebug = none := by kernel_rfl
theorem laidOut : laidOutB Tryd.prog = true := by kernel_rfl

set_option maxRecDepth 100000 in
set_option maxHeartbeats 4000000 in
theorem walk (w : World) (v0 : Value) (w0 : ∃ l r ps, Ck w w.heap.size v0 l r ps) (ht : Tab w) :
    Calls Tryd.prog 3 #[v0] w fun e w' => e = .returned (.bool true) ∧ Below w.heap.size w w' := by
  obtain ⟨l, r, ps, hc⟩ := w0
  obtain ⟨b1, c1, b2, c2, b3, c3, rfl, -, -, -⟩ := hc.form
  have HC := hide (fun (W : World) (h : Below w.heap.size w W) => hc.below h (Nat.le_refl _))
  clear hc
  have HT := hide (fun (W : World) (h : Below w.heap.size w W) => ht.stays h (Nat.le_refl _))
  clear ht
  have X := hide (Kn.one w #[.slice b1 l.length c1, .slice b2 r.length c2, .slice b3 ps.length c3] 25)
  obtain ⟨w1, hw1⟩ : ∃ w1, w1 = w.alloc (.cells #[.slice b1 l.length c1, .slice b2 r.length c2, .slice b3 ps.length c3] 25) := ⟨_, rfl⟩
  rw [← hw1] at X
  have d0 := X.out.cell 0 0 rfl rfl
  have d1 := X.out.cell 0 1 rfl rfl
  have d2 := X.out.cell 0 2 rfl rfl
  obtain ⟨z, hz⟩ : ∃ z, z = szC (l.length + r.length + ps.length) 1048576 := ⟨_, rfl⟩
  have HZ := hide hz
  unfold szC at hz
  by_cases hz0 : z < 0
  · clear hz
    go_enter Tryd.func3, Tryd.ntmps3
    go_wp2_with fail
    rw [← hw1]
    clear hw1
    go_at_call 4
    refine (szCracker_any _ l r ps _ w1 w.heap.size (HC.out _ X.out.below) X.out.below.size (by omega) (by omega)).mono ?_
    rintro e w2 ⟨rfl, hb⟩
    rw [← HZ.out]
    have X := hide (X.out.up hb)
    clear hb d0 d1 d2
    go_wp2_with fail
    go_ret
    exact ⟨rfl, X.out.below⟩
  · have hs : l.length ≤ 1048576 ∧ r.length ≤ 1048576 ∧ ps.length ≤ 1048576 := by split at hz <;> omega
    obtain ⟨hs1, hs2, hs3⟩ := hs
    clear hz
    obtain ⟨q, hq⟩ : ∃ q : List UInt8, q = fmtCk l r ps := ⟨_, rfl⟩
    have HS := hide (fun (W : World) (v : Value) (ht : Tab W) (h : Ck W W.heap.size v l r ps) => sFmtCk_any v l r ps W _ h (Nat.le_refl _))
    have HI := hide (fun (W : World) (v : Value) (ht : Tab W) (h : Ck W W.heap.size v l r ps) => iFmtCk_any v l r ps W _ h (Nat.le_refl _) ht)
    rw [← hq] at HS HI
    clear hq
    skip
    have t1 : ((⟨q.toArray⟩ : ByteArray).toList != (⟨q.toArray⟩ : ByteArray).toList) = false := bne_self_eq_false _
    go_enter Tryd.func3, Tryd.ntmps3
    go_wp2_with fail
    rw [← hw1]
    clear hw1
    go_at_call 4
    refine (szCracker_any _ l r ps _ w1 w.heap.size (HC.out _ X.out.below) X.out.below.size (by omega) (by omega)).mono ?_
    rintro e w2 ⟨rfl, hb⟩
    rw [← HZ.out]
    have X := hide (X.out.up hb)
    clear hb d0 d1 d2
    have d0 := X.out.cell 0 0 rfl rfl
    have d1 := X.out.cell 0 1 rfl rfl
    have d2 := X.out.cell 0 2 rfl rfl
    go_wp2_with fail
    go_at_call 6
    refine (toCracker_any _ l r ps w2 w.heap.size (HC.out _ X.out.below) X.out.below.size hs1 hs2 hs3).mono ?_
    rintro e w3 ⟨e1, k1, e2, k2, e3, k3, rfl, hck, hb⟩
    have X := hide (X.out.up hb)
    clear hb d0 d1 d2
    go_wp2_with fail
    go_at_call 5
    refine (HS.out _ _ (HT.out _ X.out.below) hck).mono ?_
    rintro e w4 ⟨rfl, hb⟩
    have X := hide (X.out.up hb)
    clear hb hck
    have d0 := X.out.cell 0 0 rfl rfl
    have d1 := X.out.cell 0 1 rfl rfl
    have d2 := X.out.cell 0 2 rfl rfl
    go_wp2_with fail
    go_at_call 6
    refine (toCracker_any _ l r ps w4 w.heap.size (HC.out _ X.out.below) X.out.below.size hs1 hs2 hs3).mono ?_
    rintro e w5 ⟨e1, k1, e2, k2, e3, k3, rfl, hck, hb⟩
    have X := hide (X.out.up hb)
    have C5 := hide hck
    clear hb d0 d1 d2 hck
    have Y := hide (X.out.alloc #[.slice e1 l.length k1, .slice e2 r.length k2, .slice e3 ps.length k3] 30)
    have CY := hide (C5.out.up (below1 w5 (.cells #[.slice e1 l.length k1, .slice e2 r.length k2, .slice e3 ps.length k3] 30)))
    go_wp2_with fail
    obtain ⟨g, hg⟩ : ∃ g, g = w5.heap.size := ⟨_, rfl⟩
    obtain ⟨w6, hw6⟩ : ∃ w6, w6 = w5.alloc (.cells #[.slice e1 l.length k1, .slice e2 r.length k2, .slice e3 ps.length k3] 30) := ⟨_, rfl⟩
    rw [← hw6] at Y CY ⊢
    rw [← hg] at Y
    try rw [← hg]
    clear hw6 hg X C5
    have X := Y
    clear Y
    go_at_call 7
    refine (HI.out _ _ (HT.out _ X.out.below) CY.out).mono ?_
    rintro e w7 ⟨rfl, hb⟩
    have X := hide (X.out.up hb)
    have CY := hide (CY.out.up hb)
    clear hb
    have d0 := X.out.cell 0 0 rfl rfl
    have d1 := X.out.cell 0 1 rfl rfl
    have d2 := X.out.cell 0 2 rfl rfl
    have g0 := X.out.cell 1 0 rfl rfl
    have g1 := X.out.cell 1 1 rfl rfl
    have g2 := X.out.cell 1 2 rfl rfl
    have z0 := X.out.lt 1 rfl
    go_wp2_with fail
    go_region_with (first
      | (go_at_call 6; refine (toCracker_any _ l r ps w7.drew w.heap.size (HC.out _ X.out.drew.below) X.out.drew.below.size hs1 hs2 hs3).mono ?_; rintro e w8 ⟨m1, n1, m2, n2, m3, n3, rfl, hck, hb8⟩; have X8 := hide (X.out.drew.up hb8); have C8 := hide (Ck.up (w := w7.drew) CY.out hb8); have g0 := X8.out.cell 1 0 rfl rfl; have g1 := X8.out.cell 1 1 rfl rfl; have g2 := X8.out.cell 1 2 rfl rfl)
      | (go_at_call 8; refine (eqCracker_same _ _ l r ps _ _ (Nat.le_refl _) C8.out hck).mono ?_; rintro e w9 ⟨rfl, hb9⟩))
    all_goals go_wp2_with fail
    all_goals go_ret
    all_goals exact ⟨rfl, (X8.out.up hb9).below⟩

theorem door_met (os : Os) (args : Array Value) : laidMetH Tryd.prog Rows.fnExactFormatCrackerRow.laid ((World.doorLaid Tryd.prog 24 os).forCall (fun _ _ => 0) ⟨#[], args, []⟩).memory :=
  laidMetH_of_parts3 (fuel := 8) (laidMet_of_run' 8 (by kernel_rfl) (by kernel_rfl)) (by kernel_rfl) (by kernel_rfl)

theorem of_laid {W : World} (h : laidMetH Tryd.prog Rows.fnExactFormatCrackerRow.laid W) : Tab W := by
  rw [MakeChecks.laidMetH_plain _ _ _ (by kernel_rfl)] at h
  obtain ⟨ps, ⟨g0, t0, cs0, f0, p0, q0, hg0, ht0, hv0, hd0, ⟨g1, t1, cs1, f1, p1, q1, hg1, ht1, hv1, hd1, ⟨g2, t2, cs2, f2, p2, q2, hg2, ht2, hv2, hd2, _, _⟩, _⟩, _⟩, _, _⟩ := h
  obtain rfl := Option.some.inj (tabG.symm.trans hg2)
  obtain rfl := Option.some.inj ((show (Tryd.prog.globals[1]?).map (·.type) = some 84 by kernel_rfl).symm.trans ht2)
  show Lib.TabIs _ _ _ _ _
  unfold Lib.TabIs
  rw [hv2, ← Lib.cells_of_tab (zs := Lib.pow10Tab) Tryd.underlying84 Tryd.underlying77 (by kernel_rfl) (by kernel_rfl) hd2]

set_option maxRecDepth 100000 in
theorem lifted (os : Os) (started : os.Started) (H : Type) (enc : TypeId × Value → H) :
    ReturnsInHanded {} Tryd.checked os 3 .any (fun w args => (Rows.fnExactFormatCrackerSpec.pre enc Tryd.prog Tryd.f3 [] false w args ∧ laidMetH Tryd.prog Rows.fnExactFormatCrackerRow.laid w) ∧ sizedMet enc Tryd.prog Tryd.f3 (OpenSpec.ofChange Rows.fnExactFormatCrackerSpec) false w args) (Rows.fnExactFormatCrackerSpec.post enc Tryd.prog Tryd.f3 false true false false) := by
  refine returnsInHanded_of_change_and (C := Tryd.checked) (X := fun w _ => laidMetH Tryd.prog Rows.fnExactFormatCrackerRow.laid w) (fun _ _ _ hh h => h.of_heap hh) own started (by kernel_rfl) Tryd.func3
    (ChangeSpec.witness_shaped (enc := enc) (C := Tryd.checked) (os := os) (X := fun w _ => laidMetH Tryd.prog Rows.fnExactFormatCrackerRow.laid w) false (World.doorLaid Tryd.prog 24 os) #[.agg #[.slice none 0 0, .slice none 0 0, .slice none 0 0]] 8 rfl (World.shaped_of_RefB (by kernel_rfl) (by kernel_rfl)) (by kernel_rfl) (by kernel_rfl) (by kernel_rfl) (door_met os _)) ?_
  intro W base args ds gs before hval0 hW _ _ hL _
  have hval : ∀ (j : Nat) t v, Tryd.f3.params[j]? = some t → args[j]? = some v → Value.okWide Tryd.prog W .any base t v := hval0
  have hW' := hW
  obtain ⟨p, q, hA0, hV, rfl, hfz, hnd⟩ := hW
  have hA : DataW.TrodAll enc Tryd.prog W 0 (fun _ => true) true Tryd.f3.params.toList args.toList ds p := hA0
  rw [Tryd.params3] at hA hval
  obtain ⟨v0, vs0, d0, ds0, p0, q0, hargs, rfl, rfl, h0, r0⟩ := trodAll_cons hA
  obtain ⟨rfl, rfl, rfl⟩ := trodAll_nil r0
  obtain rfl : args = #[v0] := by cases args; simp_all
  obtain ⟨rfl, rfl⟩ := trodVars_none hV
  have k0 := h0
  have lt0 : ∀ x ∈ p0, x.block < W.heap.size := by obtain ⟨m, hm⟩ := k0; exact DataW.trod_lt m _ _ _ hm
  have w0 := open_ck (hval 0 25 v0 rfl rfl) h0
  clear hA0 hval0
  refine (walk W v0 w0 (of_laid hL)).mono fun e W' ⟨he, bel⟩ => ?_
  subst he
  exact ⟨_, rfl, _, _, _, [], _, [], hW', trodAll_mk1 (shut_bool Tryd.underlying4 _), (trodAll_cons_mk (Below.trod laidOut (by kernel_rfl) (of_decide_eq_true (by kernel_rfl)) k0 bel lt0) trodAll_mk0), rfl, bel.frame _, fun h => by cases h⟩

theorem over : Rows.fnExactFormatCrackerRow.holds Tryd.pinned (OpenSpec.ofChange Rows.fnExactFormatCrackerSpec) :=
  OpenClaim.holds_of_wide 3 Tryd.f3 rfl rfl rfl rfl rfl rfl rfl ⟨rfl, rfl, rfl, rfl, rfl⟩ rfl rfl rfl rfl rfl (by kernel_rfl) Tryd.func3 (by kernel_rfl)
    (of_decide_eq_true (by kernel_rfl)) (by unfold Func.isWrapper; first | (rw [if_pos (by decide +kernel)]; kernel_rfl) | (rw [if_neg (by decide +kernel)]; exact ⟨rfl, rfl⟩))
    (fun os started H enc _ => lifted os started H enc)

/-- The statement: the card. -/
theorem proved : Rows.FnExactFormatCrackerCardSaid :=
  Claim7.holds_tied_plain_at .later [] [.data, .data, .data] true (true, "445351451e9975144e2eccd658a5b8532e74f0212fbd02cfac46be0495fce10f") false
    over (fun _ h => by cases h) (by kernel_rfl) (fun _ h => by cases h) fnExactFormatCracker_row_tie rfl ⟨rfl, rfl⟩ (by kernel_rfl) rfl
    (fun f fn hf hfn => by
      obtain rfl : f = 3 := Option.some.inj ((show Tryd.prog.funcNamed Rows.fnExactFormatCrackerRow.func = some 3 by kernel_rfl).symm.trans hf) |>.symm
      obtain rfl : fn = Tryd.f3 := (Option.some.inj (Tryd.func3.symm.trans hfn)).symm
      exact ⟨by kernel_rfl, fun j t ht => by
        rw [Tryd.params3] at ht
        have hm : t ∈ [25] := by simpa using Array.mem_of_getElem? ht
        have hall : ([25].all fun u => !Tryd.prog.wantsStandIn u) = true := by kernel_rfl
        exact (show Tryd.prog.wantsStandIn t = false by simpa using List.all_eq_true.1 hall t hm)⟩)
    (by kernel_rfl)
#print axioms proved
end Go.Proofs.YtknmoinmfladbaaDoor.fnExactFormatCracker
