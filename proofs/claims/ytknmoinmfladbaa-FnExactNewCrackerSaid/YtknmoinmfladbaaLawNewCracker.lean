/- The law FnExactNewCracker holds: whatever the arguments, the call returns true, and they read afterwards as before. -/
import Derived.Test.YtknmoinmfladbaaRows
import Derived.WalkKit
import Derived.ProofKit
import Derived.OpenShut
import Derived.ShutString
import Derived.ChangeOld
import Derived.Below
import Derived.Test.YtknmoinmfladbaaCkN
namespace Go.Proofs.Ytknmoinmfladbaa.fnExactNewCracker
open Go.ChangeShapes Go.WideShapes Go.ChangeAt Go.RowKit
open Go.ChangeMaps (open_string shut_string)
set_option linter.unusedVariables false
set_option linter.unusedSimpArgs false

theorem own : ownKnob Try.prog.godebug = none := by kernel_rfl
theorem laidOut : laidOutB Try.prog = true := by kernel_rfl

theorem newL_facts {l : List Int} (hl : l.length ≤ 1048576) (hw : ∀ x ∈ l, I64 x) : (newL l).length ≤ 1048576 ∧ (newR l).length ≤ 1048576 ∧ (∀ x ∈ newL l, I64 x) ∧ ∀ x ∈ newR l, I64 x := by
  unfold newL newR
  split
  · exact ⟨hl, by rw [rowsN_length]; exact hl, hw, rowsN_wf _ hl⟩
  · exact ⟨by simp, by simp, by simp, by simp⟩

set_option maxRecDepth 100000 in
set_option maxHeartbeats 4000000 in
theorem walk (w : World) (v0 : Value) (w0 : ∃ l, Ints w w.heap.size v0 l) :
    Calls Try.prog 3 #[v0] w fun e w' => e = .returned (.bool true) ∧ Below w.heap.size w w' := by
  obtain ⟨l, hl⟩ := w0
  have hl0 := hl
  obtain ⟨a, cap, rfl, hlen, hwf, -⟩ := hl0
  have HL := hide hl
  have HW := hide hwf
  clear hl
  by_cases hbig : l.length ≤ 1048576
  · have hnf := newL_facts hbig hwf
    have HS := hide (fun (W : World) (v : Value) (F : List Nat) (h : OI W 3 v l F) => sNew_any v l F W h hwf)
    have HI := hide (fun (W : World) (v : Value) (F : List Nat) (h : OI W 3 v l F) => iNew_any v l F W h hwf)
    have T := hide (fun (W : World) (h : Below w.heap.size w W) => toIntS_own _ l W w.heap.size (HL.out.below h (Nat.le_refl _)) h.size hbig)
    obtain ⟨nv, hnv⟩ : ∃ nv, nv = newL l := ⟨_, rfl⟩
    obtain ⟨nr, hnr⟩ : ∃ nr, nr = newR l := ⟨_, rfl⟩
    rw [← hnv, ← hnr] at HS HI hnf
    obtain ⟨s1, s2, hw1, hw2⟩ := hnf
    have HW1 := hide hw1
    have HW2 := hide hw2
    have CK := hide (fun (W : World) (x y z : Value) (lo hi n1 h1 n2 h2 n3 h3 : Nat) (h : OC W x y z nv nr [] lo hi n1 h1 n2 h2 n3 h3) => h.ck hw1 hw2 (by simp) (by simp))
    obtain ⟨M, hM⟩ : ∃ M : Int, M = 1 + (nv.length : Int) + (nr.length : Int) + 2 * ((0 : Nat) : Int) := ⟨_, rfl⟩
    have HMk := hide (fun (W : World) (x y z : Value) (lo hi n1 h1 n2 h2 n3 h3 : Nat) (h : OC W x y z nv nr [] lo hi n1 h1 n2 h2 n3 h3) => show Calls Try.prog 16 #[.agg #[x, y, z], .int .i64 1] W (RetMC W x y z lo hi n1 h1 n2 h2 n3 h3 M (mkI 1 nv.length) (mkI (1 + nv.length) nr.length) (mkP (1 + nv.length + nr.length) 0)) by rw [hM]; exact markCracker_oc x y z nv nr [] lo hi n1 h1 n2 h2 n3 h3 1 W h (by omega) (by simp; omega))
    have HHd := hide (fun (W : World) (x y z : Value) (lo hi n1 h1 n2 h2 n3 h3 : Nat) (h : OC W x y z (mkI 1 nv.length) (mkI (1 + nv.length) nr.length) (mkP (1 + nv.length + nr.length) 0) lo hi n1 h1 n2 h2 n3 h3) => show Calls Try.prog 17 #[.agg #[x, y, z], .int .i64 1] W (RetI1 W M) by rw [hM]; exact heldCracker_oc x y z nv.length nr.length 0 lo hi n1 h1 n2 h2 n3 h3 1 W h (by omega) (by omega))
    have hM0 : decide (M < 0) = false := by simp; omega
    have hM1 : (M != M) = false := by simp
    have hK0 : decide ((1 : Int) + (l.length : Int) < 0) = false := by simp; omega
    clear hM
    clear hnv hnr hwf hw1 hw2
    go_enter Try.func3, Try.ntmps3
    go_wp2_with fail
    go_at_call 11
    refine (T.out _ (Below.refl _ _)).mono ?_
    rintro e w1 ⟨v1, rfl, O1, hb⟩
    have X := hide ((Kn.start w).up hb)
    clear hb
    go_wp2_with fail
    go_at_call 10
    refine (HS.out _ _ _ (OI.of O1).1).mono ?_
    rintro e w2 ⟨x, y, z, la, ha, pa1, qa1, pa2, qa2, pa3, qa3, rfl, hla, hha, CA, hb⟩
    obtain ⟨ga1, ka1, rfl⟩ := CA.x.form
    obtain ⟨ga2, ka2, rfl⟩ := CA.y.form
    obtain ⟨ga3, ka3, rfl⟩ := CA.z.own.form
    have N0 := hide (Nat.le_trans X.out.below.size hla)
    have N1 := hide hha
    have X := hide (X.out.up hb)
    clear hb O1
    have X := hide (X.out.alloc #[.slice ga1 nv.length ka1, .slice ga2 nr.length ka2, .slice ga3 0 ka3] 25)
    have CA := hide (CA.below (below1 w2 (.cells #[.slice ga1 nv.length ka1, .slice ga2 nr.length ka2, .slice ga3 0 ka3] 25)))
    go_wp2_with fail
    obtain ⟨w3, hw3⟩ : ∃ w3, w3 = w2.alloc (.cells #[.slice ga1 nv.length ka1, .slice ga2 nr.length ka2, .slice ga3 0 ka3] 25) := ⟨_, rfl⟩
    obtain ⟨b0, hb0⟩ : ∃ b0, b0 = w2.heap.size := ⟨_, rfl⟩
    have N2 := hide (show b0 < w3.heap.size by rw [hw3, hb0]; simp)
    rw [← hw3] at X CA ⊢
    rw [← hb0] at X N1
    try rw [← hb0]
    clear hw3 hb0
    simp only [List.nil_append] at X
    go_at_call 11
    refine (T.out _ X.out.below).mono ?_
    rintro e w4 ⟨v4, rfl, O4, hb⟩
    have OX := hide (Ow.of O4 hb.size)
    have N3 := hide hb.size
    have X := hide (X.out.up hb)
    have CA := hide (CA.out.below hb)
    clear hb
    go_wp2_with fail
    go_at_call 12
    refine (HI.out _ _ _ (OI.of O4).1).mono ?_
    rintro e w5 ⟨x, y, z, lg, hg, pg1, qg1, pg2, qg2, pg3, qg3, rfl, hlg, hhg, CG, hb⟩
    obtain ⟨gg1, kg1, rfl⟩ := CG.x.form
    obtain ⟨gg2, kg2, rfl⟩ := CG.y.form
    obtain ⟨gg3, kg3, rfl⟩ := CG.z.own.form
    have N4 := hide hlg
    have N5 := hide hhg
    have X := hide (X.out.up hb)
    have CA := hide (CA.out.below hb)
    have OX := hide (OX.out.below hb)
    clear hb O4
    have hbl := below1 w5 (.cells #[.slice gg1 nv.length kg1, .slice gg2 nr.length kg2, .slice gg3 0 kg3] 25)
    have X := hide (X.out.alloc #[.slice gg1 nv.length kg1, .slice gg2 nr.length kg2, .slice gg3 0 kg3] 25)
    have CG := hide (CG.below hbl)
    have CA := hide (CA.out.below hbl)
    have OX := hide (OX.out.below hbl)
    clear hbl
    obtain ⟨w6, hw6⟩ : ∃ w6, w6 = w5.alloc (.cells #[.slice gg1 nv.length kg1, .slice gg2 nr.length kg2, .slice gg3 0 kg3] 25) := ⟨_, rfl⟩
    obtain ⟨b1, hb1⟩ : ∃ b1, b1 = w5.heap.size := ⟨_, rfl⟩
    have N6 := hide (show b1 < w6.heap.size by rw [hw6, hb1]; simp)
    rw [← hw6] at X CA CG OX
    rw [← hb1] at X N5
    simp only [List.cons_append, List.nil_append] at X
    have d0 : w6.cell? ⟨b0, 0, none⟩ = some (.slice ga1 nv.length ka1) := X.out.cell 0 0 rfl rfl
    have d1 : w6.cell? ⟨b0, 1, none⟩ = some (.slice ga2 nr.length ka2) := X.out.cell 0 1 rfl rfl
    have d2 : w6.cell? ⟨b0, 2, none⟩ = some (.slice ga3 0 ka3) := X.out.cell 0 2 rfl rfl
    rw [hw6] at d0 d1 d2
    go_wp2_with fail
    rw [← hw6]
    try rw [← hb1]
    clear hw6 hb1 d0 d1 d2
    go_at_call 13
    refine (eqCracker_same _ _ nv nr [] _ _ (Nat.le_refl _) (CK.out _ _ _ _ _ _ _ _ _ _ _ _ CG.out) (CK.out _ _ _ _ _ _ _ _ _ _ _ _ CA.out)).mono ?_
    rintro e w7 ⟨rfl, hb⟩
    have X := hide (X.out.up hb)
    have CA := hide (CA.out.below hb)
    have CG := hide (CG.out.below hb)
    have OX := hide (OX.out.below hb)
    clear hb
    go_wp2_with fail
    go_at_call 11
    refine (T.out _ X.out.below).mono ?_
    rintro e w8 ⟨v8, rfl, O8, hb⟩
    have X := hide (X.out.up hb)
    have CA := hide (CA.out.below hb)
    have CG := hide (CG.out.below hb)
    have OX := hide (OX.out.below hb)
    clear hb
    go_wp2_with fail
    go_at_call 14
    refine (eqIntS_alike _ _ l _ _ (OX.out.ints HW.out) (O8.ints (Nat.le_refl _) hlen HW.out)).mono ?_
    rintro e w9 ⟨rfl, hb⟩
    have X := hide (X.out.up hb)
    have CA := hide (CA.out.below hb)
    have CG := hide (CG.out.below hb)
    have OX := hide (OX.out.below hb)
    clear hb O8
    go_wp2_with fail
    go_at_call 15
    refine (markIntS_ow _ l _ _ 1 _ OX.out (by omega) (by omega)).mono ?_
    rintro e w10 ⟨rfl, -, s⟩
    have q0 := N0.out
    have q1 := N1.out
    have q2 := N2.out
    have q3 := N3.out
    have q4 := N4.out
    have q5 := N5.out
    have q6 := CA.out.top.1
    have q7 := CG.out.top.1
    have X := hide (X.out.seg s (by omega) (by simp; omega))
    have CA := hide (CA.out.seg s (.inl (by omega)))
    have CG := hide (CG.out.seg s (.inr (by omega)))
    clear s OX q0 q1 q2 q3 q4 q5 q6 q7
    have d0 : w10.cell? ⟨b0, 0, none⟩ = some (.slice ga1 nv.length ka1) := X.out.cell 0 0 rfl rfl
    have d1 : w10.cell? ⟨b0, 1, none⟩ = some (.slice ga2 nr.length ka2) := X.out.cell 0 1 rfl rfl
    have d2 : w10.cell? ⟨b0, 2, none⟩ = some (.slice ga3 0 ka3) := X.out.cell 0 2 rfl rfl
    have d3 : w10.cell? ⟨b1, 0, none⟩ = some (.slice gg1 nv.length kg1) := X.out.cell 1 0 rfl rfl
    have d4 : w10.cell? ⟨b1, 1, none⟩ = some (.slice gg2 nr.length kg2) := X.out.cell 1 1 rfl rfl
    have d5 : w10.cell? ⟨b1, 2, none⟩ = some (.slice gg3 0 kg3) := X.out.cell 1 2 rfl rfl
    go_wp2_with fail
    go_at_call 13
    refine (eqCracker_same _ _ nv nr [] _ _ (Nat.le_refl _) (CK.out _ _ _ _ _ _ _ _ _ _ _ _ CG.out) (CK.out _ _ _ _ _ _ _ _ _ _ _ _ CA.out)).mono ?_
    rintro e w11 ⟨rfl, hb⟩
    have X := hide (X.out.up hb)
    have CA := hide (CA.out.below hb)
    have CG := hide (CG.out.below hb)
    clear hb d0 d1 d2 d3 d4 d5
    have d3 : w11.cell? ⟨b1, 0, none⟩ = some (.slice gg1 nv.length kg1) := X.out.cell 1 0 rfl rfl
    have d4 : w11.cell? ⟨b1, 1, none⟩ = some (.slice gg2 nr.length kg2) := X.out.cell 1 1 rfl rfl
    have d5 : w11.cell? ⟨b1, 2, none⟩ = some (.slice gg3 0 kg3) := X.out.cell 1 2 rfl rfl
    go_wp2_with fail
    go_at_call 16
    refine (HMk.out _ _ _ _ _ _ _ _ _ _ _ _ CG.out).mono ?_
    rintro e w12 ⟨rfl, CG2, s⟩
    have q0 := N0.out
    have q1 := N1.out
    have q2 := N2.out
    have q3 := N3.out
    have q4 := N4.out
    have q5 := N5.out
    have q6 := CA.out.top.1
    have X := hide (X.out.seg s (by omega) (by simp; omega))
    have CA := hide (CA.out.seg s (.inl (by omega)))
    have CG := hide CG2
    clear s CG2 d3 d4 d5 q0 q1 q2 q3 q4 q5 q6
    have d3 : w12.cell? ⟨b1, 0, none⟩ = some (.slice gg1 nv.length kg1) := X.out.cell 1 0 rfl rfl
    have d4 : w12.cell? ⟨b1, 1, none⟩ = some (.slice gg2 nr.length kg2) := X.out.cell 1 1 rfl rfl
    have d5 : w12.cell? ⟨b1, 2, none⟩ = some (.slice gg3 0 kg3) := X.out.cell 1 2 rfl rfl
    go_wp2_with fail
    go_at_call 17
    refine (HHd.out _ _ _ _ _ _ _ _ _ _ _ _ CG.out).mono ?_
    rintro e w13 ⟨rfl, hb⟩
    have X := hide (X.out.up hb)
    have CA := hide (CA.out.below hb)
    have CG := hide (CG.out.below hb)
    clear hb d3 d4 d5
    go_wp2_with fail
    go_at_call 11
    refine (T.out _ X.out.below).mono ?_
    rintro e w14 ⟨v14, rfl, O14, hb⟩
    have X := hide (X.out.up hb)
    have CA := hide (CA.out.below hb)
    have CG := hide (CG.out.below hb)
    clear hb
    go_wp2_with fail
    go_at_call 12
    refine (HI.out _ _ _ (OI.of O14).1).mono ?_
    rintro e w15 ⟨x, y, z, lh, hh, ph1, qh1, ph2, qh2, ph3, qh3, rfl, hlh, hhh, CH, hb⟩
    obtain ⟨gh1, kh1, rfl⟩ := CH.x.form
    obtain ⟨gh2, kh2, rfl⟩ := CH.y.form
    obtain ⟨gh3, kh3, rfl⟩ := CH.z.own.form
    have X := hide (X.out.up hb)
    have CA := hide (CA.out.below hb)
    have CG := hide (CG.out.below hb)
    clear hb O14
    have hbl := below1 w15 (.cells #[.slice gh1 nv.length kh1, .slice gh2 nr.length kh2, .slice gh3 0 kh3] 25)
    have X := hide (X.out.alloc #[.slice gh1 nv.length kh1, .slice gh2 nr.length kh2, .slice gh3 0 kh3] 25)
    have CH := hide (CH.below hbl)
    have CG := hide (CG.out.below hbl)
    have CA := hide (CA.out.below hbl)
    clear hbl
    obtain ⟨w16, hw16⟩ : ∃ w16, w16 = w15.alloc (.cells #[.slice gh1 nv.length kh1, .slice gh2 nr.length kh2, .slice gh3 0 kh3] 25) := ⟨_, rfl⟩
    obtain ⟨b2, hb2⟩ : ∃ b2, b2 = w15.heap.size := ⟨_, rfl⟩
    rw [← hw16] at X CA CG CH
    rw [← hb2] at X
    simp only [List.cons_append, List.nil_append] at X
    have d0 : w16.cell? ⟨b0, 0, none⟩ = some (.slice ga1 nv.length ka1) := X.out.cell 0 0 rfl rfl
    have d1 : w16.cell? ⟨b0, 1, none⟩ = some (.slice ga2 nr.length ka2) := X.out.cell 0 1 rfl rfl
    have d2 : w16.cell? ⟨b0, 2, none⟩ = some (.slice ga3 0 ka3) := X.out.cell 0 2 rfl rfl
    rw [hw16] at d0 d1 d2
    go_wp2_with fail
    rw [← hw16]
    try rw [← hb2]
    clear hw16 hb2 d0 d1 d2
    go_at_call 13
    refine (eqCracker_same _ _ nv nr [] _ _ (Nat.le_refl _) (CK.out _ _ _ _ _ _ _ _ _ _ _ _ CH.out) (CK.out _ _ _ _ _ _ _ _ _ _ _ _ CA.out)).mono ?_
    rintro e w17 ⟨rfl, hb⟩
    have X := hide (X.out.up hb)
    have CG := hide (CG.out.below hb)
    clear hb
    have d3 : w17.cell? ⟨b1, 0, none⟩ = some (.slice gg1 nv.length kg1) := X.out.cell 1 0 rfl rfl
    have d4 : w17.cell? ⟨b1, 1, none⟩ = some (.slice gg2 nr.length kg2) := X.out.cell 1 1 rfl rfl
    have d5 : w17.cell? ⟨b1, 2, none⟩ = some (.slice gg3 0 kg3) := X.out.cell 1 2 rfl rfl
    go_wp2_with fail
    go_at_call 17
    refine (HHd.out _ _ _ _ _ _ _ _ _ _ _ _ CG.out).mono ?_
    rintro e w18 ⟨rfl, hb⟩
    have X := hide (X.out.up hb)
    go_wp2_with fail
    go_ret
    exact ⟨rfl, X.out.below⟩
  · go_enter Try.func3, Try.ntmps3
    go_wp2_with fail
    go_ret
    exact ⟨rfl, Below.refl _ _⟩

set_option maxRecDepth 100000 in
theorem lifted (os : Os) (started : os.Started) (H : Type) (enc : TypeId × Value → H) :
    ReturnsInHanded {} Try.checked os 3 .any (Rows.fnExactNewCrackerSpec.pre6 enc Try.prog Try.f3 Rows.fnExactNewCrackerRow.domain false) (Rows.fnExactNewCrackerSpec.post enc Try.prog Try.f3 false true false false) := by
  refine returnsInHanded_of_change (C := Try.checked) own started (by kernel_rfl) Try.func3
    (ChangeSpec.witness6 (enc := enc) (C := Try.checked) false ⟨#[], #[.slice none 0 0], []⟩ 8 (by kernel_rfl) (by kernel_rfl) (by kernel_rfl) (by kernel_rfl)) ?_
  intro W base args ds gs before hval0 hW hcnd _
  have hval : ∀ (j : Nat) t v, Try.f3.params[j]? = some t → args[j]? = some v → Value.okWide Try.prog W .any base t v := hval0
  have hW' := hW
  obtain ⟨p, q, hA0, hV, rfl, hfz, hnd⟩ := hW
  have hA : DataW.TrodAll enc Try.prog W 0 (fun _ => true) true Try.f3.params.toList args.toList ds p := hA0
  rw [Try.params3] at hA hval
  obtain ⟨v0, vs0, d0, ds0, p0, q0, hargs, rfl, rfl, h0, r0⟩ := trodAll_cons hA
  obtain ⟨rfl, rfl, rfl⟩ := trodAll_nil r0
  obtain rfl : args = #[v0] := by cases args; simp_all
  obtain ⟨rfl, rfl⟩ := trodVars_none hV
  have k0 := h0
  have lt0 : ∀ x ∈ p0, x.block < W.heap.size := by obtain ⟨m, hm⟩ := k0; exact DataW.trod_lt m _ _ _ hm
  have w0 := open_intS (hval 0 22 v0 rfl rfl) h0
  clear hA0 hval0
  refine (walk W v0 w0).mono fun e W' ⟨he, bel⟩ => ?_
  subst he
  exact ⟨_, rfl, _, _, _, [], _, [], hW', trodAll_mk1 (shut_bool Try.underlying4 _), (trodAll_cons_mk (Below.trod laidOut (by kernel_rfl) (of_decide_eq_true (by kernel_rfl)) k0 bel lt0) trodAll_mk0), rfl, bel.frame _, fun h => by cases h⟩

theorem over : Rows.fnExactNewCrackerRow.holds Try.pinned (OpenSpec.ofChange Rows.fnExactNewCrackerSpec) :=
  OpenClaim.holds_of_wide 3 Try.f3 rfl rfl rfl rfl rfl rfl rfl ⟨rfl, rfl, rfl, rfl, rfl⟩ rfl rfl rfl rfl rfl (by kernel_rfl) Try.func3 (by kernel_rfl)
    (of_decide_eq_true (by kernel_rfl)) (by unfold Func.isWrapper; first | (rw [if_pos (by decide +kernel)]; kernel_rfl) | (rw [if_neg (by decide +kernel)]; exact ⟨rfl, rfl⟩))
    (fun os started H enc _ => lifted os started H enc)

/-- The statement. -/
theorem proved : Rows.FnExactNewCrackerSaid := over
#print axioms proved
end Go.Proofs.Ytknmoinmfladbaa.fnExactNewCracker
