/- The law FnExactFindRow holds: whatever the arguments, the call returns true, and they read afterwards as before. -/
import Derived.Test.YtlpnapmjflkheaaRows
import Derived.WalkKit
import Derived.ProofKit
import Derived.OpenShut
import Derived.ShutString
import Derived.ChangeOld
import Derived.Below
import Derived.Test.YtlpnapmjflkheaaFr
namespace Go.Proofs.Ytlpnapmjflkheaa.fnExactFindRow
open Go.ChangeShapes Go.WideShapes Go.ChangeAt Go.RowKit
open Go.ChangeMaps (open_string shut_string)
set_option linter.unusedVariables false
set_option linter.unusedSimpArgs false

theorem own : ownKnob Try.prog.godebug = none := by kernel_rfl
theorem laidOut : laidOutB Try.prog = true := by kernel_rfl

set_option maxRecDepth 100000 in
set_option maxHeartbeats 4000000 in
theorem walk (w : World) (v0 : Value) (w0 : ∃ l r ps, Ck w w.heap.size v0 l r ps) (a1 : Int) (w1' : (Lit.int .i64 a1).wf = true) :
    Calls Try.prog 8 #[v0, .int .i64 a1] w fun e w' => e = .returned (.bool true) ∧ Below w.heap.size w w' := by
  obtain ⟨l, r, ps, hc⟩ := w0
  obtain ⟨b1, c1, b2, c2, b3, c3, rfl, -, -, -⟩ := hc.form
  have HC := hide (fun (W : World) (h : Below w.heap.size w W) => hc.below h (Nat.le_refl _))
  clear hc
  have X := hide (Kn.one w #[.slice b1 l.length c1, .slice b2 r.length c2, .slice b3 ps.length c3] 61)
  obtain ⟨w1, hw1⟩ : ∃ w1, w1 = w.alloc (.cells #[.slice b1 l.length c1, .slice b2 r.length c2, .slice b3 ps.length c3] 61) := ⟨_, rfl⟩
  rw [← hw1] at X
  have d0 := X.out.cell 0 0 rfl rfl
  have d1 := X.out.cell 0 1 rfl rfl
  have d2 := X.out.cell 0 2 rfl rfl
  obtain ⟨z, hz⟩ : ∃ z, z = szC (l.length + r.length + ps.length) 1048576 := ⟨_, rfl⟩
  have HZ := hide hz
  unfold szC at hz
  by_cases hz0 : z < 0
  · clear hz
    go_enter Try.func8, Try.ntmps8
    go_wp2_with fail
    rw [← hw1]
    clear hw1
    go_at_call 37
    refine (szCracker_any _ l r ps _ w1 w.heap.size (HC.out _ X.out.below) X.out.below.size (by omega) (by omega)).mono ?_
    rintro e w2 ⟨rfl, hb⟩
    rw [← HZ.out]
    have X := hide (X.out.up hb)
    clear hb d0 d1 d2
    go_wp2_with fail
    go_ret
    exact ⟨rfl, X.out.below⟩
  · have hs : l.length ≤ 1048576 ∧ r.length ≤ 1048576 ∧ ps.length ≤ 1048576 := by split at hz <;> omega
    obtain ⟨hs1, hs2, hs3⟩ := hs
    clear hz
    obtain ⟨q, hq⟩ : ∃ q : Int, q = rowAt r a1 := ⟨_, rfl⟩
    have HS := hide (fun (W : World) (v : Value) (h : Ck W W.heap.size v l r ps) => sFindRow_any v l r ps a1 W _ h (Nat.le_refl _))
    have HI := hide (fun (W : World) (v : Value) (h : Ck W W.heap.size v l r ps) => iFindRow_any v l r ps a1 W _ h (Nat.le_refl _))
    rw [← hq] at HS HI
    clear hq
    skip
    have t1 : (q != q) = false := by simp
    go_enter Try.func8, Try.ntmps8
    go_wp2_with fail
    rw [← hw1]
    clear hw1
    go_at_call 37
    refine (szCracker_any _ l r ps _ w1 w.heap.size (HC.out _ X.out.below) X.out.below.size (by omega) (by omega)).mono ?_
    rintro e w2 ⟨rfl, hb⟩
    rw [← HZ.out]
    have X := hide (X.out.up hb)
    clear hb d0 d1 d2
    have d0 := X.out.cell 0 0 rfl rfl
    have d1 := X.out.cell 0 1 rfl rfl
    have d2 := X.out.cell 0 2 rfl rfl
    go_wp2_with fail
    go_at_call 38
    refine (toCracker_any _ l r ps w2 w.heap.size (HC.out _ X.out.below) X.out.below.size hs1 hs2 hs3).mono ?_
    rintro e w3 ⟨e1, k1, e2, k2, e3, k3, rfl, hck, hb⟩
    have X := hide (X.out.up hb)
    clear hb d0 d1 d2
    go_wp2_with fail
    go_at_call 39
    refine (HS.out _ _ hck).mono ?_
    rintro e w4 ⟨rfl, hb⟩
    have X := hide (X.out.up hb)
    clear hb hck
    have d0 := X.out.cell 0 0 rfl rfl
    have d1 := X.out.cell 0 1 rfl rfl
    have d2 := X.out.cell 0 2 rfl rfl
    go_wp2_with fail
    go_at_call 38
    refine (toCracker_any _ l r ps w4 w.heap.size (HC.out _ X.out.below) X.out.below.size hs1 hs2 hs3).mono ?_
    rintro e w5 ⟨e1, k1, e2, k2, e3, k3, rfl, hck, hb⟩
    have X := hide (X.out.up hb)
    have C5 := hide hck
    clear hb d0 d1 d2 hck
    have Y := hide (X.out.alloc #[.slice e1 l.length k1, .slice e2 r.length k2, .slice e3 ps.length k3] 27)
    have CY := hide (C5.out.up (below1 w5 (.cells #[.slice e1 l.length k1, .slice e2 r.length k2, .slice e3 ps.length k3] 27)))
    go_wp2_with fail
    obtain ⟨g, hg⟩ : ∃ g, g = w5.heap.size := ⟨_, rfl⟩
    obtain ⟨w6, hw6⟩ : ∃ w6, w6 = w5.alloc (.cells #[.slice e1 l.length k1, .slice e2 r.length k2, .slice e3 ps.length k3] 27) := ⟨_, rfl⟩
    rw [← hw6] at Y CY ⊢
    rw [← hg] at Y
    try rw [← hg]
    clear hw6 hg X C5
    have X := Y
    clear Y
    go_at_call 21
    refine (HI.out _ _ CY.out).mono ?_
    rintro e w7 ⟨rfl, hb⟩
    have X := hide (X.out.up hb)
    have CY := hide (CY.out.up hb)
    clear hb
    have d0 := X.out.cell 0 0 rfl rfl
    have d1 := X.out.cell 0 1 rfl rfl
    have d2 := X.out.cell 0 2 rfl rfl
    have g0 := X.out.cell 1 0 rfl rfl
    have g1 := X.out.cell 1 1 rfl rfl
    have g2 := X.out.cell 1 2 rfl rfl
    have z0 := X.out.lt 1 rfl
    go_wp2_with fail
    go_region_with (first
      | (go_at_call 38; refine (toCracker_any _ l r ps w7.drew w.heap.size (HC.out _ X.out.drew.below) X.out.drew.below.size hs1 hs2 hs3).mono ?_; rintro e w8 ⟨m1, n1, m2, n2, m3, n3, rfl, hck, hb8⟩; have X8 := hide (X.out.drew.up hb8); have C8 := hide (Ck.up (w := w7.drew) CY.out hb8); have g0 := X8.out.cell 1 0 rfl rfl; have g1 := X8.out.cell 1 1 rfl rfl; have g2 := X8.out.cell 1 2 rfl rfl)
      | (go_at_call 27; refine (eqCracker_same _ _ l r ps _ _ (Nat.le_refl _) C8.out hck).mono ?_; rintro e w9 ⟨rfl, hb9⟩))
    all_goals go_wp2_with fail
    all_goals go_ret
    all_goals exact ⟨rfl, (X8.out.up hb9).below⟩

set_option maxRecDepth 100000 in
theorem lifted (os : Os) (started : os.Started) (H : Type) (enc : TypeId × Value → H) :
    ReturnsInHanded {} Try.checked os 8 .any (Rows.fnExactFindRowSpec.pre6 enc Try.prog Try.f8 Rows.fnExactFindRowRow.domain false) (Rows.fnExactFindRowSpec.post enc Try.prog Try.f8 false true false false) := by
  refine returnsInHanded_of_change (C := Try.checked) own started (by kernel_rfl) Try.func8
    (ChangeSpec.witness6 (enc := enc) (C := Try.checked) false ⟨#[], #[.agg #[.slice none 0 0, .slice none 0 0, .slice none 0 0], .int .i64 0], []⟩ 8 (by kernel_rfl) (by kernel_rfl) (by kernel_rfl) (by kernel_rfl)) ?_
  intro W base args ds gs before hval0 hW hcnd _
  have hval : ∀ (j : Nat) t v, Try.f8.params[j]? = some t → args[j]? = some v → Value.okWide Try.prog W .any base t v := hval0
  have hW' := hW
  obtain ⟨p, q, hA0, hV, rfl, hfz, hnd⟩ := hW
  have hA : DataW.TrodAll enc Try.prog W 0 (fun _ => true) true Try.f8.params.toList args.toList ds p := hA0
  rw [Try.params8] at hA hval
  obtain ⟨v0, vs0, d0, ds0, p0, q0, hargs, rfl, rfl, h0, r0⟩ := trodAll_cons hA
  obtain ⟨v1, vs1, d1, ds1, p1, q1, rfl, rfl, rfl, h1, r1⟩ := trodAll_cons r0
  obtain ⟨rfl, rfl, rfl⟩ := trodAll_nil r1
  obtain rfl : args = #[v0, v1] := by cases args; simp_all
  obtain ⟨rfl, rfl⟩ := trodVars_none hV
  have k0 := h0
  have lt0 : ∀ x ∈ p0, x.block < W.heap.size := by obtain ⟨m, hm⟩ := k0; exact DataW.trod_lt m _ _ _ hm
  have k1 := h1
  have lt1 : ∀ x ∈ p1, x.block < W.heap.size := by obtain ⟨m, hm⟩ := k1; exact DataW.trod_lt m _ _ _ hm
  have w0 := open_ck (hval 0 61 v0 rfl rfl) h0
  obtain ⟨a1, rfl, e1, f1, w1⟩ := open_int Try.underlying3 (hval 1 3 v1 rfl rfl) h1
  clear hA0 hval0
  refine (walk W v0 w0 a1 w1).mono fun e W' ⟨he, bel⟩ => ?_
  subst he
  exact ⟨_, rfl, _, _, _, [], _, [], hW', trodAll_mk1 (shut_bool Try.underlying4 _), (trodAll_cons_mk (Below.trod laidOut (by kernel_rfl) (of_decide_eq_true (by kernel_rfl)) k0 bel lt0) (trodAll_cons_mk (Below.trod laidOut (by kernel_rfl) (of_decide_eq_true (by kernel_rfl)) k1 bel lt1) trodAll_mk0)), rfl, bel.frame _, fun h => by cases h⟩

theorem over : Rows.fnExactFindRowRow.holds Try.pinned (OpenSpec.ofChange Rows.fnExactFindRowSpec) :=
  OpenClaim.holds_of_wide 8 Try.f8 rfl rfl rfl rfl rfl rfl rfl ⟨rfl, rfl, rfl, rfl, rfl⟩ rfl rfl rfl rfl rfl (by kernel_rfl) Try.func8 (by kernel_rfl)
    (of_decide_eq_true (by kernel_rfl)) (by unfold Func.isWrapper; first | (rw [if_pos (by decide +kernel)]; kernel_rfl) | (rw [if_neg (by decide +kernel)]; exact ⟨rfl, rfl⟩))
    (fun os started H enc _ => lifted os started H enc)

/-- The statement. -/
theorem proved : Rows.FnExactFindRowSaid := over
#print axioms proved
end Go.Proofs.Ytlpnapmjflkheaa.fnExactFindRow
