/- The law FnExactSwapBound holds: whatever the arguments, the call returns true, and they read afterwards as before. -/
import Derived.Test.YtfldnjkojdnjcaaRows
import Derived.WalkKit
import Derived.ProofKit
import Derived.OpenShut
import Derived.ShutString
import Derived.ChangeOld
import Derived.Below
import Derived.Test.YtfldnjkojdnjcaaLvI
namespace Go.Proofs.Ytfldnjkojdnjcaa.fnExactSwapBound
open Go.ChangeShapes Go.WideShapes Go.ChangeAt Go.RowKit
open Go.ChangeMaps (open_string shut_string)
set_option linter.unusedVariables false
set_option linter.unusedSimpArgs false

theorem own : ownKnob Try.prog.godebug = none := by kernel_rfl
theorem laidOut : laidOutB Try.prog = true := by kernel_rfl

set_option maxRecDepth 100000 in
set_option maxHeartbeats 2000000 in
theorem walk (w : World) (n : Int) (wn : (Lit.int .i64 n).wf = true) (v0 : Value) (w0 : ∃ f t s : Int, v0 = .agg #[.int .i64 f, .int .i64 t, .int .i64 s] ∧ I64 f ∧ I64 t ∧ I64 s) (q : Int) (wq : (Lit.int .i64 q).wf = true) :
    Calls Try.prog 6 #[.int .i64 n, v0, .int .i64 q] w fun e w' => e = .returned (.bool true) ∧ Below w.heap.size w w' := by
  obtain ⟨f, t, s, rfl, -, wt, -⟩ := w0
  have hn := bounds_i64 wn
  have X1 := hide (Kn.one w #[.int .i64 f, .int .i64 t, .int .i64 s] 47)
  obtain ⟨w1, hw1⟩ : ∃ w1, w1 = w.alloc (.cells #[.int .i64 f, .int .i64 t, .int .i64 s] 47) := ⟨_, rfl⟩
  have HS := hide (fun W => sSb_any n f t s q W ⟨by omega, by omega⟩ wt)
  have HI := hide (fun W => iSb_any n f t s q W ⟨by omega, by omega⟩ wt)
  obtain ⟨r, hr⟩ : ∃ r, r = sbF n f t s q := ⟨_, rfl⟩
  have hrr : (r != r) = false := by simp
  rw [← hr] at HS HI
  clear hr hn wt
  rw [← hw1] at X1
  have c0 : w1.cell? ⟨w.heap.size, 0, none⟩ = _ := X1.out.cell 0 0 rfl rfl
  have c1 : w1.cell? ⟨w.heap.size, 1, none⟩ = _ := X1.out.cell 0 1 rfl rfl
  have c2 : w1.cell? ⟨w.heap.size, 2, none⟩ = _ := X1.out.cell 0 2 rfl rfl
  rw [hw1] at c0 c1 c2
  go_enter Try.func6, Try.ntmps6
  go_wp2_with fail
  rw [← hw1]
  clear hw1
  go_at_call 28
  refine (toSettings_any _ _ _ _).mono ?_
  rintro e w2 ⟨rfl, hb⟩
  have X2 := hide (X1.out.up hb)
  clear hb c0 c1 c2
  go_wp2_with fail
  go_at_call 34
  refine (HS.out _).mono ?_
  rintro e w3 ⟨rfl, hb⟩
  have X3 := hide (X2.out.up hb)
  have c0 : w3.cell? ⟨w.heap.size, 0, none⟩ = _ := X3.out.cell 0 0 rfl rfl
  have c1 : w3.cell? ⟨w.heap.size, 1, none⟩ = _ := X3.out.cell 0 1 rfl rfl
  have c2 : w3.cell? ⟨w.heap.size, 2, none⟩ = _ := X3.out.cell 0 2 rfl rfl
  clear hb
  go_wp2_with fail
  go_at_call 28
  refine (toSettings_any _ _ _ _).mono ?_
  rintro e w4 ⟨rfl, hb⟩
  have X4 := hide (X3.out.up hb)
  clear hb c0 c1 c2
  go_wp2_with fail
  go_at_call 35
  refine (HI.out _).mono ?_
  rintro e w5 ⟨rfl, hb⟩
  have X5 := hide (X4.out.up hb)
  clear hb
  go_wp2_with fail
  go_ret
  exact ⟨rfl, X5.out.below⟩

set_option maxRecDepth 100000 in
theorem lifted (os : Os) (started : os.Started) (H : Type) (enc : TypeId × Value → H) :
    ReturnsInHanded {} Try.checked os 6 .any (Rows.fnExactSwapBoundSpec.pre6 enc Try.prog Try.f6 Rows.fnExactSwapBoundRow.domain false) (Rows.fnExactSwapBoundSpec.post enc Try.prog Try.f6 false true false false) := by
  refine returnsInHanded_of_change (C := Try.checked) own started (by kernel_rfl) Try.func6
    (ChangeSpec.witness6 (enc := enc) (C := Try.checked) false ⟨#[], #[.int .i64 0, .agg #[.int .i64 0, .int .i64 0, .int .i64 0], .int .i64 0], []⟩ 8 (by kernel_rfl) (by kernel_rfl) (by kernel_rfl) (by kernel_rfl)) ?_
  intro W base args ds gs before hval0 hW hcnd _
  have hval : ∀ (j : Nat) t v, Try.f6.params[j]? = some t → args[j]? = some v → Value.okWide Try.prog W .any base t v := hval0
  have hW' := hW
  obtain ⟨p, q, hA0, hV, rfl, hfz, hnd⟩ := hW
  have hA : DataW.TrodAll enc Try.prog W 0 (fun _ => true) true Try.f6.params.toList args.toList ds p := hA0
  rw [Try.params6] at hA hval
  obtain ⟨v0, vs0, d0, ds0, p0, q0, hargs, rfl, rfl, h0, r0⟩ := trodAll_cons hA
  obtain ⟨v1, vs1, d1, ds1, p1, q1, rfl, rfl, rfl, h1, r1⟩ := trodAll_cons r0
  obtain ⟨v2, vs2, d2, ds2, p2, q2, rfl, rfl, rfl, h2, r2⟩ := trodAll_cons r1
  obtain ⟨rfl, rfl, rfl⟩ := trodAll_nil r2
  obtain rfl : args = #[v0, v1, v2] := by cases args; simp_all
  obtain ⟨rfl, rfl⟩ := trodVars_none hV
  have k0 := h0
  have lt0 : ∀ x ∈ p0, x.block < W.heap.size := by obtain ⟨m, hm⟩ := k0; exact DataW.trod_lt m _ _ _ hm
  have k1 := h1
  have lt1 : ∀ x ∈ p1, x.block < W.heap.size := by obtain ⟨m, hm⟩ := k1; exact DataW.trod_lt m _ _ _ hm
  have k2 := h2
  have lt2 : ∀ x ∈ p2, x.block < W.heap.size := by obtain ⟨m, hm⟩ := k2; exact DataW.trod_lt m _ _ _ hm
  obtain ⟨a0, rfl, e0, f0, w0⟩ := open_int Try.underlying3 (hval 0 3 v0 rfl rfl) h0
  have w1 := open_st (hval 1 47 v1 rfl rfl) h1
  obtain ⟨a2, rfl, e2, f2, w2⟩ := open_int Try.underlying3 (hval 2 3 v2 rfl rfl) h2
  clear hA0 hval0
  refine (walk W a0 w0 v1 w1 a2 w2).mono fun e W' ⟨he, bel⟩ => ?_
  subst he
  exact ⟨_, rfl, _, _, _, [], _, [], hW', trodAll_mk1 (shut_bool Try.underlying4 _), (trodAll_cons_mk (Below.trod laidOut (by kernel_rfl) (of_decide_eq_true (by kernel_rfl)) k0 bel lt0) (trodAll_cons_mk (Below.trod laidOut (by kernel_rfl) (of_decide_eq_true (by kernel_rfl)) k1 bel lt1) (trodAll_cons_mk (Below.trod laidOut (by kernel_rfl) (of_decide_eq_true (by kernel_rfl)) k2 bel lt2) trodAll_mk0))), rfl, bel.frame _, fun h => by cases h⟩

theorem over : Rows.fnExactSwapBoundRow.holds Try.pinned (OpenSpec.ofChange Rows.fnExactSwapBoundSpec) :=
  OpenClaim.holds_of_wide 6 Try.f6 rfl rfl rfl rfl rfl rfl rfl ⟨rfl, rfl, rfl, rfl, rfl⟩ rfl rfl rfl rfl rfl (by kernel_rfl) Try.func6 (by kernel_rfl)
    (of_decide_eq_true (by kernel_rfl)) (by unfold Func.isWrapper; first | (rw [if_pos (by decide +kernel)]; kernel_rfl) | (rw [if_neg (by decide +kernel)]; exact ⟨rfl, rfl⟩))
    (fun os started H enc _ => lifted os started H enc)

/-- The statement. -/
theorem proved : Rows.FnExactSwapBoundSaid := over
#print axioms proved
end Go.Proofs.Ytfldnjkojdnjcaa.fnExactSwapBound
