/- The law FnExactIsItem holds: whatever the arguments, the call returns true, and they read afterwards as before. -/
import Derived.Test.YtlpnapmjflkheaaRows
import Derived.WalkKit
import Derived.ProofKit
import Derived.OpenShut
import Derived.ShutString
import Derived.ChangeOld
import Derived.Below
import Derived.Test.YtlpnapmjflkheaaBx
import Derived.Test.YtlpnapmjflkheaaIt
namespace Go.Proofs.Ytlpnapmjflkheaa.fnExactIsItem
open Go.ChangeShapes Go.WideShapes Go.ChangeAt Go.RowKit
open Go.ChangeMaps (open_string shut_string)
set_option linter.unusedVariables false
set_option linter.unusedSimpArgs false

theorem own : ownKnob Try.prog.godebug = none := by kernel_rfl
theorem laidOut : laidOutB Try.prog = true := by kernel_rfl

set_option maxRecDepth 100000 in
set_option maxHeartbeats 1000000 in
theorem walk (w : World) (v0 : Value) (w0 : ∃ f t : Int, v0 = .agg #[.int .i64 f, .int .i64 t] ∧ I64 f ∧ I64 t) :
    Calls Try.prog 5 #[v0] w fun e w' => e = .returned (.bool true) ∧ Below w.heap.size w w' := by
  obtain ⟨f, t, rfl, -, -⟩ := w0
  have X1 := hide (Bx.one w #[.int .i64 f, .int .i64 t] 55)
  obtain ⟨w1, hw1⟩ : ∃ w1, w1 = w.alloc (.cells #[.int .i64 f, .int .i64 t] 55) := ⟨_, rfl⟩
  obtain ⟨r, hr⟩ : ∃ r, r = isIt f t := ⟨_, rfl⟩
  have HS := hide (fun W => sIsIt_any f t W)
  have HI := hide (fun W => iIsIt_any f t W)
  have hrr : (r != r) = false := by simp
  rw [← hr] at HS HI
  clear hr
  rw [← hw1] at X1
  have c0 : w1.cell? ⟨w.heap.size, 0, none⟩ = _ := X1.out.cell 0 0 rfl rfl
  have c1 : w1.cell? ⟨w.heap.size, 1, none⟩ = _ := X1.out.cell 0 1 rfl rfl
  go_enter Try.func5, Try.ntmps5
  go_wp2_with fail
  rw [← hw1]
  clear hw1
  go_wp2_with fail
  refine (toItem_any _ _ _).mono ?_
  rintro e w2 ⟨rfl, hb⟩
  have X2 := hide (X1.out.up hb)
  clear hb c0 c1
  go_wp2_with fail
  refine (HS.out _).mono ?_
  rintro e w3 ⟨rfl, hb⟩
  have X3 := hide (X2.out.up hb)
  have c0 : w3.cell? ⟨w.heap.size, 0, none⟩ = _ := X3.out.cell 0 0 rfl rfl
  have c1 : w3.cell? ⟨w.heap.size, 1, none⟩ = _ := X3.out.cell 0 1 rfl rfl
  clear hb
  go_wp2_with fail
  refine (toItem_any _ _ _).mono ?_
  rintro e w4 ⟨rfl, hb⟩
  have X4 := hide (X3.out.up hb)
  clear hb c0 c1
  go_wp2_with fail
  refine (HI.out _).mono ?_
  rintro e w5 ⟨rfl, hb⟩
  have X5 := hide (X4.out.up hb)
  clear hb
  go_wp2_with fail
  go_ret
  exact ⟨rfl, X5.out.below⟩

set_option maxRecDepth 100000 in
theorem lifted (os : Os) (started : os.Started) (H : Type) (enc : TypeId × Value → H) :
    ReturnsInHanded {} Try.checked os 5 .any (Rows.fnExactIsItemSpec.pre6 enc Try.prog Try.f5 Rows.fnExactIsItemRow.domain false) (Rows.fnExactIsItemSpec.post enc Try.prog Try.f5 false true false false) := by
  refine returnsInHanded_of_change (C := Try.checked) own started (by kernel_rfl) Try.func5
    (ChangeSpec.witness6 (enc := enc) (C := Try.checked) false ⟨#[], #[.agg #[.int .i64 0, .int .i64 0]], []⟩ 8 (by kernel_rfl) (by kernel_rfl) (by kernel_rfl) (by kernel_rfl)) ?_
  intro W base args ds gs before hval0 hW hcnd _
  have hval : ∀ (j : Nat) t v, Try.f5.params[j]? = some t → args[j]? = some v → Value.okWide Try.prog W .any base t v := hval0
  have hW' := hW
  obtain ⟨p, q, hA0, hV, rfl, hfz, hnd⟩ := hW
  have hA : DataW.TrodAll enc Try.prog W 0 (fun _ => true) true Try.f5.params.toList args.toList ds p := hA0
  rw [Try.params5] at hA hval
  obtain ⟨v0, vs0, d0, ds0, p0, q0, hargs, rfl, rfl, h0, r0⟩ := trodAll_cons hA
  obtain ⟨rfl, rfl, rfl⟩ := trodAll_nil r0
  obtain rfl : args = #[v0] := by cases args; simp_all
  obtain ⟨rfl, rfl⟩ := trodVars_none hV
  have k0 := h0
  have lt0 : ∀ x ∈ p0, x.block < W.heap.size := by obtain ⟨m, hm⟩ := k0; exact DataW.trod_lt m _ _ _ hm
  have w0 := open_it (hval 0 55 v0 rfl rfl) h0
  clear hA0 hval0
  refine (walk W v0 w0).mono fun e W' ⟨he, bel⟩ => ?_
  subst he
  exact ⟨_, rfl, _, _, _, [], _, [], hW', trodAll_mk1 (shut_bool Try.underlying4 _), (trodAll_cons_mk (Below.trod laidOut (by kernel_rfl) (of_decide_eq_true (by kernel_rfl)) k0 bel lt0) trodAll_mk0), rfl, bel.frame _, fun h => by cases h⟩

theorem over : Rows.fnExactIsItemRow.holds Try.pinned (OpenSpec.ofChange Rows.fnExactIsItemSpec) :=
  OpenClaim.holds_of_wide 5 Try.f5 rfl rfl rfl rfl rfl rfl rfl ⟨rfl, rfl, rfl, rfl, rfl⟩ rfl rfl rfl rfl rfl (by kernel_rfl) Try.func5 (by kernel_rfl)
    (of_decide_eq_true (by kernel_rfl)) (by unfold Func.isWrapper; first | (rw [if_pos (by decide +kernel)]; kernel_rfl) | (rw [if_neg (by decide +kernel)]; exact ⟨rfl, rfl⟩))
    (fun os started H enc _ => lifted os started H enc)

/-- The statement. -/
theorem proved : Rows.FnExactIsItemSaid := over
#print axioms proved
end Go.Proofs.Ytlpnapmjflkheaa.fnExactIsItem
