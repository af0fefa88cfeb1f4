/- The law FnExactMeetRanges holds: whatever the arguments, the call returns true, and they read afterwards as before. -/
import Derived.Test.YtgeegbbcjdlkbaaRows
import Derived.WalkKit
import Derived.ProofKit
import Derived.OpenShut
import Derived.ShutString
import Derived.ChangeOld
import Derived.Below
import Derived.Test.YtgeegbbcjdlkbaaMeet
import Derived.Test.YtgeegbbcjdlkbaaKn
namespace Go.Proofs.Ytgeegbbcjdlkbaa.fnExactMeetRanges
open Go.ChangeShapes Go.WideShapes Go.ChangeAt Go.RowKit
open Go.ChangeMaps (open_string shut_string)
set_option linter.unusedVariables false
set_option linter.unusedSimpArgs false

theorem own : ownKnob Try.prog.godebug = none := by kernel_rfl
theorem laidOut : laidOutB Try.prog = true := by kernel_rfl

set_option maxRecDepth 100000 in
set_option maxHeartbeats 4000000 in
theorem walk (w : World) (v0 : Value) (w0 : ∃ f t : Int, v0 = .agg #[.int .i64 f, .int .i64 t] ∧ I64 f ∧ I64 t) (v1 : Value) (w1' : ∃ f t : Int, v1 = .agg #[.int .i64 f, .int .i64 t] ∧ I64 f ∧ I64 t) :
    Calls Try.prog 5 #[v0, v1] w fun e w' => e = .returned (.bool true) ∧ Below w.heap.size w w' := by
  obtain ⟨a, b, rfl, -, -⟩ := w0
  obtain ⟨c, d, rfl, -, -⟩ := w1'
  have X := hide (Kn.two w #[.int .i64 a, .int .i64 b] #[.int .i64 c, .int .i64 d] 23 23)
  obtain ⟨w1, hw1⟩ : ∃ w1, w1 = (w.alloc (.cells #[.int .i64 a, .int .i64 b] 23)).alloc (.cells #[.int .i64 c, .int .i64 d] 23) := ⟨_, rfl⟩
  obtain ⟨x, hx⟩ : ∃ x, x = meF a b c d := ⟨_, rfl⟩
  obtain ⟨y, hy⟩ : ∃ y, y = meT a b c d := ⟨_, rfl⟩
  have HS := hide (fun W => sMeet_any a b c d W)
  have HI := hide (fun W => iMeet_any a b c d W)
  rw [← hx, ← hy] at HS HI
  clear hx hy
  rw [← hw1] at X
  have d0 := X.out.cell 0 0 rfl rfl
  have d1 := X.out.cell 0 1 rfl rfl
  have d2 := X.out.cell 1 0 rfl rfl
  have d3 := X.out.cell 1 1 rfl rfl
  have z0 := X.out.lt 0 rfl
  have z1 := X.out.lt 1 rfl
  go_enter Try.func5, Try.ntmps5
  go_wp2_with fail
  rw [← hw1]
  clear hw1
  go_upto_region 1 with fail
  go_cut [5] (fun s wx => ∃ g, s = .pointer (some ⟨g, 0, none⟩) ∧ Hid (Kn w wx [(w.heap.size, #[.int .i64 a, .int .i64 b], 23), (w.heap.size + 1, #[.int .i64 c, .int .i64 d], 23), (g, #[.int .i64 x, .int .i64 y], 25)]))
  case first =>
    have X0 := X
    have X := hide (X.out.drew)
    go_region_held3 (fun w' => w'.cell? ⟨w.heap.size, 0, none⟩ = some (.int .i64 a) ∧ w'.cell? ⟨w.heap.size, 1, none⟩ = some (.int .i64 b) ∧ w'.cell? ⟨w.heap.size + 1, 0, none⟩ = some (.int .i64 c) ∧ w'.cell? ⟨w.heap.size + 1, 1, none⟩ = some (.int .i64 d)) (first | exact ⟨d0, d1, d2, d3⟩ | (exact (fun X4 => ⟨Kn.cell X4 0 0 rfl rfl, Kn.cell X4 0 1 rfl rfl, Kn.cell X4 1 0 rfl rfl, Kn.cell X4 1 1 rfl rfl⟩) ((X.out.set 2 0 rfl _).set 2 1 rfl _)) | go_keep) (first
      | (go_at_call 8; refine (toRange_any _ _ _).mono ?_; rintro e w2 ⟨rfl, hb⟩; (first | (have X := hide (X.out.up hb)) | (have X := hide (X0.out.upD hb)) | (have X := hide (X.out.upA hb))); have d0 := X.out.cell 0 0 rfl rfl; have d1 := X.out.cell 0 1 rfl rfl; have d2 := X.out.cell 1 0 rfl rfl; have d3 := X.out.cell 1 1 rfl rfl; have z0 := X.out.lt 0 rfl; have z1 := X.out.lt 1 rfl; (first | (have e0 := X.out.cell 2 0 rfl rfl; have e1 := X.out.cell 2 1 rfl rfl; have g0 := X.out.free 2 0 rfl; have g1 := X.out.free 2 1 rfl; have g2 := X.out.lt 2 rfl) | skip))
      | (go_at_call 12; refine (HS.out _).mono ?_; rintro e w4 ⟨rfl, hb⟩; (first | (have X := hide (X.out.up hb)) | (have X := hide (X0.out.upD hb)) | (have X := hide (X.out.upA hb))); have d0 := X.out.cell 0 0 rfl rfl; have d1 := X.out.cell 0 1 rfl rfl; have d2 := X.out.cell 1 0 rfl rfl; have d3 := X.out.cell 1 1 rfl rfl; have z0 := X.out.lt 0 rfl; have z1 := X.out.lt 1 rfl; (first | (have e0 := X.out.cell 2 0 rfl rfl; have e1 := X.out.cell 2 1 rfl rfl; have g0 := X.out.free 2 0 rfl; have g1 := X.out.free 2 1 rfl; have g2 := X.out.lt 2 rfl) | skip)))
    all_goals go_wp2_with fail
    all_goals go_meet
    all_goals first | exact ⟨_, rfl, (X.out.set 2 0 rfl _).set 2 1 rfl _⟩ | exact ⟨_, rfl, X.out.alloc _ _⟩
  case rest =>
    obtain ⟨g, rfl, X⟩ := hcut
    clear d0 d1 d2 d3 z0 z1
    have d0 := X.out.cell 0 0 rfl rfl
    have d1 := X.out.cell 0 1 rfl rfl
    have d2 := X.out.cell 1 0 rfl rfl
    have d3 := X.out.cell 1 1 rfl rfl
    have z0 := X.out.lt 0 rfl
    have z1 := X.out.lt 1 rfl
    go_upto_region 2 with fail
    go_cut [6] (fun s wx => ∃ h, s = .pointer (some ⟨h, 0, none⟩) ∧ Hid (Kn w wx [(w.heap.size, #[.int .i64 a, .int .i64 b], 23), (w.heap.size + 1, #[.int .i64 c, .int .i64 d], 23), (g, #[.int .i64 x, .int .i64 y], 25), (h, #[.int .i64 x, .int .i64 y], 25)]))
    case first =>
      have X0 := X
      have X := hide (X.out.drew)
      go_region_held3 (fun w' => w'.cell? ⟨w.heap.size, 0, none⟩ = some (.int .i64 a) ∧ w'.cell? ⟨w.heap.size, 1, none⟩ = some (.int .i64 b) ∧ w'.cell? ⟨w.heap.size + 1, 0, none⟩ = some (.int .i64 c) ∧ w'.cell? ⟨w.heap.size + 1, 1, none⟩ = some (.int .i64 d)) (first | exact ⟨d0, d1, d2, d3⟩ | (exact (fun X4 => ⟨Kn.cell X4 0 0 rfl rfl, Kn.cell X4 0 1 rfl rfl, Kn.cell X4 1 0 rfl rfl, Kn.cell X4 1 1 rfl rfl⟩) ((X.out.set 3 0 rfl _).set 3 1 rfl _)) | go_keep) (first
        | (go_at_call 8; refine (toRange_any _ _ _).mono ?_; rintro e w2 ⟨rfl, hb⟩; (first | (have X := hide (X.out.up hb)) | (have X := hide (X0.out.upD hb)) | (have X := hide (X.out.upA hb))); have d0 := X.out.cell 0 0 rfl rfl; have d1 := X.out.cell 0 1 rfl rfl; have d2 := X.out.cell 1 0 rfl rfl; have d3 := X.out.cell 1 1 rfl rfl; have z0 := X.out.lt 0 rfl; have z1 := X.out.lt 1 rfl; (first | (have e0 := X.out.cell 3 0 rfl rfl; have e1 := X.out.cell 3 1 rfl rfl; have g0 := X.out.free 3 0 rfl; have g1 := X.out.free 3 1 rfl; have g2 := X.out.lt 3 rfl) | skip))
        | (go_at_call 13; refine (HI.out _).mono ?_; rintro e w4 ⟨rfl, hb⟩; (first | (have X := hide (X.out.up hb)) | (have X := hide (X0.out.upD hb)) | (have X := hide (X.out.upA hb))); have d0 := X.out.cell 0 0 rfl rfl; have d1 := X.out.cell 0 1 rfl rfl; have d2 := X.out.cell 1 0 rfl rfl; have d3 := X.out.cell 1 1 rfl rfl; have z0 := X.out.lt 0 rfl; have z1 := X.out.lt 1 rfl; (first | (have e0 := X.out.cell 3 0 rfl rfl; have e1 := X.out.cell 3 1 rfl rfl; have g0 := X.out.free 3 0 rfl; have g1 := X.out.free 3 1 rfl; have g2 := X.out.lt 3 rfl) | skip)))
      all_goals go_wp2_with fail
      all_goals go_meet
      all_goals first | exact ⟨_, rfl, (X.out.set 3 0 rfl _).set 3 1 rfl _⟩ | exact ⟨_, rfl, X.out.alloc _ _⟩
    case rest =>
      obtain ⟨h, rfl, X⟩ := hcut
      clear d0 d1 d2 d3
      have d0 := X.out.cell 2 0 rfl rfl
      have d1 := X.out.cell 2 1 rfl rfl
      have d2 := X.out.cell 3 0 rfl rfl
      have d3 := X.out.cell 3 1 rfl rfl
      go_wp2_with fail
      refine (eqRange_same _ _ _).mono ?_
      rintro e w4 ⟨rfl, hb⟩
      have X := hide (X.out.up hb)
      clear hb
      go_wp2_with fail
      go_ret
      exact ⟨rfl, X.out.below⟩

set_option maxRecDepth 100000 in
theorem lifted (os : Os) (started : os.Started) (H : Type) (enc : TypeId × Value → H) :
    ReturnsInHanded {} Try.checked os 5 .any (Rows.fnExactMeetRangesSpec.pre6 enc Try.prog Try.f5 Rows.fnExactMeetRangesRow.domain false) (Rows.fnExactMeetRangesSpec.post enc Try.prog Try.f5 false true false false) := by
  refine returnsInHanded_of_change (C := Try.checked) own started (by kernel_rfl) Try.func5
    (ChangeSpec.witness6 (enc := enc) (C := Try.checked) false ⟨#[], #[.agg #[.int .i64 0, .int .i64 0], .agg #[.int .i64 0, .int .i64 0]], []⟩ 8 (by kernel_rfl) (by kernel_rfl) (by kernel_rfl) (by kernel_rfl)) ?_
  intro W base args ds gs before hval0 hW hcnd _
  have hval : ∀ (j : Nat) t v, Try.f5.params[j]? = some t → args[j]? = some v → Value.okWide Try.prog W .any base t v := hval0
  have hW' := hW
  obtain ⟨p, q, hA0, hV, rfl, hfz, hnd⟩ := hW
  have hA : DataW.TrodAll enc Try.prog W 0 (fun _ => true) true Try.f5.params.toList args.toList ds p := hA0
  rw [Try.params5] at hA hval
  obtain ⟨v0, vs0, d0, ds0, p0, q0, hargs, rfl, rfl, h0, r0⟩ := trodAll_cons hA
  obtain ⟨v1, vs1, d1, ds1, p1, q1, rfl, rfl, rfl, h1, r1⟩ := trodAll_cons r0
  obtain ⟨rfl, rfl, rfl⟩ := trodAll_nil r1
  obtain rfl : args = #[v0, v1] := by cases args; simp_all
  obtain ⟨rfl, rfl⟩ := trodVars_none hV
  have k0 := h0
  have lt0 : ∀ x ∈ p0, x.block < W.heap.size := by obtain ⟨m, hm⟩ := k0; exact DataW.trod_lt m _ _ _ hm
  have k1 := h1
  have lt1 : ∀ x ∈ p1, x.block < W.heap.size := by obtain ⟨m, hm⟩ := k1; exact DataW.trod_lt m _ _ _ hm
  have w0 := open_rg (hval 0 23 v0 rfl rfl) h0
  have w1 := open_rg (hval 1 23 v1 rfl rfl) h1
  clear hA0 hval0
  refine (walk W v0 w0 v1 w1).mono fun e W' ⟨he, bel⟩ => ?_
  subst he
  exact ⟨_, rfl, _, _, _, [], _, [], hW', trodAll_mk1 (shut_bool Try.underlying4 _), (trodAll_cons_mk (Below.trod laidOut (by kernel_rfl) (of_decide_eq_true (by kernel_rfl)) k0 bel lt0) (trodAll_cons_mk (Below.trod laidOut (by kernel_rfl) (of_decide_eq_true (by kernel_rfl)) k1 bel lt1) trodAll_mk0)), rfl, bel.frame _, fun h => by cases h⟩

theorem over : Rows.fnExactMeetRangesRow.holds Try.pinned (OpenSpec.ofChange Rows.fnExactMeetRangesSpec) :=
  OpenClaim.holds_of_wide 5 Try.f5 rfl rfl rfl rfl rfl rfl rfl ⟨rfl, rfl, rfl, rfl, rfl⟩ rfl rfl rfl rfl rfl (by kernel_rfl) Try.func5 (by kernel_rfl)
    (of_decide_eq_true (by kernel_rfl)) (by unfold Func.isWrapper; first | (rw [if_pos (by decide +kernel)]; kernel_rfl) | (rw [if_neg (by decide +kernel)]; exact ⟨rfl, rfl⟩))
    (fun os started H enc _ => lifted os started H enc)

/-- The statement. -/
theorem proved : Rows.FnExactMeetRangesSaid := over
#print axioms proved
end Go.Proofs.Ytgeegbbcjdlkbaa.fnExactMeetRanges
