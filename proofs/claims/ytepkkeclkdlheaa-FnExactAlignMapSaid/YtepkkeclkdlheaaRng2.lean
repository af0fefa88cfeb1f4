/- Ranges: what InRange and MeetRanges return, of the reference and of the program (promise 2). -/
import Derived.Test.YtepkkeclkdlheaaRng
namespace Go.Proofs.Ytepkkeclkdlheaa
open Go.RowKit Go.ChangeShapes
set_option linter.unusedSimpArgs false
set_option linter.unusedVariables false
set_option maxRecDepth 100000

theorem sIsR_at {f t : Int} {r : Bool} (h : isR f t = r) (w : World) : Calls Try.prog 96 #[.agg #[.int .i64 f, .int .i64 t]] w (RetB1 w r) := by rw [← h]; exact sIsR_any f t w

theorem iIsR_is {f t : Int} {r : Bool} (h : isR f t = r) (w : World) : Calls Try.prog 156 #[.agg #[.int .i64 f, .int .i64 t]] w (RetB1 w r) := by rw [← h]; exact iIsR_any f t w

/-- Does a number lie in the range? -/
def inR (f t v : Int) : Bool := decide (isR f t = true ∧ f ≤ v ∧ v < t)

set_option maxHeartbeats 1000000 in
theorem sInR_any (f t v : Int) (w : World) : Calls Try.prog 98 #[.agg #[.int .i64 f, .int .i64 t], .int .i64 v] w (RetB1 w (inR f t v)) := by
  have X1 := hide (Box2.new w (.int .i64 f) (.int .i64 t) 64)
  obtain ⟨w1, hw1⟩ : ∃ w1, w1 = w.alloc (.cells #[.int .i64 f, .int .i64 t] 64) := ⟨_, rfl⟩
  rw [← hw1] at X1
  have c0 := X1.out.2.1
  have c1 := X1.out.2.2.1
  cases hr : isR f t
  · have hv := hide (show inR f t v = false from decide_eq_false (by rw [hr]; simp))
    have HR := hide hr
    clear hr
    go_enter Try.func98, Try.ntmps98
    go_wp2_with fail
    rw [← hw1]
    clear hw1
    go_wp2_with fail
    refine (sIsR_at HR.out _).mono ?_
    rintro e wa ⟨rfl, hb⟩
    have X2 := hide (X1.out.up hb)
    clear hb
    go_wp2_with fail
    go_ret
    exact ⟨by rw [hv.out]; rfl, X2.out.1⟩
  · have hb := isR_true hr
    have HR := hide hr
    clear hr
    by_cases h : f ≤ v ∧ v < t
    · have hv := hide (show inR f t v = true from decide_eq_true ⟨HR.out, h⟩)
      go_enter Try.func98, Try.ntmps98
      go_wp2_with fail
      rw [← hw1]
      clear hw1
      go_wp2_with fail
      refine (sIsR_at HR.out _).mono ?_
      rintro e wa ⟨rfl, hb⟩
      have X2 := hide (X1.out.up hb)
      have d0 := X2.out.2.1
      have d1 := X2.out.2.2.1
      clear hb
      go_wp2_with (go_at_call 81; refine (in_yes _ _ _ _ (by omega) (by omega)).mono ?_; rintro e wb ⟨rfl, rfl⟩)
      go_ret
      exact ⟨by rw [hv.out]; rfl, X2.out.1⟩
    · have hv := hide (show inR f t v = false from decide_eq_false (fun hh => h hh.2))
      go_enter Try.func98, Try.ntmps98
      go_wp2_with fail
      rw [← hw1]
      clear hw1
      go_wp2_with fail
      refine (sIsR_at HR.out _).mono ?_
      rintro e wa ⟨rfl, hb⟩
      have X2 := hide (X1.out.up hb)
      have d0 := X2.out.2.1
      have d1 := X2.out.2.2.1
      clear hb
      go_wp2_with (go_at_call 81; refine (in_no _ _ _ _ (by omega)).mono ?_; rintro e wb ⟨rfl, rfl⟩)
      go_ret
      exact ⟨by rw [hv.out]; rfl, X2.out.1⟩

set_option maxHeartbeats 1000000 in
theorem iInR_any (f t v : Int) (w : World) : Calls Try.prog 105 #[.agg #[.int .i64 f, .int .i64 t], .int .i64 v] w (RetB1 w (inR f t v)) := by
  have X1 := hide (Box2.new w (.int .i64 f) (.int .i64 t) 64)
  obtain ⟨w1, hw1⟩ : ∃ w1, w1 = w.alloc (.cells #[.int .i64 f, .int .i64 t] 64) := ⟨_, rfl⟩
  rw [← hw1] at X1
  have c0 := X1.out.2.1
  have c1 := X1.out.2.2.1
  cases hr : isR f t
  · have hv := hide (show inR f t v = false from decide_eq_false (by rw [hr]; simp))
    have HR := hide hr
    clear hr
    go_enter Try.func105, Try.ntmps105
    go_wp2_with fail
    rw [← hw1]
    clear hw1
    go_wp2_with fail
    refine (iIsR_is HR.out _).mono ?_
    rintro e wa ⟨rfl, hb⟩
    have X2 := hide (X1.out.up hb)
    clear hb
    go_wp2_with fail
    go_ret
    exact ⟨by rw [hv.out]; rfl, X2.out.1⟩
  · have hb := isR_true hr
    have HR := hide hr
    clear hr
    by_cases h : f ≤ v
    · by_cases h' : v < t
      · have hv := hide (show inR f t v = true from decide_eq_true ⟨HR.out, h, h'⟩)
        go_enter Try.func105, Try.ntmps105
        go_wp2_with fail
        rw [← hw1]
        clear hw1
        go_wp2_with fail
        refine (iIsR_is HR.out _).mono ?_
        rintro e wa ⟨rfl, hb⟩
        have X2 := hide (X1.out.up hb)
        have d0 := X2.out.2.1
        have d1 := X2.out.2.2.1
        clear hb
        go_wp2_with fail
        go_ret
        exact ⟨by rw [hv.out]; rfl, X2.out.1⟩
      · have hv := hide (show inR f t v = false from decide_eq_false (fun hh => h' hh.2.2))
        have k : decide (v < t) = false := decide_eq_false h'
        go_enter Try.func105, Try.ntmps105
        go_wp2_with fail
        rw [← hw1]
        clear hw1
        go_wp2_with fail
        refine (iIsR_is HR.out _).mono ?_
        rintro e wa ⟨rfl, hb⟩
        have X2 := hide (X1.out.up hb)
        have d0 := X2.out.2.1
        have d1 := X2.out.2.2.1
        clear hb
        go_wp2_with fail
        go_ret
        exact ⟨by rw [hv.out]; rfl, X2.out.1⟩
    · have hv := hide (show inR f t v = false from decide_eq_false (fun hh => h hh.2.1))
      have k : decide (f ≤ v) = false := decide_eq_false h
      go_enter Try.func105, Try.ntmps105
      go_wp2_with fail
      rw [← hw1]
      clear hw1
      go_wp2_with fail
      refine (iIsR_is HR.out _).mono ?_
      rintro e wa ⟨rfl, hb⟩
      have X2 := hide (X1.out.up hb)
      have d0 := X2.out.2.1
      have d1 := X2.out.2.2.1
      clear hb
      go_wp2_with fail
      go_ret
      exact ⟨by rw [hv.out]; rfl, X2.out.1⟩

end Go.Proofs.Ytepkkeclkdlheaa
