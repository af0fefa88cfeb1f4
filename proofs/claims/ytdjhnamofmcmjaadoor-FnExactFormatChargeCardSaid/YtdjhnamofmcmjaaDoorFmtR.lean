/- What FormatRange returns, of the reference and of the program (promise 2). -/
import Derived.Test.YtdjhnamofmcmjaaDoorRng2
import Derived.Test.YtdjhnamofmcmjaaDoorKn
import Derived.Test.YtdjhnamofmcmjaaDoorFmt
namespace Go.Proofs.YtdjhnamofmcmjaaDoor
open Go.RowKit Go.ChangeShapes
set_option linter.unusedSimpArgs false
set_option linter.unusedVariables false
set_option maxRecDepth 100000

/-- A range's text. -/
def fmtR (f t : Int) : List UInt8 := if isR f t = true then Lib.itoa f ++ [46, 46] ++ Lib.itoa t else []

theorem fmtR_str (a b : List UInt8) : (ByteArray.mk a.toArray ++ ByteArray.mk #[46, 46]) ++ ByteArray.mk b.toArray = ByteArray.mk (a ++ [46, 46] ++ b).toArray := by
  have h1 := ByteArray.mk_append_mk a [46, 46]
  have h2 := ByteArray.mk_append_mk (a ++ [46, 46]) b
  rw [← h2, ← h1]

set_option maxHeartbeats 2000000 in
theorem iFmtR_any (f t : Int) (w : World) (ht : Tab w) : Calls Tryd.prog 10 #[.agg #[.int .i64 f, .int .i64 t]] w (RetS w (fmtR f t)) := by
  have HT := hide ht
  have X := hide (Kn.one w #[.int .i64 f, .int .i64 t] 33)
  obtain ⟨w1, hw1⟩ : ∃ w1, w1 = w.alloc (.cells #[.int .i64 f, .int .i64 t] 33) := ⟨_, rfl⟩
  rw [← hw1] at X
  have d0 := X.out.cell 0 0 rfl rfl
  have d1 := X.out.cell 0 1 rfl rfl
  clear ht
  cases hr : isR f t
  · have hv := hide (show fmtR f t = [] from if_neg (by rw [hr]; simp))
    have HR := hide hr
    clear hr
    go_enter Tryd.func10, Tryd.ntmps10
    go_wp2_with fail
    rw [← hw1]
    clear hw1
    go_wp2_with fail
    refine (iIsR_is HR.out _).mono ?_
    rintro e wa ⟨rfl, hb⟩
    have X := hide (X.out.up hb)
    clear hb
    go_wp2_with fail
    go_ret
    exact ⟨by rw [hv.out]; rfl, X.out.below⟩
  · have hv := hide (show fmtR f t = Lib.itoa f ++ [46, 46] ++ Lib.itoa t from if_pos hr)
    obtain ⟨l1, l2, l3, l4⟩ := isR_true hr
    have hlf := itoa_len f (by omega) (by omega)
    have hlt := itoa_len t (by omega) (by omega)
    have HR := hide hr
    clear hr
    go_enter Tryd.func10, Tryd.ntmps10
    go_wp2_with fail
    rw [← hw1]
    clear hw1
    go_wp2_with fail
    refine (iIsR_is HR.out _).mono ?_
    rintro e wa ⟨rfl, hb⟩
    have X := hide (X.out.up hb)
    have d0 := X.out.cell 0 0 rfl rfl
    have d1 := X.out.cell 0 1 rfl rfl
    clear hb
    go_wp2_with fail
    have XD := hide X.out.drew
    go_region_with (first
      | (go_at_call 11; refine (iFI_any _ _ (by omega) (by omega) (HT.out.stays XD.out.below (Nat.le_refl _))).mono ?_; rintro e wb ⟨rfl, hb⟩; have XD := hide (XD.out.up hb); have d0 := XD.out.cell 0 0 rfl rfl; have d1 := XD.out.cell 0 1 rfl rfl))
    all_goals go_wp2_with fail
    all_goals go_ret
    all_goals exact ⟨by rw [hv.out, ← fmtR_str]; rfl, XD.out.below⟩

end Go.Proofs.YtdjhnamofmcmjaaDoor
