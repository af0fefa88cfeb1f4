/- What IsName and AreValues of the program return (promise 2). -/
import Derived.Test.YtepkkeclkdlheaaName
namespace Go.Proofs.Ytepkkeclkdlheaa
open Go.RowKit
set_option linter.unusedSimpArgs false
set_option linter.unusedVariables false
set_option maxRecDepth 100000

set_option maxHeartbeats 1000000 in
theorem iVals_same (v : Value) (l : List Int) (w : World) (B : Nat) (hv : Ints w B v l) :
    Calls Try.prog 76 #[v] w fun e w' => e = .returned (.bool (areVals l)) ∧ w = w' := by
  obtain ⟨a, cap, rfl, hlen, hwf, hcell⟩ := hv
  have HC := hide hcell
  have HW := hide hwf
  clear hcell hwf
  obtain ⟨b0, hb0⟩ : ∃ b0, b0 = areVals l := ⟨_, rfl⟩
  have HB := hide hb0
  rw [← hb0]
  clear hb0
  by_cases c : 64 < l.length
  · have HV := hide (show b0 = false by rw [HB.out]; simp only [areVals]; rw [decide_eq_false (by omega)]; rfl)
    have d : decide ((l.length : Int) > 64) = true := by simp; omega
    go_enter Try.func76, Try.ntmps76
    go_wp2
    go_ret
    exact ⟨by rw [HV.out]; rfl, rfl⟩
  · have d : decide ((l.length : Int) > 64) = false := by simp; omega
    go_enter Try.func76, Try.ntmps76
    go_wp2
    go_loopw [10] (fun i wr => ∃ (k : Nat), k ≤ l.length ∧ i = .int .i64 k ∧ Hid ((l.take k).all (fun x => decide (-999 ≤ x) && decide (x ≤ 999)) = true) ∧ w = wr) (fun i _ => l.length - (intOf i).toNat)
    case atStart => exact ⟨0, by omega, rfl, rfl, rfl⟩
    case round =>
      obtain ⟨k, hk, rfl, hpre, rfl⟩ := hrel
      by_cases hlt : k < l.length
      · obtain ⟨b, o, rfl, hbB, hc⟩ := HC.out k hlt
        obtain ⟨x, hx⟩ : ∃ x, x = l[k] := ⟨_, rfl⟩
        rw [← hx] at hc
        have HX := hide hx
        clear hx
        by_cases e1 : x < -999
        · have HL := hide (vals_not hlt HX.out (by omega))
          have f1 : decide (x < -999) = true := by simp; omega
          go_wp2
          go_ret
          exact ⟨by rw [HB.out, HL.out]; rfl, rfl⟩
        · have f1 : decide (x < -999) = false := by simp; omega
          by_cases e2 : 999 < x
          · have HL := hide (vals_not hlt HX.out (by omega))
            have f2 : decide (x > 999) = true := by simp; omega
            go_wp2
            go_ret
            exact ⟨by rw [HB.out, HL.out]; rfl, rfl⟩
          · have HL := hide (vals_snoc hpre.out hlt HX.out (by omega))
            have f2 : decide (x > 999) = false := by simp; omega
            go_wp2
            go_roundw
            case rel => exact ⟨k + 1, by omega, by go_num, HL, trivial⟩
            case measure => simp [intOf]; omega
      · have hke : k = l.length := by omega
        subst hke
        have hall : l.all (fun x => decide (-999 ≤ x) && decide (x ≤ 999)) = true := by have := hpre.out; rwa [List.take_of_length_le (Nat.le_refl _)] at this
        have HV := hide (show b0 = true by rw [HB.out]; simp only [areVals, hall]; simp; omega)
        clear hall
        go_wp2
        go_ret
        exact ⟨by rw [HV.out]; rfl, rfl⟩

theorem iVals_any (v : Value) (l : List Int) (w : World) (B : Nat) (hv : Ints w B v l) :
    Calls Try.prog 76 #[v] w (RetB1 w (areVals l)) := by
  refine (iVals_same v l w B hv).mono ?_
  rintro e w' ⟨rfl, rfl⟩
  exact ⟨rfl, Below.refl _ _⟩

end Go.Proofs.Ytepkkeclkdlheaa
