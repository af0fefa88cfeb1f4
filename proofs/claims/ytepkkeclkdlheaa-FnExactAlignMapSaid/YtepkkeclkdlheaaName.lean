/- What IsName and AreValues of the reference return (promise 2). -/
import Derived.Test.YtepkkeclkdlheaaInts
import Derived.Test.YtepkkeclkdlheaaIn
namespace Go.Proofs.Ytepkkeclkdlheaa
open Go.RowKit
set_option linter.unusedSimpArgs false
set_option linter.unusedVariables false
set_option maxRecDepth 100000

/-- A letter from a to z. -/
def isLow (b : UInt8) : Bool := decide (97 ≤ b.toNat) && decide (b.toNat ≤ 122)

/-- A name: one to eight letters from a to z. -/
def isNm (l : List UInt8) : Bool := l.all isLow && (decide (1 ≤ l.length) && decide (l.length ≤ 8))

theorem low_snoc {s : ByteArray} {k : Nat} (h : (s.data.toList.take k).all isLow = true) (hk : k < s.size) (hl : isLow s[k] = true) : (s.data.toList.take (k + 1)).all isLow = true := by
  have hk2 : k < s.data.toList.length := by simpa using hk
  rw [List.take_succ_eq_append_getElem hk2, List.all_append, h]
  have e : s.data.toList[k] = s[k] := by simp; rfl
  simp [e, hl]

theorem low_not {s : ByteArray} {k : Nat} (hk : k < s.size) (hl : isLow s[k] = false) : isNm s.data.toList = false := by
  have hk2 : k < s.data.toList.length := by simpa using hk
  have e : s.data.toList[k] = s[k] := by simp; rfl
  have : s.data.toList.all isLow = false := by
    rw [List.all_eq_false]
    exact ⟨_, List.getElem_mem hk2, by rw [e, hl]; simp⟩
  simp [isNm, this]

theorem vals_snoc {l : List Int} {k : Nat} {x : Int} (h : (l.take k).all (fun x => decide (-999 ≤ x) && decide (x ≤ 999)) = true) (hk : k < l.length) (hx : x = l[k]) (hl : -999 ≤ x ∧ x ≤ 999) : (l.take (k + 1)).all (fun x => decide (-999 ≤ x) && decide (x ≤ 999)) = true := by
  rw [List.take_succ_eq_append_getElem hk, List.all_append, h, ← hx]
  simp [hl.1, hl.2]

theorem vals_not {l : List Int} {k : Nat} {x : Int} (hk : k < l.length) (hx : x = l[k]) (hl : x < -999 ∨ 999 < x) : areVals l = false := by
  have : l.all (fun x => decide (-999 ≤ x) && decide (x ≤ 999)) = false := by
    rw [List.all_eq_false]
    exact ⟨_, List.getElem_mem hk, by rw [← hx]; simp; omega⟩
  simp [areVals, this]

/-- A truth is returned; the world has drawn, no more. -/
def RetBD (w : World) (b : Bool) (e : Ending) (w' : World) : Prop := e = .returned (.bool b) ∧ ∃ q, w' = w.drewN q

set_option maxHeartbeats 1000000 in
theorem sVals_drew (v : Value) (l : List Int) (w : World) (B : Nat) (hv : Ints w B v l) :
    Calls Try.prog 74 #[v] w (RetBD w (areVals l)) := by
  obtain ⟨a, cap, rfl, hlen, hwf, hcell⟩ := hv
  have HC := hide hcell
  have HW := hide hwf
  clear hcell hwf
  obtain ⟨b0, hb0⟩ : ∃ b0, b0 = areVals l := ⟨_, rfl⟩
  have HB := hide hb0
  rw [← hb0]
  clear hb0
  go_enter Try.func74, Try.ntmps74
  go_wp2
  go_loopw [3] (fun i wr => ∃ (k q : Nat), k ≤ l.length ∧ i = .int .i64 k ∧ Hid ((l.take k).all (fun x => decide (-999 ≤ x) && decide (x ≤ 999)) = true) ∧ wr = w.drewN q) (fun i _ => l.length - (intOf i).toNat)
  case atStart => exact ⟨0, 0, by omega, rfl, rfl, rfl⟩
  case round =>
    obtain ⟨k, q, hk, rfl, hpre, rfl⟩ := hrel
    by_cases hlt : k < l.length
    · obtain ⟨b, o, rfl, hbB, hc⟩ := HC.out k hlt
      obtain ⟨x, hx⟩ : ∃ x, x = l[k] := ⟨_, rfl⟩
      rw [← hx] at hc
      have HX := hide hx
      clear hx
      by_cases hin : -999 ≤ x ∧ x ≤ 999
      · have HL := hide (vals_snoc hpre.out hlt HX.out hin)
        obtain ⟨c1, c2⟩ := hin
        go_wp2_with (go_at_call 81; refine (in_yes _ _ _ _ (by omega) (by omega)).mono ?_; rintro e wa ⟨rfl, rfl⟩)
        go_roundw
        case rel => exact ⟨k + 1, q, by omega, by go_num, HL, rfl⟩
        case measure => simp [intOf]; omega
      · have HL := hide (vals_not hlt HX.out (by omega))
        go_wp2_with (go_at_call 81; refine (in_no _ _ _ _ (by omega)).mono ?_; rintro e wa ⟨rfl, rfl⟩)
        go_ret
        exact ⟨by rw [HB.out, HL.out]; rfl, _, rfl⟩
    · have hke : k = l.length := by omega
      subst hke
      have hall : l.all (fun x => decide (-999 ≤ x) && decide (x ≤ 999)) = true := by have := hpre.out; rwa [List.take_of_length_le (Nat.le_refl _)] at this
      by_cases c : l.length ≤ 64
      · have HV := hide (show b0 = true by rw [HB.out]; simp only [areVals, hall]; simp [c])
        have d : decide ((l.length : Int) ≤ 64) = true := by simp; omega
        clear hall
        go_wp2
        go_ret
        exact ⟨by rw [HV.out]; rfl, _, rfl⟩
      · have HV := hide (show b0 = false by rw [HB.out]; simp only [areVals, hall]; simp [c])
        have d : decide ((l.length : Int) ≤ 64) = false := by simp; omega
        clear hall
        go_wp2
        go_ret
        exact ⟨by rw [HV.out]; rfl, _, rfl⟩

theorem sVals_any (v : Value) (l : List Int) (w : World) (B : Nat) (hv : Ints w B v l) :
    Calls Try.prog 74 #[v] w (RetB1 w (areVals l)) := by
  refine (sVals_drew v l w B hv).mono ?_
  rintro e w' ⟨rfl, q, rfl⟩
  exact ⟨rfl, below_drewN (Below.refl _ _) _⟩

end Go.Proofs.Ytepkkeclkdlheaa
