/- What FormatInt of both packages returns, for every argument; the program's calls strconv.Itoa, which reads a table of Go's library. -/
import Derived.Test.YtdjhnamofmcmjaaDoorDec
import Derived.Test.YtdjhnamofmcmjaaDoorDecT
import Derived.Lib.AppendIntMem
import Derived.Lib.ItoaLen
import Derived.Lib.SmallJoins
import Derived.Test.YtdjhnamofmcmjaaDoorShelf
namespace Go.Proofs.YtdjhnamofmcmjaaDoor
open Go.RowKit
set_option linter.unusedSimpArgs false
set_option linter.unusedVariables false
set_option maxRecDepth 100000

theorem itoa_pos (u : Nat) (h : u ≠ 0) : Lib.itoa (u : Int) = decT u := by
  unfold Lib.itoa decT
  rw [if_neg (by omega), if_neg h]; rfl
theorem itoa_neg' (u : Nat) (h : u ≠ 0) : Lib.itoa (-(u : Int)) = 45 :: decT u := by
  unfold Lib.itoa decT
  rw [if_pos (by omega), if_neg h]
  congr 2
  omega

theorem str_cons_data (x : UInt8) (l : List UInt8) : (ByteArray.mk #[x] ++ ByteArray.mk l.toArray) = ByteArray.mk (x :: l).toArray := str_cons x l

set_option maxHeartbeats 1000000 in
theorem sFI_pos (n : Nat) (w : World) (h0 : n ≠ 0) (h1 : n ≤ 9223372036854775807) :
    Calls Tryd.prog 8 #[.int .i64 n] w (RetS w (Lib.itoa n)) := by
  have hv := hide (itoa_pos n h0)
  have hlen := decT_length n (by omega)
  have g1 : ((n : Int) == 0) = false := by simp; omega
  have g2 : decide ((n : Int) < 0) = false := by simp
  clear h0
  go_enter Tryd.func8, Tryd.ntmps8
  go_wp2
  go_loopw [0, 3, 5] (fun nn out _ wr => ∃ (m : Nat) (l : List UInt8), nn = .int .i64 m ∧ m ≤ 9223372036854775807 ∧ out = .string ⟨l.toArray⟩ ∧ Hid (decT m ++ l = decT n) ∧ l.length ≤ 20 ∧ Below w.heap.size w wr) (fun nn _ _ _ => (intOf nn).toNat)
  case atStart => exact ⟨n, [], rfl, h1, rfl, by simp [Hid], by simp, Below.refl _ _⟩
  case round =>
    obtain ⟨m, l, rfl, hm, rfl, hl, hll, hb⟩ := hrel
    have hsz := hb.size
    by_cases hz : m = 0
    · subst hz
      go_wp2
      go_ret
      exact ⟨by rw [hv.out, ← hl.out]; rfl, hb⟩
    · have ht : ((m : Int) != 0) = true := by rw [bne_iff_ne]; omega
      have hst := hide (decT_step m hz)
      have hl2 := hl.out
      rw [hst.out, List.append_assoc] at hl2
      have hl3 := hide hl2
      have hlb : (decT (m / 10) ++ ([UInt8.ofNat (48 + m % 10)] ++ l)).length ≤ 20 := by rw [hl2]; exact hlen
      have hll2 : l.length + 1 ≤ 20 := by simp at hlb; omega
      have hcv := conv_one (P := Tryd.prog) 34 9 5 Tryd.underlying34 Tryd.underlying5 Tryd.underlying9 wr (48 + (m : Int) % 10) (by omega) (by omega)
      clear hl2 hlb hst hl
      go_wp2
      go_roundw
      case rel =>
        refine ⟨m / 10, UInt8.ofNat (48 + m % 10) :: l, by go_num, by omega, ?_, hl3, by simp; omega, hb.alloc hsz _⟩
        rw [str_cons, dig48]
      case measure => simp [intOf]; omega

set_option maxHeartbeats 1000000 in
theorem sFI_neg (n : Nat) (w : World) (h0 : n ≠ 0) (h1 : n ≤ 9223372036854775808) :
    Calls Tryd.prog 8 #[.int .i64 (-(n : Int))] w (RetS w (Lib.itoa (-(n : Int)))) := by
  have hv := hide (itoa_neg' n h0)
  have hlen := decT_length n (by omega)
  have g1 : ((-(n : Int)) == 0) = false := by simp; omega
  have g2 : decide ((-(n : Int)) < 0) = true := by simp; omega
  have g3 : 0 < n := by omega
  have g4 : decide (0 < n) = true := by simp; omega
  clear h0
  go_enter Tryd.func8, Tryd.ntmps8
  go_wp2
  go_loopw [0, 3, 5] (fun nn out _ wr => ∃ (m : Nat) (l : List UInt8), nn = .int .i64 (-(m : Int)) ∧ m ≤ 9223372036854775808 ∧ out = .string ⟨l.toArray⟩ ∧ Hid (decT m ++ l = decT n) ∧ l.length ≤ 20 ∧ Below w.heap.size w wr) (fun nn _ _ _ => (-(intOf nn)).toNat)
  case atStart => exact ⟨n, [], rfl, h1, rfl, by simp [Hid], by simp, Below.refl _ _⟩
  case round =>
    obtain ⟨m, l, rfl, hm, rfl, hl, hll, hb⟩ := hrel
    have hsz := hb.size
    by_cases hz : m = 0
    · subst hz
      go_wp2
      go_ret
      exact ⟨by rw [hv.out, ← hl.out]; exact congrArg (fun x => Ending.returned (.string x)) (str_cons 45 l), hb⟩
    · have ht : ((-(m : Int)) != 0) = true := by rw [bne_iff_ne]; omega
      have hst := hide (decT_step m hz)
      have hl2 := hl.out
      rw [hst.out, List.append_assoc] at hl2
      have hl3 := hide hl2
      have hlb : (decT (m / 10) ++ ([UInt8.ofNat (48 + m % 10)] ++ l)).length ≤ 20 := by rw [hl2]; exact hlen
      have hll2 : l.length + 1 ≤ 20 := by simp at hlb; omega
      obtain ⟨r, hr⟩ : ∃ r, r = m % 10 := ⟨_, rfl⟩
      have hmod : (-(m : Int)).tmod 10 = -(r : Int) := by rw [Int.neg_tmod, Int.tmod_eq_emod_of_nonneg (by omega)]; omega
      have hdiv : (-(m : Int)).tdiv 10 = -((m / 10 : Nat) : Int) := by rw [Int.neg_tdiv, Int.tdiv_eq_ediv_of_nonneg (by omega)]; omega
      have hcv := conv_one (P := Tryd.prog) 34 9 5 Tryd.underlying34 Tryd.underlying5 Tryd.underlying9 wr (48 + (r : Int)) (by omega) (by omega)
      have hr9 : r ≤ 9 := by omega
      have HR := hide hr
      clear hl2 hlb hst hl hr
      by_cases hr0 : r = 0
      · subst hr0
        have hcv0 := hcv
        simp only [Int.natCast_zero, Int.add_zero] at hcv0
        go_wp2
        go_roundw
        case rel =>
          refine ⟨m / 10, UInt8.ofNat (48 + m % 10) :: l, by go_num, by omega, ?_, hl3, by simp; omega, hb.alloc hsz _⟩
          rw [← HR.out]
          exact congrArg Value.string (str_cons 48 l)
        case measure => simp [intOf]; omega
      · have hr1 : (-(r : Int)) < 0 := by omega
        go_wp2
        go_roundw
        case rel =>
          refine ⟨m / 10, UInt8.ofNat (48 + m % 10) :: l, by go_num, by omega, ?_, hl3, by simp; omega, hb.alloc hsz _⟩
          rw [← HR.out]
          exact congrArg Value.string (by rw [str_cons, dig48])
        case measure => simp [intOf]; omega

theorem itoa_zero : Lib.itoa 0 = [48] := by
  unfold Lib.itoa
  rw [if_neg (by omega), show (0 : Int).toNat = 0 from rfl, Lib.decDigits, dif_pos (by omega)]
  rfl

theorem sFI_any (n : Int) (w : World) (h : -9223372036854775808 ≤ n) (h2 : n ≤ 9223372036854775807) : Calls Tryd.prog 8 #[.int .i64 n] w (RetS w (Lib.itoa n)) := by
  by_cases h0 : n = 0
  · subst h0
    have hv := hide itoa_zero
    go_enter Tryd.func8, Tryd.ntmps8
    go_wp2
    go_ret
    exact ⟨by rw [hv.out]; rfl, Below.refl _ _⟩
  · by_cases hn : 0 < n
    · obtain ⟨m, rfl⟩ := Int.eq_ofNat_of_zero_le (show 0 ≤ n by omega)
      exact sFI_pos m w (by omega) (by omega)
    · obtain ⟨m, hm⟩ := Int.eq_ofNat_of_zero_le (show 0 ≤ -n by omega)
      obtain rfl : n = -(m : Int) := by omega
      exact sFI_neg m w (by omega) (by omega)

theorem itoa_len (n : Int) (h : -9223372036854775808 ≤ n) (h2 : n ≤ 9223372036854775807) : (Lib.itoa n).length ≤ 21 := Lib.itoa_length_le n h h2

/-- The table of strconv is as Go's text lays it. -/
def Tab (w : World) : Prop := Lib.TabIs Tryd.prog w "internal/strconv.uint64pow10" .u64 Lib.pow10Tab

theorem tabG : Tryd.prog.globalNamed "internal/strconv.uint64pow10" = some 0 := by kernel_rfl

theorem Tab.stays {w w' : World} {B : Nat} (h : Tab w) (hb : Below B w w') (hB : w.heap.size ≤ B) : Tab w' := Joins.tab_stays tabG h hb hB

theorem iFI_any (n : Int) (w : World) (h : -9223372036854775808 ≤ n) (h2 : n ≤ 9223372036854775807) (ht : Tab w) : Calls Tryd.prog 11 #[.int .i64 n] w (RetS w (Lib.itoa n)) := by
  have HC := hide (Tryd.strconv_Itoa n h h2 w ht)
  clear ht
  go_enter Tryd.func11, Tryd.ntmps11
  go_wp2_with (go_at_call 13; refine HC.out.mono ?_; rintro e wa ⟨rfl, k, os, rfl⟩)
  go_ret
  exact ⟨rfl, Lib.below_grow _ _ (Nat.le_refl _) _ _⟩

end Go.Proofs.YtdjhnamofmcmjaaDoor
