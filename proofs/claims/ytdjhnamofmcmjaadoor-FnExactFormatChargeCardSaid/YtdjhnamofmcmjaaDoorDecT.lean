/- The decimal digits of a number; any program. -/
import Derived.Test.YtdjhnamofmcmjaaDoorKit
import Derived.Lib.AppendIntMem
import Derived.Lib.ItoaLen
namespace Go.Proofs.YtdjhnamofmcmjaaDoor
open Go.RowKit
set_option linter.unusedSimpArgs false
set_option linter.unusedVariables false

/-- The digits of u; none for 0. -/
def decT (u : Nat) : List UInt8 := if u = 0 then [] else Lib.decDigits u

theorem decT_step (u : Nat) (h : u ≠ 0) : decT u = decT (u / 10) ++ [UInt8.ofNat (48 + u % 10)] := by
  unfold decT
  rw [if_neg h]
  by_cases h10 : u < 10
  · rw [if_pos (by omega), Lib.decDigits, dif_pos h10, Nat.mod_eq_of_lt h10]; rfl
  · rw [if_neg (by omega), Lib.decDigits, dif_neg h10]

theorem dig48 (k : Nat) : (48 + UInt8.ofNat k) = UInt8.ofNat (48 + k) := by simp [UInt8.ofNat_add]

theorem decT_length (u : Nat) (h : u ≤ 9223372036854775808) : (decT u).length ≤ 20 := by
  unfold decT
  split
  · simp
  · rw [Lib.decDigits_length]; exact Lib.nDigits_le20 u (by omega)

end Go.Proofs.YtdjhnamofmcmjaaDoor
