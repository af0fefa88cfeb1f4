/- What EncodeVarint of both packages returns, for every argument. -/
import Derived.Test.YtgeegbbcjdlkbaaGreatDoorDec
import Derived.Test.YtgeegbbcjdlkbaaGreatDoorIn
namespace Go.Proofs.YtgeegbbcjdlkbaaGreatDoor
open Go.RowKit
set_option linter.unusedSimpArgs false
set_option linter.unusedVariables false
set_option maxRecDepth 100000

/-- The groups of seven bits, the last one without 128; f more groups may come. -/
def encVn : Nat → Nat → List UInt8
  | 0, n => [UInt8.ofNat n]
  | f + 1, n => if n < 128 then [UInt8.ofNat n] else UInt8.ofNat (n % 128 + 128) :: encVn f (n / 128)

theorem encVn_small (f n : Nat) (h : n < 128) : encVn f n = [UInt8.ofNat n] := by
  cases f
  · rfl
  · simp [encVn, h]

theorem encVn_big (f n : Nat) (h : 128 ≤ n) (h2 : n < 128 ^ (f + 1)) : ∃ g, f = g + 1 ∧ encVn f n = UInt8.ofNat (n % 128 + 128) :: encVn g (n / 128) ∧ n / 128 < 128 ^ (g + 1) := by
  cases f with
  | zero => simp at h2; omega
  | succ g =>
    refine ⟨g, rfl, by simp [encVn, Nat.not_lt.2 h], ?_⟩
    rw [Nat.pow_succ] at h2
    exact Nat.div_lt_of_lt_mul (by omega)

/-- What EncodeVarint returns. -/
def EncV (n : Int) : List UInt8 := if 0 ≤ n ∧ n ≤ 562949953421311 then encVn 6 n.toNat else []

end Go.Proofs.YtgeegbbcjdlkbaaGreatDoor
