/- What ParseInt of both packages returns, for every argument. -/
import Derived.Test.YtgeegbbcjdlkbaaGreatDoorFmt
import Derived.Lib.OthersKept
import Derived.Laws.RangeAny
namespace Go.Proofs.YtgeegbbcjdlkbaaGreatDoor
open Go.RowKit
set_option linter.unusedSimpArgs false
set_option linter.unusedVariables false
set_option maxRecDepth 100000

def isDig (b : UInt8) : Bool := decide (48 ≤ b.toNat) && decide (b.toNat ≤ 57)

/-- The number and the count of the digits among these bytes. -/
def accS (l : List UInt8) : Nat × Nat := l.foldl (fun p b => if isDig b then (p.1 * 10 + (b.toNat - 48), p.2 + 1) else p) (0, 0)

theorem accS_snoc (l : List UInt8) (b : UInt8) : accS (l ++ [b]) = if isDig b then ((accS l).1 * 10 + (b.toNat - 48), (accS l).2 + 1) else accS l := by simp [accS]

theorem accS_lt (l : List UInt8) : (accS l).1 < 10 ^ l.length ∧ (accS l).2 ≤ l.length := by
  suffices h : ∀ r : List UInt8, (accS r.reverse).1 < 10 ^ r.length ∧ (accS r.reverse).2 ≤ r.length by
    have := h l.reverse
    simpa using this
  intro r
  induction r with
  | nil => simp [accS]
  | cons b r ih =>
    rw [List.reverse_cons, accS_snoc]
    simp only [List.length_cons, Nat.pow_succ]
    split
    · rename_i hd
      simp [isDig] at hd
      exact ⟨by simp only; omega, by simp only; omega⟩
    · exact ⟨by omega, by omega⟩

/-- The number that the sign and the digits stand for. -/
def numS (L : List UInt8) : Int := if L.head? = some 45 then -((accS (L.take 11)).1 : Int) else ((accS (L.take 11)).1 : Int)

/-- What ParseInt returns. -/
def ParI (L : List UInt8) : Int × Bool := if (accS (L.take 11)).2 ≤ 9 ∧ L.length ≤ 10 ∧ Lib.itoa (numS L) = L then (numS L, true) else (0, false)

theorem numS_le (L : List UInt8) : -100000000000 < numS L ∧ numS L < 100000000000 := by
  have h := (accS_lt (L.take 11)).1
  have h2 : 10 ^ (L.take 11).length ≤ 10 ^ 11 := Nat.pow_le_pow_right (by omega) (by simp; omega)
  unfold numS
  split <;> omega

end Go.Proofs.YtgeegbbcjdlkbaaGreatDoor
