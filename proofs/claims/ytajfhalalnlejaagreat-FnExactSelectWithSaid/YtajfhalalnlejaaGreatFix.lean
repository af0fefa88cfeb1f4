/- What EncodeFixed and DecodeFixed of both packages return, for every argument. -/
import Derived.Test.YtajfhalalnlejaaGreatKit
namespace Go.Proofs.YtajfhalalnlejaaGreat
open Go.RowKit
set_option linter.unusedSimpArgs false
set_option linter.unusedVariables false

theorem infoB : (Tryz.prog.info? 5).map (fun i => (i.zero, i.size, i.bytes)) = some (some (.int .u8 0), 1, 1) := by kernel_rfl

def encF (n : Nat) : Nat → List UInt8
  | 0 => []
  | k + 1 => UInt8.ofNat (n / 256 ^ k % 256) :: encF n k
theorem div_pow_succ (n k : Nat) : n / 256 ^ k / 256 = n / 256 ^ (k + 1) := by rw [Nat.div_div_eq_div_mul, Nat.pow_succ]
theorem encF_length (n k : Nat) : (encF n k).length = k := by induction k <;> simp [encF, *]

/-- What EncodeFixed returns. -/
def EncF (n width : Int) : List UInt8 := if 1 ≤ width ∧ width ≤ 7 ∧ 0 ≤ n ∧ n.toNat / 256 ^ width.toNat = 0 then encF n.toNat width.toNat else []

theorem EncF_yes (n width : Nat) (h1 : 1 ≤ width) (h2 : width ≤ 7) (h : n / 256 ^ width = 0) : EncF n width = encF n width := by
  unfold EncF; rw [if_pos ⟨by omega, by omega, by omega, by simpa using h⟩]; simp
theorem EncF_big (n width : Nat) (h : n / 256 ^ width ≠ 0) : EncF n width = [] := by
  unfold EncF; rw [if_neg (fun hh => h (by simpa using hh.2.2.2))]
theorem EncF_no (n width : Int) (h : width < 1 ∨ 7 < width ∨ n < 0) : EncF n width = [] := by
  unfold EncF; rw [if_neg (by omega)]

/-- A string is returned; nothing that was there has turned. -/
def RetS (w : World) (l : List UInt8) (e : Ending) (w' : World) : Prop := e = .returned (.string ⟨l.toArray⟩) ∧ Below w.heap.size w w'

theorem rep_set (a j : Nat) (x : UInt8) (l : List UInt8) (h : j + 1 = a) : (List.replicate a (0 : UInt8) ++ l).set j x = List.replicate j 0 ++ (x :: l) := by
  subst h
  rw [List.set_append_left _ _ (by simp), List.replicate_succ', List.set_append_right _ _ (by simp)]
  simp

theorem shr_zero {n width : Nat} (h : ((n : Int) / 2 ^ (8 * width) != 0) = false) : n / 256 ^ width = 0 := by
  have e : (2 : Nat) ^ (8 * width) = 256 ^ width := by rw [Nat.pow_mul]
  have h1 : ((n : Int) / 2 ^ (8 * width)) = ((n / 256 ^ width : Nat) : Int) := by rw [← e]; simp
  rw [h1, bne_eq_false_iff_eq] at h
  exact Int.natCast_eq_zero.1 h
theorem shr_more {n width : Nat} (h : ((n : Int) / 2 ^ (8 * width) != 0) = true) : n / 256 ^ width ≠ 0 := by
  have e : (2 : Nat) ^ (8 * width) = 256 ^ width := by rw [Nat.pow_mul]
  have h1 : ((n : Int) / 2 ^ (8 * width)) = ((n / 256 ^ width : Nat) : Int) := by rw [← e]; simp
  rw [h1] at h
  intro h0
  rw [h0] at h
  simp at h

end Go.Proofs.YtajfhalalnlejaaGreat
