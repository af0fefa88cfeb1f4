/- What the program's DecodeHex returns, for every argument. -/
import Derived.Test.YtgeegbbcjdlkbaaGreatDoorUnhex
namespace Go.Proofs.YtgeegbbcjdlkbaaGreatDoor
open Go.RowKit
set_option linter.unusedSimpArgs false
set_option linter.unusedVariables false
set_option maxRecDepth 100000

/-- Byte j of the result when the first p digits have been read. -/
def partAt (s : ByteArray) (p j : Nat) : UInt8 := if 2 * j + 1 < p then pairAt s j else if 2 * j < p then UInt8.ofNat (fx s (2 * j)).toNat else 0
def partL (s : ByteArray) (p : Nat) : List UInt8 := (List.range (s.size / 2)).map (partAt s p)

theorem partL_length (s : ByteArray) (p : Nat) : (partL s p).length = s.size / 2 := by simp [partL]
theorem partL_zero (s : ByteArray) : partL s 0 = List.replicate (s.size / 2) 0 := by
  unfold partL
  rw [List.eq_replicate_iff]
  refine ⟨by simp, ?_⟩
  intro b hb
  simp only [List.mem_map] at hb
  obtain ⟨j, _, rfl⟩ := hb
  simp [partAt]

theorem Bs.iterAt {w : World} {base : Nat} {e : TypeId} {v : Value} {l : List UInt8} (h : Bs w base e v l) {k : Nat} {s : ByteArray} {p : Nat} (hk : w.heap[k]? = some (.stringIter s p)) (p' : Nat) : Bs (w.iterAt k s p') base e v l := by
  obtain ⟨h1, h2⟩ := h
  refine ⟨h1, ?_⟩
  rcases h2 with h2 | ⟨g, cap, cur, a, b, c, d⟩
  · exact .inl h2
  · refine .inr ⟨g, cap, cur, a, b, ?_, d⟩
    rw [Lib.iterAt_other _ _ _ _ _ (fun e => by subst e; rw [hk] at c; cases c)]
    exact c

theorem fx_le (s : ByteArray) (i : Nat) : -1 ≤ fx s i ∧ fx s i ≤ 15 := fromHex_le _

theorem partL_get (s : ByteArray) (p j : Nat) (h : j < (partL s p).length) : (partL s p)[j] = partAt s p j := by simp [partL]

/-- The byte that is there before digit p is read. -/
theorem part_low (s : ByteArray) (p : Nat) (hv : ∀ t, t < p → 0 ≤ fx s t) : (partAt s p (p / 2)).toNat = if p % 2 = 1 then (fx s (p - 1)).toNat else 0 := by
  unfold partAt
  rw [if_neg (by omega)]
  by_cases h : p % 2 = 1
  · rw [if_pos (by omega), if_pos h, show 2 * (p / 2) = p - 1 by omega]
    have := fx_le s (p - 1)
    simp; omega
  · rw [if_neg (by omega), if_neg h]; rfl

theorem part_step (s : ByteArray) (p : Nat) (hv : ∀ t, t < p → 0 ≤ fx s t) (ha : 0 ≤ fx s p) :
    (partL s p).set (p / 2) (UInt8.ofNat ((partAt s p (p / 2)).toNat * 16 + (fx s p).toNat)) = partL s (p + 1) := by
  apply List.ext_getElem
  · simp [partL]
  · intro j h1 h2
    rw [List.getElem_set]
    simp only [partL_get]
    by_cases hj : p / 2 = j
    · rw [if_pos hj]
      subst hj
      rw [part_low s p hv]
      unfold partAt
      by_cases h : p % 2 = 1
      · rw [if_pos h, if_pos (by omega)]
        unfold pairAt
        rw [show 2 * (p / 2) = p - 1 by omega, show p - 1 + 1 = p by omega]
        have := hv (p - 1) (by omega)
        congr 1
        omega
      · rw [if_neg h, if_neg (by omega), if_pos (by omega), show 2 * (p / 2) = p by omega]
        simp
    · rw [if_neg hj]
      unfold partAt
      by_cases c1 : 2 * j + 1 < p
      · rw [if_pos c1, if_pos (by omega)]
      · have n1 : ¬ 2 * j < p := by omega
        have n2 : ¬ 2 * j + 1 < p + 1 := by omega
        have n3 : ¬ 2 * j < p + 1 := by omega
        rw [if_neg c1, if_neg n1, if_neg n2, if_neg n3]

theorem partL_all (s : ByteArray) (h : s.size % 2 = 0) : partL s s.size = (List.range (s.size / 2)).map (pairAt s) := by
  unfold partL
  apply List.map_congr_left
  intro j hj
  unfold partAt
  rw [if_pos (by have := List.mem_range.1 hj; omega)]

theorem or_nib (x : Nat) (a : Int) (hx : x < 16) (h0 : 0 ≤ a) (h1 : a ≤ 15) : bits .or .u8 ((x : Int) * 16 % 256) a = ((x * 16 + a.toNat : Nat) : Int) := by
  obtain ⟨A, rfl⟩ := Int.eq_ofNat_of_zero_le h0
  have e : ((x : Int) * 16 % 256) = ((x * 16 : Nat) : Int) := by omega
  rw [e, u8_or_nat _ _ (by omega) (by omega), nat_join 4 (x * 16) A (by omega) (by omega)]
  rfl

end Go.Proofs.YtgeegbbcjdlkbaaGreatDoor
