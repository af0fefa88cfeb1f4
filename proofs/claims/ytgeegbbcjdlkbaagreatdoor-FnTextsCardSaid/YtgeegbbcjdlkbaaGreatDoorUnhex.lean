/- What DecodeHex of both packages returns, for every argument. -/
import Derived.Test.YtgeegbbcjdlkbaaGreatDoorHex
import Derived.Lib.OthersKept
import Derived.Laws.RangeAny
namespace Go.Proofs.YtgeegbbcjdlkbaaGreatDoor
open Go.RowKit
set_option linter.unusedSimpArgs false
set_option linter.unusedVariables false
set_option maxRecDepth 100000

/-- The value of a hexadecimal digit; -1 for anything else. -/
def fromHex (b : Int) : Int := if 48 ≤ b ∧ b ≤ 57 then b - 48 else if 97 ≤ b ∧ b ≤ 102 then b - 87 else -1

theorem fromHex_le (b : Int) : -1 ≤ fromHex b ∧ fromHex b ≤ 15 := by unfold fromHex; split <;> (try split) <;> omega

theorem hex_all : ∀ k : Fin 16, ∀ n : Fin 256, (((hexB[k.val]'k.isLt).toNat : Int) == (n.val : Int)) = (fromHex (n.val : Int) == (k.val : Int)) := by decide +kernel

theorem hex_at (k : Nat) (hk : k < 16) (b : Nat) (hb : b < 256) : (((hexB[k]'hk).toNat : Int) == (b : Int)) = (fromHex (b : Int) == (k : Int)) := hex_all ⟨k, hk⟩ ⟨b, hb⟩

/-- The value of the digit at i. -/
def fx (s : ByteArray) (i : Nat) : Int := fromHex (((s.data.toList.getD i 0).toNat : Nat) : Int)

theorem fx_at (s : ByteArray) (i : Nat) (h : i < s.size) : fx s i = fromHex ((s[i].toNat : Nat) : Int) := by
  unfold fx
  congr 3
  rw [List.getD_eq_getElem?_getD, List.getElem?_eq_getElem (by simpa using h)]
  rfl

def pairAt (s : ByteArray) (j : Nat) : UInt8 := UInt8.ofNat (16 * fx s (2 * j) + fx s (2 * j + 1)).toNat

/-- What DecodeHex returns. -/
def DecH (s : ByteArray) : List UInt8 × Bool := if s.size % 2 = 0 ∧ ∀ i, i < s.size → 0 ≤ fx s i then ((List.range (s.size / 2)).map (pairAt s), true) else ([], false)

theorem DecH_odd (s : ByteArray) (h : s.size % 2 = 1) : DecH s = ([], false) := by unfold DecH; rw [if_neg (by omega)]
theorem DecH_bad (s : ByteArray) (i : Nat) (hi : i < s.size) (h : fx s i < 0) : DecH s = ([], false) := by
  unfold DecH; rw [if_neg (fun hh => by have := hh.2 i hi; omega)]
theorem DecH_good (s : ByteArray) (h : s.size % 2 = 0) (h2 : ∀ i, i < s.size → 0 ≤ fx s i) : DecH s = ((List.range (s.size / 2)).map (pairAt s), true) := by
  unfold DecH; rw [if_pos ⟨h, h2⟩]

/-- A string and a truth are returned; nothing that was there has turned. -/
def RetSB (w : World) (p : List UInt8 × Bool) (e : Ending) (w' : World) : Prop := e = .returned (.tuple #[.string ⟨p.1.toArray⟩, .bool p.2]) ∧ Below w.heap.size w w'

end Go.Proofs.YtgeegbbcjdlkbaaGreatDoor
