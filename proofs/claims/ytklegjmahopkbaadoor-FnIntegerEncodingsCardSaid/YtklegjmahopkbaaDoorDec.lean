/- What DecodeFixed of both packages returns, for every argument. -/
import Derived.Test.YtklegjmahopkbaaDoorFix
namespace Go.Proofs.YtklegjmahopkbaaDoor
open Go.RowKit
set_option linter.unusedSimpArgs false
set_option linter.unusedVariables false

def decF (l : List UInt8) : Nat := l.foldl (fun a b => a * 256 + b.toNat) 0
theorem decF_snoc (l : List UInt8) (b : UInt8) : decF (l ++ [b]) = decF l * 256 + b.toNat := by simp [decF]
theorem decF_lt (l : List UInt8) : decF l < 256 ^ l.length := by
  suffices h : ∀ (l : List UInt8) (a k : Nat), a < 256 ^ k → l.foldl (fun a b => a * 256 + b.toNat) a < 256 ^ (k + l.length) by
    have := h l 0 0 (by simp)
    simpa [decF] using this
  intro l
  induction l with
  | nil => intro a k h; simpa using h
  | cons b l ih =>
    intro a k h
    have h2 := ih (a * 256 + b.toNat) (k + 1) (by have := b.toNat_lt; rw [Nat.pow_succ]; omega)
    simp only [List.foldl_cons, List.length_cons]
    rw [show k + (l.length + 1) = k + 1 + l.length by omega]
    exact h2
theorem decF_le (l : List UInt8) (h : l.length ≤ 6) : decF l ≤ 281474976710655 := by
  have h1 := decF_lt l
  have h2 : 256 ^ l.length ≤ 256 ^ 6 := Nat.pow_le_pow_right (by omega) h
  omega
theorem take_snoc (s : ByteArray) (k : Nat) (h : k < s.size) : s.data.toList.take (k + 1) = s.data.toList.take k ++ [s[k]] := by
  rw [List.take_succ_eq_append_getElem (by simpa using h)]; rfl

/-- A number and a truth are returned; nothing that was there has turned. -/
def RetIB (w : World) (p : Int × Bool) (e : Ending) (w' : World) : Prop := e = .returned (.tuple #[.int .i64 p.1, .bool p.2]) ∧ Below w.heap.size w w'

/-- What DecodeFixed returns. -/
def DecF (s : ByteArray) (width : Int) : Int × Bool := if 1 ≤ width ∧ width ≤ 7 ∧ width ≤ s.size then ((decF (s.data.toList.take width.toNat) : Int), true) else (0, false)

set_option maxHeartbeats 400000 in
theorem iDF_good (s : ByteArray) (width : Nat) (w : World) (h1 : 1 ≤ width) (h2 : width ≤ 7) (h3 : width ≤ s.size) (hs : s.size ≤ 9223372036854775807) :
    Calls Tryd.prog 13 #[.string s, .int .i64 width] w (RetIB w (DecF s width)) := by
  have hv : Hid (DecF s width = ((decF (s.data.toList.take width) : Int), true)) := by
    show DecF s width = _
    unfold DecF; rw [if_pos ⟨by omega, by omega, by omega⟩]; rfl
  have hd : decide (s.size < width) = false := by simp; omega
  go_enter Tryd.func13, Tryd.ntmps13
  go_wp2
  go_loopw [6, 18] (fun nn i wr => ∃ (k m : Nat), k ≤ width ∧ i = .int .i64 k ∧ nn = .int .i64 m ∧ Hid (m = decF (s.data.toList.take k)) ∧ Below w.heap.size w wr) (fun _ i _ => width - (intOf i).toNat)
  case atStart => exact ⟨0, 0, by omega, rfl, rfl, by simp [Hid, decF], Below.refl _ _⟩
  case round =>
    obtain ⟨k, m, hk, rfl, rfl, hmn, hb⟩ := hrel
    by_cases hlt : k < width
    · have hm : m ≤ 281474976710655 := by rw [hmn.out]; exact decF_le _ (by simp; omega)
      go_wp2
      go_roundw
      case rel => 
        refine ⟨k + 1, decF (s.data.toList.take (k + 1)), by omega, by go_num, ?_, rfl, hb⟩
        have hby := s[k].toNat_lt
        have hj := i64_join 8 (m * 256) s[k].toNat (by omega) (by omega) (by omega)
        rw [take_snoc s k (by omega), decF_snoc, ← hmn.out, wrap64_byte', show ((m : Int) * 256) = ((m * 256 : Nat) : Int) by omega, hj]
        go_num
      case measure => simp [intOf]; omega
    · have hkw : k = width := by omega
      subst hkw
      rw [← hmn.out] at hv
      clear hmn
      go_wp2
      go_ret2
      exact ⟨by rw [hv.out]; rfl, hb⟩

set_option maxHeartbeats 400000 in
theorem iDF_bad (s : ByteArray) (width : Int) (w : World) (h : width < 1 ∨ 7 < width ∨ (s.size : Int) < width) (hs : s.size ≤ 9223372036854775807) :
    Calls Tryd.prog 13 #[.string s, .int .i64 width] w (RetIB w (DecF s width)) := by
  have hv : Hid (DecF s width = (0, false)) := by
    show DecF s width = _
    unfold DecF; rw [if_neg (by omega)]
  by_cases h1 : 1 ≤ width
  · by_cases h2 : width ≤ 7
    · have h3 : (s.size : Int) < width := by omega
      go_enter Tryd.func13, Tryd.ntmps13
      go_wp2
      go_ret2
      exact ⟨by rw [hv.out]; rfl, Below.refl _ _⟩
    · go_enter Tryd.func13, Tryd.ntmps13
      go_wp2
      go_ret2
      exact ⟨by rw [hv.out]; rfl, Below.refl _ _⟩
  · go_enter Tryd.func13, Tryd.ntmps13
    go_wp2
    go_ret2
    exact ⟨by rw [hv.out]; rfl, Below.refl _ _⟩

theorem iDF_any (s : ByteArray) (width : Int) (w : World) (hs : s.size ≤ maxLen) : Calls Tryd.prog 13 #[.string s, .int .i64 width] w (RetIB w (DecF s width)) := by
  unfold maxLen at hs
  by_cases h : width < 1 ∨ 7 < width ∨ (s.size : Int) < width
  · exact iDF_bad s width w h (by omega)
  · obtain ⟨b, rfl⟩ := Int.eq_ofNat_of_zero_le (show 0 ≤ width by omega)
    exact iDF_good s b w (by omega) (by omega) (by omega) (by omega)

end Go.Proofs.YtklegjmahopkbaaDoor
