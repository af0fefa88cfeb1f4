/- What DecodeVarint of both packages returns, for every argument. -/
import Derived.Test.YtgeegbbcjdlkbaaGreatDoorVar
import Derived.Deep.RegionWith
namespace Go.Proofs.YtgeegbbcjdlkbaaGreatDoor
open Go.RowKit
set_option linter.unusedSimpArgs false
set_option linter.unusedVariables false
set_option maxRecDepth 100000

/-- The number that groups of seven bits stand for, the least first. -/
def valV : List UInt8 → Nat
  | [] => 0
  | b :: r => b.toNat % 128 + 128 * valV r

theorem valV_snoc (l : List UInt8) (b : UInt8) : valV (l ++ [b]) = valV l + 128 ^ l.length * (b.toNat % 128) := by
  induction l with
  | nil => simp [valV]
  | cons a l ih => simp only [List.cons_append, valV, ih, List.length_cons, Nat.pow_succ]; rw [Nat.mul_add, Nat.mul_comm (128 ^ l.length) 128, Nat.mul_assoc]; omega
theorem valV_lt (l : List UInt8) : valV l < 128 ^ l.length := by
  induction l with
  | nil => simp [valV]
  | cons a l ih => simp only [valV, List.length_cons, Nat.pow_succ]; omega

theorem encVn_shape (f n : Nat) (h : n < 128 ^ (f + 1)) : ∃ a b, encVn f n = a ++ [b] ∧ (∀ x ∈ a, 128 ≤ x.toNat) ∧ b.toNat < 128 := by
  induction f generalizing n with
  | zero => exact ⟨[], UInt8.ofNat n, rfl, by simp, by simp at h ⊢; omega⟩
  | succ f ih =>
    by_cases hn : n < 128
    · exact ⟨[], UInt8.ofNat n, by simp [encVn, hn], by simp, by simp; omega⟩
    · have hd : n / 128 < 128 ^ (f + 1) := by rw [Nat.pow_succ] at h; exact Nat.div_lt_of_lt_mul (by omega)
      obtain ⟨a, b, h1, h2, h3⟩ := ih (n / 128) hd
      refine ⟨UInt8.ofNat (n % 128 + 128) :: a, b, by simp [encVn, hn, h1], ?_, h3⟩
      intro x hx
      rcases List.mem_cons.1 hx with rfl | hx
      · simp; omega
      · exact h2 x hx

/-- The first k bytes are a varint. -/
def okV (L : List UInt8) (k : Nat) : Prop := EncV (valV (L.take k)) = L.take k

theorem valV_take_lt (L : List UInt8) (k : Nat) (hk : k ≤ 7) : valV (L.take k) ≤ 562949953421311 := by
  have h1 := valV_lt (L.take k)
  have h2 : 128 ^ (L.take k).length ≤ 128 ^ 7 := Nat.pow_le_pow_right (by omega) (by simp; omega)
  omega

theorem okV_shape {L : List UInt8} {j : Nat} (hj : j < L.length) (h7 : j < 7) (h : okV L (j + 1)) : (L[j]).toNat < 128 ∧ ∀ i (hi : i < j), 128 ≤ (L[i]'(by omega)).toNat := by
  have hm := valV_take_lt L (j + 1) (by omega)
  obtain ⟨a, b, h1, h2, h3⟩ := encVn_shape 6 (valV (L.take (j + 1))) (by omega)
  unfold okV at h
  have e : EncV (valV (L.take (j + 1)) : Nat) = encVn 6 (valV (L.take (j + 1))) := by unfold EncV; rw [if_pos (by omega)]; simp
  rw [e, h1] at h
  have hlen : a.length = j := by
    have := congrArg List.length h
    simp at this
    omega
  constructor
  · have h4 : (L.take (j + 1))[j]? = some b := by rw [← h, List.getElem?_append_right (by omega)]; simp [hlen]
    rw [List.getElem?_take_of_lt (by omega), List.getElem?_eq_getElem hj] at h4
    have h5 : L[j] = b := by simpa using h4
    rw [h5]; exact h3
  · intro i hi
    have h4 : (L.take (j + 1))[i]? = some (a[i]'(by omega)) := by rw [← h, List.getElem?_append_left (by omega)]; simp
    rw [List.getElem?_take_of_lt (by omega), List.getElem?_eq_getElem (by omega)] at h4
    have h5 : L[i] = a[i]'(by omega) := by simpa using h4
    rw [h5]; exact h2 _ (List.getElem_mem _)

open Classical in
/-- Search from index i on, f places. -/
noncomputable def goV (L : List UInt8) : Nat → Nat → Int × Int
  | 0, _ => (0, 0)
  | f + 1, i => if i < L.length ∧ okV L (i + 1) then ((valV (L.take (i + 1)) : Int), (i : Int) + 1) else goV L f (i + 1)

/-- What DecodeVarint returns. -/
noncomputable def DecV (L : List UInt8) : Int × Int := goV L 7 0

theorem goV_end (L : List UInt8) : ∀ (f i : Nat), L.length ≤ i → goV L f i = (0, 0)
  | 0, _, _ => rfl
  | f + 1, i, h => by rw [goV, if_neg (by omega)]; exact goV_end L f (i + 1) (by omega)
theorem goV_hit {L : List UInt8} {f i : Nat} (hf : 0 < f) (hi : i < L.length) (h : okV L (i + 1)) : goV L f i = ((valV (L.take (i + 1)) : Int), (i : Int) + 1) := by
  obtain ⟨g, rfl⟩ : ∃ g, f = g + 1 := ⟨f - 1, by omega⟩
  rw [goV, if_pos ⟨hi, h⟩]
theorem goV_miss {L : List UInt8} {f i : Nat} (hf : 0 < f) (h : ¬ okV L (i + 1)) : goV L f i = goV L (f - 1) (i + 1) := by
  obtain ⟨g, rfl⟩ : ∃ g, f = g + 1 := ⟨f - 1, by omega⟩
  rw [goV, if_neg (fun hh => h hh.2)]; rfl
theorem goV_dead {L : List UInt8} {c : Nat} (hc : c < L.length) (hL : (L[c]).toNat < 128) : ∀ (f i : Nat), c < i → i + f ≤ 7 → goV L f i = (0, 0)
  | 0, _, _, _ => rfl
  | f + 1, i, h, h7 => by
    rw [goV, if_neg ?_]
    · exact goV_dead hc hL f (i + 1) (by omega) (by omega)
    · intro hh
      have := (okV_shape hh.1 (by omega) hh.2).2 c h
      omega

/-- Two numbers are returned; nothing that was there has turned. -/
def RetII (w : World) (p : Int × Int) (e : Ending) (w' : World) : Prop := e = .returned (.tuple #[.int .i64 p.1, .int .i64 p.2]) ∧ Below w.heap.size w w'

theorem drop_step (L : List UInt8) (k j : Nat) (hj : j < k) (hk : k ≤ L.length) : valV ((L.take k).drop j) = valV ((L.take k).drop (j + 1)) * 128 + (L[j]'(by omega)).toNat % 128 := by
  have hlen : j < (L.take k).length := by simp; omega
  rw [List.drop_eq_getElem_cons hlen]
  simp only [valV, List.getElem_take]
  omega
theorem valV_drop_lt (L : List UInt8) (k j : Nat) (hk : k ≤ 7) : valV ((L.take k).drop j) ≤ 562949953421311 := by
  have h1 := valV_lt ((L.take k).drop j)
  have h2 : 128 ^ ((L.take k).drop j).length ≤ 128 ^ 7 := Nat.pow_le_pow_right (by omega) (by simp; omega)
  omega
theorem valV_drop_lt' (L : List UInt8) (k j : Nat) (hk : k ≤ 7) (hj : 0 < j) : valV ((L.take k).drop j) ≤ 4398046511103 := by
  have h1 := valV_lt ((L.take k).drop j)
  have h2 : 128 ^ ((L.take k).drop j).length ≤ 128 ^ 6 := Nat.pow_le_pow_right (by omega) (by simp; omega)
  omega

theorem okV_test {s : ByteArray} {k m : Nat} (hm : m = valV (s.data.toList.take k)) (b : Bool) (h : (EncV (m : Int) == (s.extract 0 k).toList) = b) : okV s.data.toList k ↔ b = true := by
  rw [ByteArray.toList_eq, ByteArray.data_extract] at h
  unfold okV
  rw [← hm, ← h]
  simp

theorem dec_ends {L : List UInt8} {i : Nat} (hi : i < L.length) (h : 128 ≤ (L[i]).toNat) (h7 : i < 7) : ¬ okV L (i + 1) := by
  intro hh
  have := (okV_shape hi h7 hh).1
  omega

theorem or_step (s : ByteArray) (k m : Nat) (hk : k < 7) (hl : k < s.size) (hm : m = valV (s.data.toList.take k)) :
    bits .or .i64 (m : Int) (wrap64 ((s[k].toNat : Int) % 128 * 2 ^ (7 * k))) = ((valV (s.data.toList.take (k + 1)) : Nat) : Int) := by
  have e : (2 : Nat) ^ (7 * k) = 128 ^ k := by rw [Nat.pow_mul]
  have hp : 128 ^ k ≤ 128 ^ 6 := Nat.pow_le_pow_right (by omega) (by omega)
  have hlen : (s.data.toList.take k).length = k := by simp; omega
  have hm2 : m < 128 ^ k := by rw [hm]; have := valV_lt (s.data.toList.take k); rw [hlen] at this; exact this
  have hx : s[k].toNat % 128 * 128 ^ k ≤ 127 * 128 ^ 6 := Nat.mul_le_mul (by omega) hp
  have e2 : ((s[k].toNat : Int) % 128 * 2 ^ (7 * k)) = ((s[k].toNat % 128 * 128 ^ k : Nat) : Int) := by
    rw [← e]; simp
  rw [e2, IntWalk.wrap64_in _ (by omega), i64_or_nat m _ (by omega) (by omega), Nat.or_comm, nat_join (7 * k) _ m (by rw [e]; exact Nat.mul_mod_left _ _) (by rw [e]; exact hm2)]
  rw [take_snoc s k hl, valV_snoc, hlen, ← hm, Nat.mul_comm (s[k].toNat % 128), Nat.add_comm]

theorem okV_test1 {s : ByteArray} {k m : Nat} (hm : m = valV (s.data.toList.take (k + 1))) (b : Bool) (h : (EncV (m : Int) == (s.extract 0 (k + 1)).toList) = b) : okV s.data.toList (k + 1) ↔ b = true := okV_test hm b h

end Go.Proofs.YtgeegbbcjdlkbaaGreatDoor
