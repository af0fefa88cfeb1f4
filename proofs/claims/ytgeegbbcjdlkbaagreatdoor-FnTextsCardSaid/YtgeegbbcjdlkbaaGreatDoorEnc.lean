/- What was encoded is decoded again, whatever follows: about lists of bytes alone. -/
import Derived.Test.YtgeegbbcjdlkbaaGreatDoorDecV
import Derived.Test.YtgeegbbcjdlkbaaGreatDoorUnhex2
import Derived.Test.YtgeegbbcjdlkbaaGreatDoorParB
namespace Go.Proofs.YtgeegbbcjdlkbaaGreatDoor
open Go.RowKit
set_option linter.unusedSimpArgs false
set_option linter.unusedVariables false
set_option maxRecDepth 100000

theorem valV_enc (f n : Nat) (h : n < 128 ^ (f + 1)) : valV (encVn f n) = n := by
  induction f generalizing n with
  | zero => simp at h; simp [encVn, valV]; omega
  | succ f ih =>
    by_cases hn : n < 128
    · simp [encVn, hn, valV] <;> omega
    · have hd : n / 128 < 128 ^ (f + 1) := by rw [Nat.pow_succ] at h; exact Nat.div_lt_of_lt_mul (by omega)
      have e : (UInt8.ofNat (n % 128 + 128)).toNat = n % 128 + 128 := by simp; omega
      simp only [encVn, hn, if_false, valV, ih _ hd, e]
      omega

theorem encVn_length (f n : Nat) : (encVn f n).length ≤ f + 1 := by
  induction f generalizing n with
  | zero => simp [encVn]
  | succ f ih =>
    simp only [encVn]
    split
    · simp
    · simp only [List.length_cons]; have := ih (n / 128); omega

theorem decV_enc (n : Nat) (hn : n ≤ 562949953421311) (t : List UInt8) : EncV (n : Int) ≠ [] ∧ (EncV (n : Int)).length ≤ 7 ∧ DecV (EncV (n : Int) ++ t) = ((n : Int), ((EncV (n : Int)).length : Int)) := by
  have e : EncV (n : Int) = encVn 6 n := by unfold EncV; rw [if_pos (by omega)]; simp
  obtain ⟨a, b, h1, h2, h3⟩ := encVn_shape 6 n (by omega)
  have hl := encVn_length 6 n
  have hv := valV_enc 6 n (by omega)
  rw [e]
  refine ⟨by rw [h1]; simp, by omega, ?_⟩
  have hal : a.length ≤ 6 := by rw [h1] at hl; simp at hl; omega
  have hlen : (encVn 6 n).length = a.length + 1 := by rw [h1]; simp
  have htake : (encVn 6 n ++ t).take (a.length + 1) = encVn 6 n := by rw [← hlen]; exact List.take_left
  have step : ∀ i, i ≤ a.length → DecV (encVn 6 n ++ t) = goV (encVn 6 n ++ t) (7 - i) i := by
    intro i
    induction i with
    | zero => intro _; rfl
    | succ i ih =>
      intro hi
      rw [ih (by omega)]
      have hil : i < (encVn 6 n ++ t).length := by simp; omega
      have hge : 128 ≤ ((encVn 6 n ++ t)[i]).toNat := by
        have e2 : (encVn 6 n ++ t)[i] = a[i]'(by omega) := by
          have e3 : (encVn 6 n ++ t)[i]? = a[i]? := by
            rw [List.getElem?_append_left (by omega), h1, List.getElem?_append_left (by omega)]
          rw [List.getElem?_eq_getElem hil, List.getElem?_eq_getElem (by omega)] at e3
          exact Option.some.inj e3
        rw [e2]; exact h2 _ (List.getElem_mem _)
      rw [goV_miss (by omega) (dec_ends hil hge (by omega)), show 7 - i - 1 = 7 - (i + 1) by omega]
  rw [step a.length (Nat.le_refl _), goV_hit (by omega) (by simp; omega) (by unfold okV; rw [htake, hv, e]), htake, hv, hlen]
  rfl

theorem decF_append (a b : List UInt8) : decF (a ++ b) = decF a * 256 ^ b.length + decF b := by
  suffices h : ∀ (b : List UInt8) (x : Nat), b.foldl (fun a b => a * 256 + b.toNat) x = x * 256 ^ b.length + decF b by
    rw [decF, List.foldl_append, h b]; rfl
  intro b
  induction b with
  | nil => intro x; simp [decF]
  | cons c b ih =>
    intro x
    have hc : decF (c :: b) = c.toNat * 256 ^ b.length + decF b := by
      have := ih c.toNat
      simpa [decF] using this
    rw [List.foldl_cons, ih, hc, List.length_cons, Nat.pow_succ, Nat.add_mul, Nat.mul_assoc, Nat.mul_comm 256 (256 ^ b.length), Nat.add_assoc]

theorem decF_enc (n k : Nat) : decF (encF n k) = n % 256 ^ k := by
  induction k with
  | zero => simp [encF, decF, Nat.mod_one]
  | succ k ih =>
    have h := decF_append [UInt8.ofNat (n / 256 ^ k % 256)] (encF n k)
    rw [List.singleton_append] at h
    rw [encF, h, encF_length, ih]
    have e : decF [UInt8.ofNat (n / 256 ^ k % 256)] = n / 256 ^ k % 256 := by simp [decF]
    rw [e, Nat.pow_succ, Nat.mod_mul, Nat.mul_comm, Nat.add_comm]

theorem encF_back (w width : Int) (t : List UInt8) (h : EncF w width ≠ []) : DecF ⟨(EncF w width ++ t).toArray⟩ width = (w, true) ∧ ((EncF w width).length : Int) = width := by
  have hc : 1 ≤ width ∧ width ≤ 7 ∧ 0 ≤ w ∧ w.toNat / 256 ^ width.toNat = 0 := by
    by_cases hc : 1 ≤ width ∧ width ≤ 7 ∧ 0 ≤ w ∧ w.toNat / 256 ^ width.toNat = 0
    · exact hc
    · exact absurd (by unfold EncF; rw [if_neg hc]) h
  have e : EncF w width = encF w.toNat width.toNat := by unfold EncF; rw [if_pos hc]
  obtain ⟨h1, h2, h3, h4⟩ := hc
  have hl : (EncF w width).length = width.toNat := by rw [e, encF_length]
  refine ⟨?_, by omega⟩
  unfold DecF
  rw [if_pos ⟨h1, h2, by simp [ByteArray.size]; omega⟩]
  have ht : (EncF w width ++ t).take width.toNat = EncF w width := by rw [← hl]; exact List.take_left
  show (((decF ((EncF w width ++ t).take width.toNat) : Nat) : Int), true) = (w, true)
  have hlt : w.toNat < 256 ^ width.toNat := by
    rcases Nat.div_eq_zero_iff.1 h4 with h5 | h5
    · exact absurd h5 (Nat.ne_of_gt (Nat.pow_pos (by omega)))
    · exact h5
  rw [ht, e, decF_enc, Nat.mod_eq_of_lt hlt]
  congr 1
  omega

theorem hexOf_get (l : List UInt8) (j : Nat) (hj : j < l.length) : (hexOf l)[2 * j]? = some (hexB[(l[j]).toNat / 16 % 16]'(Nat.mod_lt _ (by decide))) ∧ (hexOf l)[2 * j + 1]? = some (hexB[(l[j]).toNat % 16]'(Nat.mod_lt _ (by decide))) := by
  induction l generalizing j with
  | nil => simp at hj
  | cons a l ih =>
    cases j with
    | zero => exact ⟨rfl, rfl⟩
    | succ j =>
      have := ih j (by simp at hj; omega)
      simp only [hexOf, List.flatMap_cons] at this ⊢
      rw [List.getElem?_append_right (by simp; omega), List.getElem?_append_right (by simp; omega)]
      simp only [List.length_cons, List.length_nil, List.getElem_cons_succ]
      rw [show 2 * (j + 1) - (0 + 1 + 1) = 2 * j by omega, show 2 * (j + 1) + 1 - (0 + 1 + 1) = 2 * j + 1 by omega]
      exact this

theorem fromHex_digit (q : Nat) (hq : q < 16) : fromHex ((hexB[q]'hq).toNat : Int) = q := by
  have h := hex_at q hq (hexB[q]'hq).toNat (hexB[q]'hq).toNat_lt
  simpa using h

theorem hex_back (l : List UInt8) : DecH ⟨(hexOf l).toArray⟩ = (l, true) := by
  have hsz : (ByteArray.mk (hexOf l).toArray).size = 2 * l.length := by simp [ByteArray.size, hexOf_length]
  have hf : ∀ j (hj : j < l.length), fx ⟨(hexOf l).toArray⟩ (2 * j) = ((l[j]).toNat / 16 : Nat) ∧ fx ⟨(hexOf l).toArray⟩ (2 * j + 1) = ((l[j]).toNat % 16 : Nat) := by
    intro j hj
    obtain ⟨h1, h2⟩ := hexOf_get l j hj
    have hb := (l[j]).toNat_lt
    unfold fx
    simp only [List.getD_eq_getElem?_getD, h1, h2, Option.getD_some]
    exact ⟨by rw [fromHex_digit]; omega, by rw [fromHex_digit]⟩
  rw [DecH_good _ (by omega)]
  · congr 1
    rw [hsz]
    apply List.ext_getElem
    · simp
    · intro j h1 h2
      simp only [List.getElem_map, List.getElem_range]
      unfold pairAt
      obtain ⟨e1, e2⟩ := hf j h2
      have hb := (l[j]).toNat_lt
      rw [e1, e2, show (16 * (((l[j]).toNat / 16 : Nat) : Int) + (((l[j]).toNat % 16 : Nat) : Int)).toNat = (l[j]).toNat by omega]
      simp
  · intro i hi
    rw [hsz] at hi
    obtain ⟨e1, e2⟩ := hf (i / 2) (by omega)
    by_cases h : i % 2 = 0
    · rw [show i = 2 * (i / 2) by omega, e1]; omega
    · rw [show i = 2 * (i / 2) + 1 by omega, e2]; omega

end Go.Proofs.YtgeegbbcjdlkbaaGreatDoor
