/- What is formatted is parsed again; l2Num of the reference. -/
import Derived.Test.YtgeegbbcjdlkbaaGreatDoorPar2
import Derived.Test.YtgeegbbcjdlkbaaGreatDoorInts
namespace Go.Proofs.YtgeegbbcjdlkbaaGreatDoor
open Go.RowKit
set_option linter.unusedSimpArgs false
set_option linter.unusedVariables false
set_option maxRecDepth 100000

theorem decDigits_val (u : Nat) : accS (Lib.decDigits u) = (u, Lib.nDigits u) := by
  induction u using Nat.strongRecOn with
  | _ u ih =>
    rw [Lib.decDigits, Lib.nDigits]
    split
    · rename_i h
      have hd := isDig_of u h
      have h2 : (UInt8.ofNat (48 + u)).toNat = 48 + u := by simp; omega
      have := accS_snoc [] (UInt8.ofNat (48 + u))
      rw [List.nil_append, if_pos hd, h2] at this
      rw [this]
      simp [accS]
    · rename_i h
      have hd := isDig_of (u % 10) (by omega)
      have h2 : (UInt8.ofNat (48 + u % 10)).toNat = 48 + u % 10 := by simp; omega
      rw [accS_snoc, if_pos hd, ih (u / 10) (by omega), h2]
      simp only [Prod.mk.injEq, and_true]
      omega

theorem itoa_strip (x : Int) : ∃ D neg, Strip (Lib.itoa x) D neg ∧ D = Lib.decDigits x.natAbs ∧ neg = decide (x < 0) := by
  by_cases h : x < 0
  · refine ⟨_, true, ?_, rfl, by simp [h]⟩
    show Lib.itoa x = 45 :: _
    unfold Lib.itoa; rw [if_pos h]
  · refine ⟨_, false, ⟨?_, ?_⟩, rfl, by simp [h]⟩
    · unfold Lib.itoa; rw [if_neg h]; congr 1; omega
    · unfold Lib.itoa; rw [if_neg h]; exact decDigits_head _

theorem nDigits_lt (u : Nat) : Lib.nDigits u ≤ 9 ↔ u < 1000000000 := by
  constructor
  · intro h
    have h1 := Lib.lt_pow_nDigits u
    have h2 : 10 ^ Lib.nDigits u ≤ 10 ^ 9 := Nat.pow_le_pow_right (by omega) h
    omega
  · intro h
    by_cases h9 : Lib.nDigits u ≤ 9
    · exact h9
    · exfalso
      have hp : ∀ (k u : Nat), Lib.nDigits u = k + 1 → 0 < k → 10 ^ k ≤ u := by
        intro k
        induction k with
        | zero => intro u _ h0; omega
        | succ k ih =>
          intro u hu _
          by_cases h10 : u < 10
          · rw [Lib.nDigits_small h10] at hu; omega
          · rw [Lib.nDigits_big h10] at hu
            by_cases hk : k = 0
            · subst hk; simp; omega
            · have := ih (u / 10) (by omega) (by omega)
              rw [Nat.pow_succ]
              omega
      obtain ⟨k, hk⟩ : ∃ k, Lib.nDigits u = k + 1 := ⟨Lib.nDigits u - 1, by omega⟩
      have h1 := hp k u hk (by omega)
      have h2 : 10 ^ 9 ≤ 10 ^ k := Nat.pow_le_pow_right (by omega) (by omega)
      omega

theorem par_back (x : Int) : ParI (Lib.itoa x) = if -1000000000 < x ∧ x < 1000000000 then (x, true) else (0, false) := by
  obtain ⟨D, neg, hs, hD, hn⟩ := itoa_strip x
  have hd : ∀ b ∈ D, isDig b = true := by rw [hD]; exact decDigits_all _
  have hl : D.length = Lib.nDigits x.natAbs := by rw [hD, Lib.decDigits_length]
  have hlt := nDigits_lt x.natAbs
  by_cases h : -1000000000 < x ∧ x < 1000000000
  · rw [if_pos h, par_fine hs (by omega) hd x (by rw [hD, decDigits_val, hn]; by_cases hx : x < 0 <;> simp [hx] <;> omega) true (by simp)]
    rfl
  · rw [if_neg h, par_long hs (by omega)]

def numP (w : List UInt8) : Int := if (ParI w).2 = true then (ParI w).1 else -100000

theorem par_itoa {w : List UInt8} (h : (ParI w).2 = true) : Lib.itoa (ParI w).1 = w := by
  unfold ParI at h ⊢
  split
  · rename_i hc; exact hc.2.2
  · rename_i hc; rw [if_neg hc] at h; cases h

theorem par_small {v : Int} (h : -999 ≤ v ∧ v ≤ 999) : ParI (Lib.itoa v) = (v, true) := by rw [par_back, if_pos (by omega)]

theorem itoa_bytes (x : Int) : ∀ b ∈ Lib.itoa x, b ≠ 10 ∧ b ≠ 32 := by
  obtain ⟨D, neg, hs, rfl, rfl⟩ := itoa_strip x
  intro b hb
  have hd : b = 45 ∨ isDig b = true := by
    unfold Strip at hs
    split at hs
    · rw [hs] at hb
      rcases List.mem_cons.1 hb with h | h
      · exact .inl h
      · exact .inr (decDigits_all _ b h)
    · rw [hs.1] at hb
      exact .inr (decDigits_all _ b hb)
  rcases hd with rfl | hd
  · exact ⟨by decide, by decide⟩
  · simp [isDig] at hd
    exact ⟨fun e => by subst e; simp at hd, fun e => by subst e; simp at hd⟩

end Go.Proofs.YtgeegbbcjdlkbaaGreatDoor
