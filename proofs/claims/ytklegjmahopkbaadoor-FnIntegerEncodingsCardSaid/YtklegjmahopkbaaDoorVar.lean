/- What EncodeVarint of both packages returns, for every argument. -/
import Derived.Test.YtklegjmahopkbaaDoorDec
import Derived.Test.YtklegjmahopkbaaDoorIn
namespace Go.Proofs.YtklegjmahopkbaaDoor
open Go.RowKit
set_option linter.unusedSimpArgs false
set_option linter.unusedVariables false
set_option maxRecDepth 100000

/-- The groups of seven bits, the last one without 128; f more groups may come. -/
def encVn : Nat → Nat → List UInt8
  | 0, n => [UInt8.ofNat n]
  | f + 1, n => if n < 128 then [UInt8.ofNat n] else UInt8.ofNat (n % 128 + 128) :: encVn f (n / 128)

theorem encVn_small (f n : Nat) (h : n < 128) : encVn f n = [UInt8.ofNat n] := by
  cases f
  · rfl
  · simp [encVn, h]

theorem encVn_big (f n : Nat) (h : 128 ≤ n) (h2 : n < 128 ^ (f + 1)) : ∃ g, f = g + 1 ∧ encVn f n = UInt8.ofNat (n % 128 + 128) :: encVn g (n / 128) ∧ n / 128 < 128 ^ (g + 1) := by
  cases f with
  | zero => simp at h2; omega
  | succ g =>
    refine ⟨g, rfl, by simp [encVn, Nat.not_lt.2 h], ?_⟩
    rw [Nat.pow_succ] at h2
    exact Nat.div_lt_of_lt_mul (by omega)

/-- What EncodeVarint returns. -/
def EncV (n : Int) : List UInt8 := if 0 ≤ n ∧ n ≤ 562949953421311 then encVn 6 n.toNat else []

set_option maxHeartbeats 400000 in
theorem iEV_good (n : Nat) (w : World) (h2 : n ≤ 562949953421311) :
    Calls Tryd.prog 9 #[.int .i64 n] w (RetS w (EncV n)) := by
  have hv : Hid (EncV n = encVn 6 n) := by
    show EncV n = _
    unfold EncV; rw [if_pos (by omega)]; simp
  have g1 : 0 ≤ (n : Int) := by omega
  have g2 : (n : Int) ≤ 562949953421311 := by omega
  have g3 : decide ((n : Int) < 0) = false := by simp
  have g4 : decide (562949953421311 < (n : Int)) = false := by simp; omega
  go_enter Tryd.func9, Tryd.ntmps9
  go_wp2_with (first | (at_make; refine bs_make0 _ rfl _ _ 22 rfl w.heap.size 5 Tryd.underlying22 infoB 7 _ rfl rfl rfl (by omega) (Nat.le_refl _) ?_; intro w1 hown1 hb1) | go_in)
  go_loopw [0, 3] (fun nn v wr => ∃ (m f : Nat) (acc : List UInt8), nn = .int .i64 m ∧ m ≤ 562949953421311 ∧ Hid (m < 128 ^ (f + 1)) ∧ f ≤ 6 ∧ acc.length + f = 6 ∧ Hid (acc ++ encVn f m = encVn 6 n) ∧ Bs wr w.heap.size 5 v acc ∧ Below w.heap.size w wr) (fun nn _ _ => (intOf nn).toNat)
  case atStart => exact ⟨n, 6, [], rfl, h2, by show n < _; omega, by omega, rfl, rfl, hown1, hb1⟩
  case round =>
    obtain ⟨m, f, acc, rfl, hm, hf, hf6, hlen, hacc, hown, hb⟩ := hrel
    have hsz := hb.size
    clear hown1 hb1
    have hlen' : acc.length ≤ 6 := by omega
    have hL := hide hlen
    clear hlen
    by_cases hbig : 128 ≤ m
    · obtain ⟨g, hfg, he, hg⟩ := encVn_big f m hbig hf.out
      have hacc' := hacc.out
      rw [he] at hacc'
      have HA := hide hacc'
      have HG := hide hg
      have HF := hide hfg
      clear hacc hacc' he hg hfg hf
      go_wp2_with (first | (at_builtin; refine bs_append _ rfl _ _ 22 rfl w.heap.size 5 Tryd.underlying22 infoB _ acc hown rfl _ _ (by omega) (by omega) rfl (by omega) (by omega) ?_; intro v2 w2 hown2 hb2) | go_in)
      go_roundw
      case rel =>
        refine ⟨m / 128, g, acc ++ [UInt8.ofNat (m % 128 + 128)], by go_num, by omega, HG, by have := HF.out; omega, by have := HF.out; have := hL.out; simp; omega, by rw [List.append_assoc]; exact HA, ?_, hb.trans hb2⟩
        have e : ((m : Int) % 128 + 128 : Int).toNat = m % 128 + 128 := by omega
        rw [e] at hown2
        exact hown2
      case measure => simp [intOf]; omega
    · have hacc' := hacc.out
      rw [encVn_small f m (by omega)] at hacc'
      have HA := hide hacc'
      clear hacc hacc' hf
      go_wp2_with (first | (at_builtin; refine bs_append _ rfl _ _ 22 rfl w.heap.size 5 Tryd.underlying22 infoB _ acc hown rfl _ _ (by omega) (by omega) rfl (by omega) (by omega) ?_; intro v2 w2 hown2 hb2; have hcv := conv_bs (P := Tryd.prog) 22 9 5 Tryd.underlying22 Tryd.underlying5 Tryd.underlying9 w2 _ _ _ hown2) | go_in)
      go_ret
      refine ⟨?_, hb.trans hb2⟩
      rw [hv.out, ← HA.out]
      rfl
theorem EncV_no (n : Int) (h : n < 0 ∨ 562949953421311 < n) : EncV n = [] := by unfold EncV; rw [if_neg (by omega)]

theorem iEV_any (n : Int) (w : World) : Calls Tryd.prog 9 #[.int .i64 n] w (RetS w (EncV n)) := by
  by_cases h : n < 0
  · have hv := hide (EncV_no n (.inl h))
    go_enter Tryd.func9, Tryd.ntmps9
    go_wp2
    go_ret
    exact ⟨by rw [hv.out]; rfl, Below.refl _ _⟩
  · by_cases h2 : 562949953421311 < n
    · have hv := hide (EncV_no n (.inr h2))
      go_enter Tryd.func9, Tryd.ntmps9
      go_wp2
      go_ret
      exact ⟨by rw [hv.out]; rfl, Below.refl _ _⟩
    · obtain ⟨a, rfl⟩ := Int.eq_ofNat_of_zero_le (show 0 ≤ n by omega)
      exact iEV_good a w (by omega)

end Go.Proofs.YtklegjmahopkbaaDoor
