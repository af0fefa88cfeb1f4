/- What DecodeHex of both packages returns, for every argument. -/
import Derived.Test.YtklegjmahopkbaaHex
import Derived.Lib.OthersKept
import Derived.Laws.RangeAny
namespace Go.Proofs.Ytklegjmahopkbaa
open Go.RowKit
set_option linter.unusedSimpArgs false
set_option linter.unusedVariables false
set_option maxRecDepth 100000

/-- The value of a hexadecimal digit; -1 for anything else. -/
def fromHex (b : Int) : Int := if 48 ≤ b ∧ b ≤ 57 then b - 48 else if 97 ≤ b ∧ b ≤ 102 then b - 87 else -1

theorem fromHex_le (b : Int) : -1 ≤ fromHex b ∧ fromHex b ≤ 15 := by unfold fromHex; split <;> (try split) <;> omega

theorem hex_all : ∀ k : Fin 16, ∀ n : Fin 256, (((hexB[k.val]'k.isLt).toNat : Int) == (n.val : Int)) = (fromHex (n.val : Int) == (k.val : Int)) := by decide +kernel

theorem hex_at (k : Nat) (hk : k < 16) (b : Nat) (hb : b < 256) : (((hexB[k]'hk).toNat : Int) == (b : Int)) = (fromHex (b : Int) == (k : Int)) := hex_all ⟨k, hk⟩ ⟨b, hb⟩

set_option maxHeartbeats 1000000 in
theorem fh_any (b : Nat) (hb : b < 256) (w : World) : Calls Try.prog 24 #[.int .u8 b] w fun e w' => e = .returned (.int .i64 (fromHex b)) ∧ w = w' := by
  obtain ⟨x, hx⟩ : ∃ x, x = fromHex b := ⟨_, rfl⟩
  have hle := fromHex_le b
  have H := fun k hk => hex_at k hk b hb
  rw [← hx] at hle ⊢
  simp only [← hx] at H
  have HH := hide H
  clear H hx
  go_enter Try.func24, Try.ntmps24
  go_wp2
  go_loopw [3] (fun i wr => ∃ k : Nat, k ≤ 16 ∧ i = .int .i64 k ∧ Hid (∀ j < k, (x == (j : Int)) = false) ∧ w = wr) (fun i _ => 16 - (intOf i).toNat)
  case atStart => exact ⟨0, by omega, rfl, fun j hj => by omega, rfl⟩
  case round =>
    obtain ⟨k, hk, rfl, hno, rfl⟩ := hrel
    by_cases hlt : k < 16
    · have hat := HH.out k hlt
      by_cases he : x = k
      · have ht : (((hexB[k]'hlt).toNat : Int) == (b : Int)) = true := by rw [hat]; simp [he]
        have HE := hide he
        clear he hat
        go_wp2_with (go_at_call 23; refine (digit_any _ (by assumption) _).mono ?_; rintro e wa ⟨rfl, rfl⟩)
        go_ret
        exact ⟨by rw [HE.out]; rfl, rfl⟩
      · have ht : (((hexB[k]'hlt).toNat : Int) == (b : Int)) = false := by rw [hat]; simp [he]
        have HE := hide he
        clear he hat
        go_wp2_with (go_at_call 23; refine (digit_any _ (by assumption) _).mono ?_; rintro e wa ⟨rfl, rfl⟩)
        go_roundw
        case rel =>
          refine ⟨k + 1, by omega, by go_num, ?_, trivial⟩
          intro j hj
          by_cases hjk : j = k
          · subst hjk; simp [HE.out]
          · exact hno.out j (by omega)
        case measure => simp [intOf]; omega
    · have hk16 : k = 16 := by omega
      subst hk16
      have hx1 : Hid (x = -1) := by
        show x = -1
        by_cases h0 : x = -1
        · exact h0
        · have := hno.out x.toNat (by omega)
          simp at this
          omega
      clear hno
      go_wp2
      go_ret
      exact ⟨by rw [hx1.out]; rfl, rfl⟩

theorem hv_yes (r : Int) (w : World) (h0 : 0 ≤ r) (h1 : r ≤ 2147483647) (h : 0 ≤ fromHex r) : Calls Try.prog 25 #[.int .i32 r] w fun e w' => e = .returned (.tuple #[.int .u8 (fromHex r), .bool true]) ∧ w = w' := by
  by_cases h2 : 48 ≤ r ∧ r ≤ 57
  · have hv := hide (show fromHex r = r - 48 by unfold fromHex; rw [if_pos h2])
    obtain ⟨g1, g2⟩ := h2
    clear h
    go_enter Try.func25, Try.ntmps25
    go_wp2
    go_ret2
    exact ⟨by rw [hv.out]; rfl, rfl⟩
  · have h3 : 97 ≤ r ∧ r ≤ 102 := by unfold fromHex at h; rw [if_neg h2] at h; split at h <;> omega
    have hv := hide (show fromHex r = r - 87 by unfold fromHex; rw [if_neg h2, if_pos h3])
    obtain ⟨g1, g2⟩ := h3
    have g3 : 48 ≤ r := by omega
    have g4 : decide (r ≤ 57) = false := by simp; omega
    clear h h2
    go_enter Try.func25, Try.ntmps25
    go_wp2
    go_ret2
    exact ⟨by rw [hv.out]; go_num, rfl⟩

theorem hv_no (r : Int) (w : World) (h0 : 0 ≤ r) (h1 : r ≤ 2147483647) (h : fromHex r < 0) : Calls Try.prog 25 #[.int .i32 r] w fun e w' => e = .returned (.tuple #[.int .u8 0, .bool false]) ∧ w = w' := by
  have h2 : ¬ (48 ≤ r ∧ r ≤ 57) := by intro hh; unfold fromHex at h; rw [if_pos hh] at h; omega
  have h3 : ¬ (97 ≤ r ∧ r ≤ 102) := by intro hh; unfold fromHex at h; rw [if_neg h2, if_pos hh] at h; omega
  clear h
  by_cases g1 : r < 48
  · have g2 : r < 97 := by omega
    clear h2 h3
    go_enter Try.func25, Try.ntmps25
    go_wp2
    go_ret2
    exact ⟨rfl, rfl⟩
  · have g3 : 48 ≤ r := by omega
    have g4 : decide (r ≤ 57) = false := by simp; omega
    by_cases g5 : r < 97
    · clear h2 h3
      go_enter Try.func25, Try.ntmps25
      go_wp2
      go_ret2
      exact ⟨rfl, rfl⟩
    · have g6 : decide (r ≤ 102) = false := by simp; omega
      have g7 : 97 ≤ r := by omega
      clear h2 h3
      go_enter Try.func25, Try.ntmps25
      go_wp2
      go_ret2
      exact ⟨rfl, rfl⟩

/-- The value of the digit at i. -/
def fx (s : ByteArray) (i : Nat) : Int := fromHex (((s.data.toList.getD i 0).toNat : Nat) : Int)

theorem fx_at (s : ByteArray) (i : Nat) (h : i < s.size) : fx s i = fromHex ((s[i].toNat : Nat) : Int) := by
  unfold fx
  congr 3
  rw [List.getD_eq_getElem?_getD, List.getElem?_eq_getElem (by simpa using h)]
  rfl

def pairAt (s : ByteArray) (j : Nat) : UInt8 := UInt8.ofNat (16 * fx s (2 * j) + fx s (2 * j + 1)).toNat

/-- What DecodeHex returns. -/
def DecH (s : ByteArray) : List UInt8 × Bool := if s.size % 2 = 0 ∧ ∀ i, i < s.size → 0 ≤ fx s i then ((List.range (s.size / 2)).map (pairAt s), true) else ([], false)

theorem DecH_odd (s : ByteArray) (h : s.size % 2 = 1) : DecH s = ([], false) := by unfold DecH; rw [if_neg (by omega)]
theorem DecH_bad (s : ByteArray) (i : Nat) (hi : i < s.size) (h : fx s i < 0) : DecH s = ([], false) := by
  unfold DecH; rw [if_neg (fun hh => by have := hh.2 i hi; omega)]
theorem DecH_good (s : ByteArray) (h : s.size % 2 = 0) (h2 : ∀ i, i < s.size → 0 ≤ fx s i) : DecH s = ((List.range (s.size / 2)).map (pairAt s), true) := by
  unfold DecH; rw [if_pos ⟨h, h2⟩]

/-- A string and a truth are returned; nothing that was there has turned. -/
def RetSB (w : World) (p : List UInt8 × Bool) (e : Ending) (w' : World) : Prop := e = .returned (.tuple #[.string ⟨p.1.toArray⟩, .bool p.2]) ∧ Below w.heap.size w w'

set_option maxHeartbeats 1000000 in
theorem sDH_any (s : ByteArray) (w : World) (hs : s.size ≤ 1048576) :
    Calls Try.prog 19 #[.string s] w (RetSB w (DecH s)) := by
  by_cases hodd : s.size % 2 = 1
  · have hv := hide (DecH_odd s hodd)
    have ht : ((s.size : Int) % 2 == 1) = true := by simp; omega
    clear hodd
    go_enter Try.func19, Try.ntmps19
    go_wp2
    go_ret2
    exact ⟨by rw [hv.out]; rfl, (Below.refl _ _).alloc (Nat.le_refl _) _⟩
  · have heven := hide (show s.size % 2 = 0 by omega)
    have ht : ((s.size : Int) % 2 == 1) = false := by simp; omega
    clear hodd
    go_enter Try.func19, Try.ntmps19
    go_wp2
    go_loopw [4, 5, 6, 7] (fun v i _ _ wr => ∃ (i0 j : Nat), i = .int .i64 i0 ∧ Hid (i0 = 2 * j) ∧ i0 ≤ s.size ∧ Hid (∀ t, t < i0 → 0 ≤ fx s t) ∧ Bs wr w.heap.size 5 v ((List.range j).map (pairAt s)) ∧ Below w.heap.size w wr) (fun _ i _ _ _ => s.size - (intOf i).toNat)
    case atStart => exact ⟨0, 0, rfl, rfl, by omega, fun t h => by omega, Bs.made0 w _ _ (Nat.le_refl _), (Below.refl _ _).alloc (Nat.le_refl _) _⟩
    case round =>
      obtain ⟨i, j, rfl, hij, hi, hval, hown, hb⟩ := hrel
      have hsz := hb.size
      by_cases hl : i < s.size
      · have hl1 : i + 1 < s.size := by have := hij.out; have := heven.out; omega
        obtain ⟨a, ha⟩ : ∃ a, a = fx s i := ⟨_, rfl⟩
        obtain ⟨b, hb'⟩ : ∃ b, b = fx s (i + 1) := ⟨_, rfl⟩
        have hlea := fromHex_le (s[i].toNat : Nat)
        have hleb := fromHex_le (s[i + 1].toNat : Nat)
        have HA := hide (fun W => fh_any s[i].toNat s[i].toNat_lt W)
        have HB := hide (fun W => fh_any s[i + 1].toNat s[i + 1].toNat_lt W)
        rw [← fx_at s i hl, ← ha] at HA hlea
        rw [← fx_at s (i + 1) hl1, ← hb'] at HB hleb
        have Ha := hide ha
        have Hb := hide hb'
        clear ha hb'
        obtain ⟨ha1, ha2⟩ := hlea
        obtain ⟨hb1, hb2⟩ := hleb
        by_cases ca : a < 0
        · have hv := hide (DecH_bad s i hl (by rw [← Ha.out]; exact ca))
          go_wp2_with (first | (go_at_call 24; (with_reducible refine (HA.out _).mono ?_); rintro e wa ⟨rfl, rfl⟩) | (go_at_call 24; (with_reducible refine (HB.out _).mono ?_); rintro e wa ⟨rfl, rfl⟩))
          go_ret2
          exact ⟨by rw [hv.out]; rfl, hb⟩
        · by_cases cb : b < 0
          · have hv := hide (DecH_bad s (i + 1) hl1 (by rw [← Hb.out]; exact cb))
            go_wp2_with (first | (go_at_call 24; (with_reducible refine (HA.out _).mono ?_); rintro e wa ⟨rfl, rfl⟩) | (go_at_call 24; (with_reducible refine (HB.out _).mono ?_); rintro e wa ⟨rfl, rfl⟩))
            go_ret2
            exact ⟨by rw [hv.out]; rfl, hb⟩
          · have hlen : ((List.range j).map (pairAt s)).length ≤ 1048576 := by have := hij.out; simp; omega
            go_wp2_with (first | (go_at_call 24; (with_reducible refine (HA.out _).mono ?_); rintro e wa ⟨rfl, rfl⟩) | (go_at_call 24; (with_reducible refine (HB.out _).mono ?_); rintro e wa ⟨rfl, rfl⟩) | (at_builtin; refine bs_append _ rfl _ _ 36 rfl w.heap.size 5 Try.underlying36 infoB _ _ hown rfl _ _ (by omega) (by omega) rfl (by omega) (by omega) ?_; intro v2 w2 hown2 hb3))
            go_roundw
            case rel =>
              refine ⟨i + 2, j + 1, by go_num, by have := hij.out; show _ = _; omega, by omega, ?_, ?_, hb.trans hb3⟩
              · intro t hh
                by_cases h1 : t < i
                · exact hval.out t h1
                · by_cases h2 : t = i
                  · subst h2; rw [← Ha.out]; omega
                  · obtain rfl : t = i + 1 := by omega
                    rw [← Hb.out]; omega
              · rw [List.range_succ, List.map_append]
                have : pairAt s j = UInt8.ofNat (16 * a + b).toNat := by unfold pairAt; rw [← hij.out, ← Ha.out, ← Hb.out]
                simpa [this] using hown2
            case measure => simp [intOf]; omega
      · have hend : i = s.size := by omega
        subst hend
        have hv := hide (DecH_good s heven.out hval.out)
        have hj := hide (show j = s.size / 2 by have := hij.out; omega)
        have hcv := conv_bs (P := Try.prog) 36 9 5 Try.underlying36 Try.underlying5 Try.underlying9 wr _ _ _ hown
        go_wp2
        go_ret2
        exact ⟨by rw [hv.out, hj.out]; rfl, hb⟩

end Go.Proofs.Ytklegjmahopkbaa
