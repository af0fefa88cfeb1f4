/- What EncodeFixed and DecodeFixed of both packages return, for every argument. -/
import Derived.Test.YtklegjmahopkbaaDoorKit
namespace Go.Proofs.YtklegjmahopkbaaDoor
open Go.RowKit
set_option linter.unusedSimpArgs false
set_option linter.unusedVariables false

theorem infoB : (Tryd.prog.info? 5).map (fun i => (i.zero, i.size, i.bytes)) = some (some (.int .u8 0), 1, 1) := by kernel_rfl

def encF (n : Nat) : Nat → List UInt8
  | 0 => []
  | k + 1 => UInt8.ofNat (n / 256 ^ k % 256) :: encF n k
theorem div_pow_succ (n k : Nat) : n / 256 ^ k / 256 = n / 256 ^ (k + 1) := by rw [Nat.div_div_eq_div_mul, Nat.pow_succ]
theorem encF_length (n k : Nat) : (encF n k).length = k := by induction k <;> simp [encF, *]

/-- What EncodeFixed returns. -/
def EncF (n width : Int) : List UInt8 := if 1 ≤ width ∧ width ≤ 7 ∧ 0 ≤ n ∧ n.toNat / 256 ^ width.toNat = 0 then encF n.toNat width.toNat else []

theorem EncF_yes (n width : Nat) (h1 : 1 ≤ width) (h2 : width ≤ 7) (h : n / 256 ^ width = 0) : EncF n width = encF n width := by
  unfold EncF; rw [if_pos ⟨by omega, by omega, by omega, by simpa using h⟩]; simp
theorem EncF_big (n width : Nat) (h : n / 256 ^ width ≠ 0) : EncF n width = [] := by
  unfold EncF; rw [if_neg (fun hh => h (by simpa using hh.2.2.2))]
theorem EncF_no (n width : Int) (h : width < 1 ∨ 7 < width ∨ n < 0) : EncF n width = [] := by
  unfold EncF; rw [if_neg (by omega)]

/-- A string is returned; nothing that was there has turned. -/
def RetS (w : World) (l : List UInt8) (e : Ending) (w' : World) : Prop := e = .returned (.string ⟨l.toArray⟩) ∧ Below w.heap.size w w'

set_option maxHeartbeats 400000 in
theorem sEF_good (n : Nat) (width : Nat) (w : World) (h1 : 1 ≤ width) (h2 : width ≤ 7) (h4 : n ≤ 9223372036854775807) :
    Calls Tryd.prog 14 #[.int .i64 n, .int .i64 width] w (RetS w (EncF n width)) := by
  go_enter Tryd.func14, Tryd.ntmps14
  go_wp2
  go_loopw [0, 5, 6] (fun nn out i wr => ∃ (k m : Nat), k ≤ width ∧ i = .int .i64 k ∧ m ≤ 9223372036854775807 ∧ nn = .int .i64 m ∧ Hid (m = n / 256 ^ k) ∧ out = .string ⟨(encF n k).toArray⟩ ∧ (encF n k).length ≤ k ∧ Below w.heap.size w wr) (fun _ _ i _ => width - (intOf i).toNat)
  case atStart => exact ⟨0, n, by omega, rfl, h4, rfl, by simp [Hid], rfl, by simp [encF], Below.refl _ _⟩
  case round =>
    obtain ⟨k, m, hk, rfl, hm, rfl, hmn, rfl, hl, hb⟩ := hrel
    have hsz := hb.size
    by_cases hlt : k < width
    · have hcv := conv_one (P := Tryd.prog) 22 9 5 Tryd.underlying22 Tryd.underlying5 Tryd.underlying9 wr ((m : Int) % 256) (by omega) (by omega)
      go_wp2
      go_roundw
      case rel =>
        refine ⟨k + 1, m / 256, by omega, by go_num, by omega, by go_num, ?_, ?_, ?_, hb.alloc hsz _⟩
        · show m / 256 = _
          rw [← div_pow_succ, ← hmn.out]
        · rw [str_cons]
          simp only [encF]
          rw [← hmn.out]
        · simp [encF]; omega
      case measure => simp [intOf]; omega
    · have hkw : k = width := by omega
      subst hkw
      by_cases h0 : m = 0
      · have hv : Hid (EncF n k = encF n k) := EncF_yes n k h1 h2 (by rw [← hmn.out]; exact h0)
        subst h0
        clear hmn
        go_wp2
        go_ret
        exact ⟨by rw [hv.out]; rfl, hb⟩
      · have hv : Hid (EncF n k = []) := EncF_big n k (by rw [← hmn.out]; exact h0)
        have h0' : 0 < m := by omega
        go_wp2
        go_ret
        exact ⟨by rw [hv.out]; rfl, hb⟩

set_option maxHeartbeats 400000 in
theorem sEF_bad (n width : Int) (w : World) (h : width < 1 ∨ 7 < width ∨ n < 0) :
    Calls Tryd.prog 14 #[.int .i64 n, .int .i64 width] w (RetS w (EncF n width)) := by
  have hv : Hid (EncF n width = []) := EncF_no n width h
  rcases h with h | h | h
  · have h1 : ¬ 1 ≤ width := by omega
    go_enter Tryd.func14, Tryd.ntmps14
    go_wp2
    go_ret
    exact ⟨by rw [hv.out]; rfl, Below.refl _ _⟩
  · have h1 : 1 ≤ width := by omega
    have h2 : ¬ width ≤ 7 := by omega
    go_enter Tryd.func14, Tryd.ntmps14
    go_wp2
    go_ret
    exact ⟨by rw [hv.out]; rfl, Below.refl _ _⟩
  · by_cases h1 : 1 ≤ width
    · by_cases h2 : width ≤ 7
      · go_enter Tryd.func14, Tryd.ntmps14
        go_wp2
        go_ret
        exact ⟨by rw [hv.out]; rfl, Below.refl _ _⟩
      · go_enter Tryd.func14, Tryd.ntmps14
        go_wp2
        go_ret
        exact ⟨by rw [hv.out]; rfl, Below.refl _ _⟩
    · go_enter Tryd.func14, Tryd.ntmps14
      go_wp2
      go_ret
      exact ⟨by rw [hv.out]; rfl, Below.refl _ _⟩

theorem sEF_any (n width : Int) (w : World) (h4 : n ≤ 9223372036854775807) : Calls Tryd.prog 14 #[.int .i64 n, .int .i64 width] w (RetS w (EncF n width)) := by
  by_cases h : width < 1 ∨ 7 < width ∨ n < 0
  · exact sEF_bad n width w h
  · obtain ⟨a, rfl⟩ := Int.eq_ofNat_of_zero_le (show 0 ≤ n by omega)
    obtain ⟨b, rfl⟩ := Int.eq_ofNat_of_zero_le (show 0 ≤ width by omega)
    exact sEF_good a b w (by omega) (by omega) (by omega)

theorem rep_set (a j : Nat) (x : UInt8) (l : List UInt8) (h : j + 1 = a) : (List.replicate a (0 : UInt8) ++ l).set j x = List.replicate j 0 ++ (x :: l) := by
  subst h
  rw [List.set_append_left _ _ (by simp), List.replicate_succ', List.set_append_right _ _ (by simp)]
  simp

theorem shr_zero {n width : Nat} (h : ((n : Int) / 2 ^ (8 * width) != 0) = false) : n / 256 ^ width = 0 := by
  have e : (2 : Nat) ^ (8 * width) = 256 ^ width := by rw [Nat.pow_mul]
  have h1 : ((n : Int) / 2 ^ (8 * width)) = ((n / 256 ^ width : Nat) : Int) := by rw [← e]; simp
  rw [h1, bne_eq_false_iff_eq] at h
  exact Int.natCast_eq_zero.1 h
theorem shr_more {n width : Nat} (h : ((n : Int) / 2 ^ (8 * width) != 0) = true) : n / 256 ^ width ≠ 0 := by
  have e : (2 : Nat) ^ (8 * width) = 256 ^ width := by rw [Nat.pow_mul]
  have h1 : ((n : Int) / 2 ^ (8 * width)) = ((n / 256 ^ width : Nat) : Int) := by rw [← e]; simp
  rw [h1] at h
  intro h0
  rw [h0] at h
  simp at h

set_option maxHeartbeats 400000 in
theorem iEF_good (n : Nat) (width : Nat) (w : World) (h1 : 1 ≤ width) (h2 : width ≤ 7) (h4 : n ≤ 9223372036854775807) (h5 : ((n : Int) / 2 ^ (8 * width) != 0) = false) :
    Calls Tryd.prog 12 #[.int .i64 n, .int .i64 width] w (RetS w (EncF n width)) := by
  have hv : Hid (EncF n width = encF n width) := EncF_yes n width h1 h2 (shr_zero h5)
  go_enter Tryd.func12, Tryd.ntmps12
  go_wp2_with (first | (at_make; refine bs_make _ rfl _ _ 22 rfl w.heap.size 5 Tryd.underlying22 infoB width _ _ rfl rfl rfl rfl (by omega) (Nat.le_refl _) ?_; intro w1 hown1 hb1 hs1) | go_in)
  go_loopw [0, 6] (fun nn i wr => ∃ (k m : Nat), k ≤ width ∧ i = .int .i64 ((width : Int) - 1 - k) ∧ m ≤ 9223372036854775807 ∧ nn = .int .i64 m ∧ Hid (m = n / 256 ^ k) ∧ Bs wr w.heap.size 5 (.slice (some ⟨w.heap.size, 0, none⟩) width width) (List.replicate (width - k) 0 ++ encF n k) ∧ Below w.heap.size w wr) (fun _ i _ => (intOf i + 1).toNat)
  case atStart => exact ⟨0, n, by omega, by go_num, h4, rfl, by simp [Hid], by simpa [encF] using hown1, hb1⟩
  case round =>
    obtain ⟨k, m, hk, rfl, hm, rfl, hmn, hown, hb⟩ := hrel
    have hsz := hb.size
    clear hown1 hb1
    by_cases hlt : k < width
    · obtain ⟨hc, hf, hg1, hg2, -⟩ := hown.cell (width - 1 - k) (by simp [encF_length]; omega)
      go_wp2
      go_roundw
      case rel =>
        refine ⟨k + 1, m / 256, by omega, by go_num, by omega, by go_num, ?_, ?_, hb.setCell (Nat.le_refl _) _⟩
        · show m / 256 = _
          rw [← div_pow_succ, ← hmn.out]
        · have hst := (hown.store (by simp [encF_length]; omega) (width - 1 - k) (x := (m : Int) % 256) (by omega) (by omega)).1
          rw [rep_set (width - k) (width - 1 - k) _ _ (by omega)] at hst
          rw [show width - (k + 1) = width - 1 - k by omega, encF, ← hmn.out]
          exact hst
      case measure => simp [intOf]; omega
    · have hkw : k = width := by omega
      subst hkw
      have hcv := conv_bs (P := Tryd.prog) 22 9 5 Tryd.underlying22 Tryd.underlying5 Tryd.underlying9 wr _ _ _ hown
      go_wp2
      go_ret
      exact ⟨by rw [hv.out]; simp, hb⟩

set_option maxHeartbeats 400000 in
theorem iEF_big (n : Nat) (width : Nat) (w : World) (h1 : 1 ≤ width) (h2 : width ≤ 7) (h4 : n ≤ 9223372036854775807) (h5 : ((n : Int) / 2 ^ (8 * width) != 0) = true) :
    Calls Tryd.prog 12 #[.int .i64 n, .int .i64 width] w (RetS w (EncF n width)) := by
  have hv : Hid (EncF n width = []) := EncF_big n width (shr_more h5)
  go_enter Tryd.func12, Tryd.ntmps12
  go_wp2
  go_ret
  exact ⟨by rw [hv.out]; rfl, Below.refl _ _⟩

set_option maxHeartbeats 400000 in
theorem iEF_bad (n width : Int) (w : World) (h : width < 1 ∨ 7 < width ∨ n < 0) :
    Calls Tryd.prog 12 #[.int .i64 n, .int .i64 width] w (RetS w (EncF n width)) := by
  have hv : Hid (EncF n width = []) := EncF_no n width h
  rcases h with h | h | h
  · have h1 : ¬ 1 ≤ width := by omega
    go_enter Tryd.func12, Tryd.ntmps12
    go_wp2
    go_ret
    exact ⟨by rw [hv.out]; rfl, Below.refl _ _⟩
  · have h1 : 1 ≤ width := by omega
    have h2 : ¬ width ≤ 7 := by omega
    go_enter Tryd.func12, Tryd.ntmps12
    go_wp2
    go_ret
    exact ⟨by rw [hv.out]; rfl, Below.refl _ _⟩
  · by_cases h1 : 1 ≤ width
    · by_cases h2 : width ≤ 7
      · go_enter Tryd.func12, Tryd.ntmps12
        go_wp2
        go_ret
        exact ⟨by rw [hv.out]; rfl, Below.refl _ _⟩
      · go_enter Tryd.func12, Tryd.ntmps12
        go_wp2
        go_ret
        exact ⟨by rw [hv.out]; rfl, Below.refl _ _⟩
    · go_enter Tryd.func12, Tryd.ntmps12
      go_wp2
      go_ret
      exact ⟨by rw [hv.out]; rfl, Below.refl _ _⟩

theorem iEF_any (n width : Int) (w : World) (h4 : n ≤ 9223372036854775807) : Calls Tryd.prog 12 #[.int .i64 n, .int .i64 width] w (RetS w (EncF n width)) := by
  by_cases h : width < 1 ∨ 7 < width ∨ n < 0
  · exact iEF_bad n width w h
  · obtain ⟨a, rfl⟩ := Int.eq_ofNat_of_zero_le (show 0 ≤ n by omega)
    obtain ⟨b, rfl⟩ := Int.eq_ofNat_of_zero_le (show 0 ≤ width by omega)
    cases h5 : ((a : Int) / 2 ^ (8 * b) != 0)
    · exact iEF_good a b w (by omega) (by omega) (by omega) h5
    · exact iEF_big a b w (by omega) (by omega) (by omega) h5

end Go.Proofs.YtklegjmahopkbaaDoor
