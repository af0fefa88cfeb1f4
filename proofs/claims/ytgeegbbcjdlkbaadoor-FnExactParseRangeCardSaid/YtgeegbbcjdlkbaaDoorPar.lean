/- What ParseInt of both packages returns, for every argument. -/
import Derived.Test.YtgeegbbcjdlkbaaDoorFmt
import Derived.Lib.OthersKept
import Derived.Laws.RangeAny
namespace Go.Proofs.YtgeegbbcjdlkbaaDoor
open Go.RowKit
set_option linter.unusedSimpArgs false
set_option linter.unusedVariables false
set_option maxRecDepth 100000

def isDig (b : UInt8) : Bool := decide (48 ≤ b.toNat) && decide (b.toNat ≤ 57)

/-- The number and the count of the digits among these bytes. -/
def accS (l : List UInt8) : Nat × Nat := l.foldl (fun p b => if isDig b then (p.1 * 10 + (b.toNat - 48), p.2 + 1) else p) (0, 0)

theorem accS_snoc (l : List UInt8) (b : UInt8) : accS (l ++ [b]) = if isDig b then ((accS l).1 * 10 + (b.toNat - 48), (accS l).2 + 1) else accS l := by simp [accS]

theorem accS_lt (l : List UInt8) : (accS l).1 < 10 ^ l.length ∧ (accS l).2 ≤ l.length := by
  suffices h : ∀ r : List UInt8, (accS r.reverse).1 < 10 ^ r.length ∧ (accS r.reverse).2 ≤ r.length by
    have := h l.reverse
    simpa using this
  intro r
  induction r with
  | nil => simp [accS]
  | cons b r ih =>
    rw [List.reverse_cons, accS_snoc]
    simp only [List.length_cons, Nat.pow_succ]
    split
    · rename_i hd
      simp [isDig] at hd
      exact ⟨by simp only; omega, by simp only; omega⟩
    · exact ⟨by omega, by omega⟩

/-- The number that the sign and the digits stand for. -/
def numS (L : List UInt8) : Int := if L.head? = some 45 then -((accS (L.take 11)).1 : Int) else ((accS (L.take 11)).1 : Int)

/-- What ParseInt returns. -/
def ParI (L : List UInt8) : Int × Bool := if (accS (L.take 11)).2 ≤ 9 ∧ L.length ≤ 10 ∧ Lib.itoa (numS L) = L then (numS L, true) else (0, false)

theorem numS_le (L : List UInt8) : -100000000000 < numS L ∧ numS L < 100000000000 := by
  have h := (accS_lt (L.take 11)).1
  have h2 : 10 ^ (L.take 11).length ≤ 10 ^ 11 := Nat.pow_le_pow_right (by omega) (by simp; omega)
  unfold numS
  split <;> omega

set_option maxHeartbeats 1000000 in
theorem sPI_any (s : ByteArray) (w : World) (hs : s.size ≤ 1048576) :
    Calls Tryd.prog 21 #[.string s] w (RetIB w (ParI s.data.toList)) := by
  go_enter Tryd.func21, Tryd.ntmps21
  go_wp2
  go_loopw [4, 5, 6] (fun nn kk i wr => ∃ (t n k : Nat), t ≤ 11 ∧ t ≤ s.size ∧ i = .int .i64 t ∧ nn = .int .i64 n ∧ kk = .int .i64 k ∧ Hid ((n, k) = accS (s.data.toList.take t)) ∧ w = wr) (fun _ _ i _ => 11 - (intOf i).toNat)
  case atStart => exact ⟨0, 0, 0, by omega, by omega, rfl, rfl, rfl, rfl, rfl⟩
  case round =>
    obtain ⟨t, n, k, ht11, hts, rfl, rfl, rfl, hacc, rfl⟩ := hrel
    have hb1 := accS_lt (s.data.toList.take t)
    have hb2 : 10 ^ (s.data.toList.take t).length ≤ 10 ^ 11 := Nat.pow_le_pow_right (by omega) (by simp; omega)
    rw [← hacc.out] at hb1
    have hn : n < 100000000000 := by have := hb1.1; simp only at this; omega
    have hk : k ≤ 11 := by have := hb1.2; simp at this; omega
    clear hb1 hb2
    by_cases hgo : t < 11 ∧ t < s.size
    · obtain ⟨h11, hl⟩ := hgo
      have hsn := accS_snoc (s.data.toList.take t) s[t]
      rw [← take_snoc s t hl, ← hacc.out] at hsn
      have HS := hide hsn
      clear hsn hacc
      by_cases c1 : 48 ≤ (s[t].toNat : Int)
      · by_cases c2 : (s[t].toNat : Int) ≤ 57
        · have hd : isDig s[t] = true := by simp [isDig]; omega
          go_wp2
          go_roundw
          case rel =>
            refine ⟨t + 1, n * 10 + (s[t].toNat - 48), k + 1, by omega, by omega, by go_num, ?_, by go_num, ?_, trivial⟩
            · have hby := s[t].toNat_lt
              go_num
            · show _ = _; rw [HS.out, hd]; rfl
          case measure => simp [intOf]; omega
        · have hd : isDig s[t] = false := by simp [isDig]; omega
          have c3 : decide ((s[t].toNat : Int) ≤ 57) = false := by simp; omega
          go_wp2
          go_roundw
          case rel => exact ⟨t + 1, n, k, by omega, by omega, by go_num, rfl, rfl, by show _ = _; rw [HS.out, hd]; rfl, trivial⟩
          case measure => simp [intOf]; omega
      · have hd : isDig s[t] = false := by simp [isDig]; omega
        go_wp2
        go_roundw
        case rel => exact ⟨t + 1, n, k, by omega, by omega, by go_num, rfl, rfl, by show _ = _; rw [HS.out, hd]; rfl, trivial⟩
        case measure => simp [intOf]; omega
    · have hsl : s.toList = s.data.toList := ByteArray.toList_eq s
      have hll : s.data.toList.length = s.size := by simp
      by_cases hbig : 10 < s.size
      · have hv : Hid (ParI s.data.toList = (0, false)) := by
          show _ = _
          unfold ParI; rw [if_neg (by rw [hll]; omega)]
        have hpos : 0 < s.size := by omega
        have hpos2 : (10 : Int) < (s.size : Int) := by omega
        clear hsl hll
        by_cases hts2 : t < s.size
        · have h11 : ¬ (t : Int) < 11 := by omega
          by_cases hk9 : k ≤ 9
          · go_wp2_with (go_at_call 12; refine (sFI_any _ _ (by omega) (by omega)).mono ?_; rintro e wa ⟨rfl, ha⟩)
            all_goals go_ret2
            all_goals exact ⟨by rw [hv.out]; rfl, Below.refl _ _⟩
          · go_wp2_with (go_at_call 12; refine (sFI_any _ _ (by omega) (by omega)).mono ?_; rintro e wa ⟨rfl, ha⟩)
            all_goals go_ret2
            all_goals exact ⟨by rw [hv.out]; rfl, Below.refl _ _⟩
        · by_cases hk9 : k ≤ 9
          · go_wp2_with (go_at_call 12; refine (sFI_any _ _ (by omega) (by omega)).mono ?_; rintro e wa ⟨rfl, ha⟩)
            all_goals go_ret2
            all_goals exact ⟨by rw [hv.out]; rfl, Below.refl _ _⟩
          · go_wp2_with (go_at_call 12; refine (sFI_any _ _ (by omega) (by omega)).mono ?_; rintro e wa ⟨rfl, ha⟩)
            all_goals go_ret2
            all_goals exact ⟨by rw [hv.out]; rfl, Below.refl _ _⟩
      · have hte : t = s.size := by omega
        subst hte
        rw [List.take_of_length_le (by omega)] at hacc
        have hnum : numS s.data.toList = if s.data.toList.head? = some 45 then -(n : Int) else (n : Int) := by
          unfold numS; rw [List.take_of_length_le (by omega), ← hacc.out]
        have hpar : ParI s.data.toList = if k ≤ 9 ∧ Lib.itoa (numS s.data.toList) = s.toList then (numS s.data.toList, true) else (0, false) := by
          unfold ParI
          rw [List.take_of_length_le (by omega), ← hacc.out, hsl]
          by_cases hh : k ≤ 9 ∧ Lib.itoa (numS s.data.toList) = s.data.toList
          · rw [if_pos ⟨hh.1, by omega, hh.2⟩, if_pos hh]
          · rw [if_neg (fun h3 => hh ⟨h3.1, h3.2.2⟩), if_neg hh]
        have key : ∀ (x : Int) (b : Bool), numS s.data.toList = x → (Lib.itoa x == s.toList) = b → k ≤ 9 → ParI s.data.toList = if b then (x, true) else (0, false) := by
          intro x b h1 h2 h3
          rw [hpar, h1]
          cases b
          · rw [if_neg (fun hh => by rw [hh.2] at h2; simp at h2)]; rfl
          · rw [if_pos ⟨h3, by simpa using h2⟩]; rfl
        have key2 : ¬ k ≤ 9 → ParI s.data.toList = (0, false) := by
          intro h3; rw [hpar, if_neg (fun hh => h3 hh.1)]
        have hs10 : (s.size : Int) ≤ 10 := by omega
        clear hpar hgo hbig
        by_cases hz : s.size = 0
        · have hhead : s.data.toList = [] := List.eq_nil_of_length_eq_zero (by omega)
          have hpos : ¬ 0 < s.size := by omega
          have hz2 := hide hz
          clear hz
          have hx : numS s.data.toList = (n : Int) := by rw [hnum, hhead]; rfl
          by_cases hk9 : k ≤ 9
          · obtain ⟨b, hbt⟩ : ∃ b, (Lib.itoa ((n : Int)) == s.toList) = b := ⟨_, rfl⟩
            have hv := hide (key _ b hx hbt hk9)
            clear key key2 hx hnum hacc hsl hll hhead
            cases b
            · go_wp2_with (go_at_call 12; refine (sFI_any _ _ (by omega) (by omega)).mono ?_; rintro e wa ⟨rfl, ha⟩)
              go_ret2
              exact ⟨by rw [hv.out]; rfl, ha⟩
            · go_wp2_with (go_at_call 12; refine (sFI_any _ _ (by omega) (by omega)).mono ?_; rintro e wa ⟨rfl, ha⟩)
              go_ret2
              exact ⟨by rw [hv.out]; rfl, ha⟩
          · have hv := hide (key2 hk9)
            clear key key2 hx hnum hacc hsl hll hhead
            go_wp2_with (go_at_call 12; refine (sFI_any _ _ (by omega) (by omega)).mono ?_; rintro e wa ⟨rfl, ha⟩)
            go_ret2
            exact ⟨by rw [hv.out]; rfl, Below.refl _ _⟩
        · have hpos : 0 < s.size := by omega
          have hhead : s.data.toList.head? = some (s[0]'hpos) := by
            rw [List.head?_eq_getElem?, List.getElem?_eq_getElem (by omega)]; rfl
          obtain ⟨b0, hb0⟩ : ∃ b0, (((s[0]'hpos).toNat : Int) == 45) = b0 := ⟨_, rfl⟩
          clear hz
          cases b0
          · have h45 : ¬ s[0]'hpos = 45 := by intro hh; rw [hh] at hb0; simp at hb0
            have hx : numS s.data.toList = (n : Int) := by rw [hnum, hhead, if_neg (fun hh => h45 (Option.some.inj hh))]
            by_cases hk9 : k ≤ 9
            · obtain ⟨b, hbt⟩ : ∃ b, (Lib.itoa ((n : Int)) == s.toList) = b := ⟨_, rfl⟩
              have hv := hide (key _ b hx hbt hk9)
              clear key key2 hx hnum hacc hsl hll hhead
              cases b
              · go_wp2_with (go_at_call 12; refine (sFI_any _ _ (by omega) (by omega)).mono ?_; rintro e wa ⟨rfl, ha⟩)
                go_ret2
                exact ⟨by rw [hv.out]; rfl, ha⟩
              · go_wp2_with (go_at_call 12; refine (sFI_any _ _ (by omega) (by omega)).mono ?_; rintro e wa ⟨rfl, ha⟩)
                go_ret2
                exact ⟨by rw [hv.out]; rfl, ha⟩
            · have hv := hide (key2 hk9)
              clear key key2 hx hnum hacc hsl hll hhead
              go_wp2_with (go_at_call 12; refine (sFI_any _ _ (by omega) (by omega)).mono ?_; rintro e wa ⟨rfl, ha⟩)
              go_ret2
              exact ⟨by rw [hv.out]; rfl, Below.refl _ _⟩
          · have h45 : s[0]'hpos = 45 := by
              apply UInt8.toNat_inj.1
              have : ((s[0]'hpos).toNat : Int) = 45 := by simpa using hb0
              show _ = 45
              omega
            have hx : numS s.data.toList = -(n : Int) := by rw [hnum, hhead, if_pos (by rw [h45])]
            by_cases hk9 : k ≤ 9
            · obtain ⟨b, hbt⟩ : ∃ b, (Lib.itoa (-(n : Int)) == s.toList) = b := ⟨_, rfl⟩
              have hv := hide (key _ b hx hbt hk9)
              clear key key2 hx hnum hacc hsl hll hhead
              cases b
              · go_wp2_with (go_at_call 12; refine (sFI_any _ _ (by omega) (by omega)).mono ?_; rintro e wa ⟨rfl, ha⟩)
                go_ret2
                exact ⟨by rw [hv.out]; rfl, ha⟩
              · go_wp2_with (go_at_call 12; refine (sFI_any _ _ (by omega) (by omega)).mono ?_; rintro e wa ⟨rfl, ha⟩)
                go_ret2
                exact ⟨by rw [hv.out]; rfl, ha⟩
            · have hv := hide (key2 hk9)
              clear key key2 hx hnum hacc hsl hll hhead
              go_wp2_with (go_at_call 12; refine (sFI_any _ _ (by omega) (by omega)).mono ?_; rintro e wa ⟨rfl, ha⟩)
              go_ret2
              exact ⟨by rw [hv.out]; rfl, Below.refl _ _⟩

end Go.Proofs.YtgeegbbcjdlkbaaDoor
