/- The walk of the law FnIntegerEncodings. -/
import Derived.Test.YtklegjmahopkbaaDoorEnc
import Derived.Test.YtklegjmahopkbaaDoorDraw
namespace Go.Proofs.YtklegjmahopkbaaDoor
open Go.RowKit
set_option linter.unusedSimpArgs false
set_option linter.unusedVariables false
set_option maxRecDepth 100000

theorem big_no (a : Option Addr) (len cap : Nat) (w : World) (h : len ≤ 1048576) : Calls Tryd.prog 6 #[.slice a len cap] w fun e w' => e = .returned (.bool false) ∧ w = w' := by
  have h2 : decide (1048576 < (len : Int)) = false := by simp; omega
  go_enter Tryd.func6, Tryd.ntmps6
  go_wp2
  go_ret
  exact ⟨rfl, rfl⟩
theorem big_yes (a : Option Addr) (len cap : Nat) (w : World) (h : 1048576 < len) : Calls Tryd.prog 6 #[.slice a len cap] w fun e w' => e = .returned (.bool true) ∧ w = w' := by
  have h2 : decide (1048576 < (len : Int)) = true := by simp; omega
  go_enter Tryd.func6, Tryd.ntmps6
  go_wp2
  go_ret
  exact ⟨rfl, rfl⟩

theorem parse_back (x : Int) (x1 : -9223372036854775808 ≤ x) (x2 : x ≤ 9223372036854775807) : ∃ (z : Int) (good : Bool), Hid (∀ W : World, Tab W → Calls Tryd.prog 18 #[.string ⟨(Lib.itoa x).toArray⟩] W fun e w' => e = .returned (.tuple #[.int .i64 z, .bool good]) ∧ Below W.heap.size W w') ∧
    ((good = true ∧ z = x ∧ -1000000000 < x ∧ x < 1000000000) ∨ (good = false ∧ x ≤ -1000000000) ∨ (good = false ∧ 1000000000 ≤ x)) := by
  have key : ∀ W : World, Tab W → Calls Tryd.prog 18 #[.string ⟨(Lib.itoa x).toArray⟩] W fun e w' => e = .returned (.tuple #[.int .i64 (if -1000000000 < x ∧ x < 1000000000 then (x, true) else (0, false) : Int × Bool).1, .bool (if -1000000000 < x ∧ x < 1000000000 then (x, true) else (0, false) : Int × Bool).2]) ∧ Below W.heap.size W w' := by
    intro W hTW
    refine (iPI_any _ W (by have := itoa_len x x1 x2; simp [ByteArray.size]; omega) hTW).mono fun e w' hh => ?_
    obtain ⟨h1, h2⟩ := hh
    have e1 : (ByteArray.mk (Lib.itoa x).toArray).data.toList = Lib.itoa x := rfl
    rw [e1, par_back] at h1
    exact ⟨h1, h2⟩
  by_cases hc : -1000000000 < x ∧ x < 1000000000
  · simp only [if_pos hc] at key
    exact ⟨_, _, key, .inl ⟨rfl, rfl, hc.1, hc.2⟩⟩
  · simp only [if_neg hc] at key
    refine ⟨_, _, key, .inr ?_⟩
    by_cases h : x ≤ -1000000000
    · exact .inl ⟨rfl, h⟩
    · exact .inr ⟨rfl, by omega⟩

theorem EncF_len (x y : Int) : (EncF x y).length ≤ 7 := by
  unfold EncF
  split
  · rw [encF_length]; omega
  · simp

set_option maxHeartbeats 16000000 in
theorem intEnc_walk (w : World) (v0 : Value) (w0 : CodeV w v0) (ht : Tab w) :
    Calls Tryd.prog 3 #[v0] w fun e w' => e = .returned (.bool true) ∧ Below w.heap.size w w' := by
  obtain ⟨a, len, cap, rfl, hcode⟩ := w0
  have HC := hide hcode
  have HT := hide ht
  clear hcode ht
  by_cases hbig : len ≤ 1048576
  · go_enter Tryd.func3, Tryd.ntmps3
    go_wp2_with fail
    refine (big_no a len cap _ hbig).mono ?_
    rintro e wx ⟨rfl, rfl⟩
    go_wp2_with fail
    refine (drawVarint_any a len cap _ HC.out hbig).mono ?_
    rintro e w1 ⟨n, n1, n2, rfl, hb⟩
    have B1 := hide hb
    clear hb
    go_wp2_with fail
    refine (drawHex_any a len cap _ (HC.out.below B1.out (Nat.le_refl _)) hbig).mono ?_
    rintro e w2 ⟨t, t1, rfl, hb⟩
    have B2 := hide (B1.out.trans (hb.mono B1.out.size))
    clear hb
    have HH : Hid (∀ W : World, Calls Tryd.prog 16 #[.string ⟨(hexOf t).toArray⟩] W fun e w' => e = .returned (.tuple #[.string ⟨t.toArray⟩, .bool true]) ∧ Below W.heap.size W w') := by
      intro W
      refine (iDH_any _ W (by simp [ByteArray.size, hexOf_length]; omega)).mono fun e w' hh => ?_
      obtain ⟨h1, h2⟩ := hh
      rw [hex_back] at h1
      exact ⟨h1, h2⟩
    have hxl : (((hexOf t).length : Int) == 2 * (t.length : Int)) = true := by rw [hexOf_length]; simp
    have hxl2 : (hexOf t).length ≤ 80 := by rw [hexOf_length]; omega
    go_wp2_with fail
    refine (iEV_any n _).mono ?_
    rintro e w3 ⟨rfl, hb⟩
    have B3 := hide (B2.out.trans (hb.mono B2.out.size))
    clear hb
    by_cases hn : 0 ≤ n ∧ n ≤ 562949953421311
    · obtain ⟨hn0, hn1⟩ := hn
      obtain ⟨m, rfl⟩ := Int.eq_ofNat_of_zero_le hn0
      obtain ⟨hne, hl7, hdec⟩ := decV_enc m (by omega) t
      obtain ⟨S, hS⟩ : ∃ S, S = EncV (m : Int) := ⟨_, rfl⟩
      rw [← hS] at hne hl7 hdec ⊢
      clear hS
      cases S with
      | nil => exact absurd rfl hne
      | cons c r =>
        have hr6 : r.length ≤ 6 := by simpa using hl7
        have HV : Hid (∀ W : World, Calls Tryd.prog 10 #[.string (⟨(c :: r).toArray⟩ ++ ⟨t.toArray⟩)] W fun e w' => e = .returned (.tuple #[.int .i64 (m : Int), .int .i64 ((r.length : Int) + 1)]) ∧ Below W.heap.size W w') := by
          intro W
          refine (iDV_any _ W (by simp [ByteArray.size]; omega)).mono fun e w' hh => ?_
          have e1 : (ByteArray.mk (c :: r).toArray ++ ByteArray.mk t.toArray).data.toList = c :: r ++ t := by rw [ByteArray.mk_append_mk]
          obtain ⟨h1, h2⟩ := hh
          rw [e1, hdec] at h1
          exact ⟨by rw [h1]; simp, h2⟩
        clear hdec hl7 hne
        go_wp2_with fail
        refine (HV.out _).mono ?_
        rintro e w4 ⟨rfl, hb⟩
        have B4 := hide (B3.out.trans (hb.mono B3.out.size))
        clear hb
        go_wp2_with fail
        refine (drawFixed_any a len cap _ (HC.out.below B4.out (Nat.le_refl _)) hbig).mono ?_
        rintro e w5 ⟨x, y, x1, x2, y1, y2, rfl, hb⟩
        obtain ⟨z, good, HP, hcase⟩ := parse_back x x1 x2
        have B5 := hide (B4.out.trans (hb.mono B4.out.size))
        clear hb
        go_wp2_with fail
        refine (iEF_any x y _ x2).mono ?_
        rintro e w6 ⟨rfl, hb⟩
        have B6 := hide (B5.out.trans (hb.mono B5.out.size))
        clear hb
        have HE := hide (fun W => sEF_any x y W x2)
        have hback := encF_back x y t
        have hFl : (EncF x y).length ≤ 7 := EncF_len x y
        obtain ⟨F, hF⟩ : ∃ F, F = EncF x y := ⟨_, rfl⟩
        rw [← hF] at HE hback hFl ⊢
        clear hF
        obtain ⟨⟨u, v⟩, huv⟩ : ∃ p, p = DecF ⟨(F ++ t).toArray⟩ y := ⟨_, rfl⟩
        have HV2 : Hid (∀ W : World, Calls Tryd.prog 13 #[.string (⟨F.toArray⟩ ++ ⟨t.toArray⟩), .int .i64 y] W fun e w' => e = .returned (.tuple #[.int .i64 u, .bool v]) ∧ Below W.heap.size W w') := by
          intro W
          refine (iDF_any _ y W (by unfold maxLen; simp [ByteArray.size]; omega)).mono fun e w' hh => ?_
          obtain ⟨h1, h2⟩ := hh
          rw [ByteArray.mk_append_mk, ← huv] at h1
          exact ⟨h1, h2⟩
        rw [← huv] at hback
        clear huv
        cases F with
        | nil =>
          clear hback
          go_wp2_with fail
          refine (HV2.out _).mono ?_
          rintro e w7 ⟨rfl, hb⟩
          have B6' := hide (B6.out.trans (hb.mono B6.out.size))
          clear hb
          go_wp2_with fail
          refine (HE.out _).mono ?_
          rintro e w7b ⟨rfl, hb⟩
          have B7 := hide (B6'.out.trans (hb.mono B6'.out.size))
          clear hb
          go_wp2_with fail
          refine (iEH_any _ _ (by simp [ByteArray.size]; omega)).mono ?_
          rintro e w8 ⟨rfl, hb⟩
          have B8 := hide (B7.out.trans (hb.mono B7.out.size))
          clear hb
          go_wp2_with fail
          refine (HH.out _).mono ?_
          rintro e w9 ⟨rfl, hb⟩
          have B9 := hide (B8.out.trans (hb.mono B8.out.size))
          clear hb
          go_wp2_with fail
          refine (iFI_any x _ x1 x2 (HT.out.stays B9.out (Nat.le_refl _))).mono ?_
          rintro e w10 ⟨rfl, hb⟩
          have B10 := hide (B9.out.trans (hb.mono B9.out.size))
          clear hb
          go_wp2_with fail
          refine (HP.out _ (HT.out.stays B10.out (Nat.le_refl _))).mono ?_
          rintro e w11 ⟨rfl, hb⟩
          have B11 := hide (B10.out.trans (hb.mono B10.out.size))
          clear hb
          go_wp2_with fail
          refine (sFI_any x _ x1 x2).mono ?_
          rintro e w12 ⟨rfl, hb⟩
          have B12 := hide (B11.out.trans (hb.mono B11.out.size))
          clear hb
          rcases hcase with ⟨rfl, rfl, q1, q2⟩ | ⟨rfl, q1⟩ | ⟨rfl, q1⟩
          · go_wp2_with fail
            go_ret
            exact ⟨rfl, B12.out⟩
          · go_wp2_with fail
            go_ret
            exact ⟨rfl, B12.out⟩
          · have q2 : -1000000000 < x := by omega
            have q3 : decide (x < 1000000000) = false := by simp; omega
            go_wp2_with fail
            go_ret
            exact ⟨rfl, B12.out⟩
        | cons f g =>
          obtain ⟨hb1, hb2⟩ := hback (by simp)
          simp only [Prod.mk.injEq] at hb1
          obtain ⟨hu, rfl⟩ := hb1; obtain rfl : x = u := hu.symm
          have hgl : (g.length : Int) + 1 = y := by simpa using hb2
          have hg6 : g.length ≤ 6 := by simpa using hFl
          subst hgl
          clear hb2 hFl hback
          go_wp2_with fail
          refine (HV2.out _).mono ?_
          rintro e w7 ⟨rfl, hb⟩
          have B6' := hide (B6.out.trans (hb.mono B6.out.size))
          clear hb
          go_wp2_with fail
          refine (HE.out _).mono ?_
          rintro e w7b ⟨rfl, hb⟩
          have B7 := hide (B6'.out.trans (hb.mono B6'.out.size))
          clear hb
          go_wp2_with fail
          refine (iEH_any _ _ (by simp [ByteArray.size]; omega)).mono ?_
          rintro e w8 ⟨rfl, hb⟩
          have B8 := hide (B7.out.trans (hb.mono B7.out.size))
          clear hb
          go_wp2_with fail
          refine (HH.out _).mono ?_
          rintro e w9 ⟨rfl, hb⟩
          have B9 := hide (B8.out.trans (hb.mono B8.out.size))
          clear hb
          go_wp2_with fail
          refine (iFI_any x _ x1 x2 (HT.out.stays B9.out (Nat.le_refl _))).mono ?_
          rintro e w10 ⟨rfl, hb⟩
          have B10 := hide (B9.out.trans (hb.mono B9.out.size))
          clear hb
          go_wp2_with fail
          refine (HP.out _ (HT.out.stays B10.out (Nat.le_refl _))).mono ?_
          rintro e w11 ⟨rfl, hb⟩
          have B11 := hide (B10.out.trans (hb.mono B10.out.size))
          clear hb
          go_wp2_with fail
          refine (sFI_any x _ x1 x2).mono ?_
          rintro e w12 ⟨rfl, hb⟩
          have B12 := hide (B11.out.trans (hb.mono B11.out.size))
          clear hb
          rcases hcase with ⟨rfl, rfl, q1, q2⟩ | ⟨rfl, q1⟩ | ⟨rfl, q1⟩
          · go_wp2_with fail
            go_ret
            exact ⟨rfl, B12.out⟩
          · go_wp2_with fail
            go_ret
            exact ⟨rfl, B12.out⟩
          · have q2 : -1000000000 < x := by omega
            have q3 : decide (x < 1000000000) = false := by simp; omega
            go_wp2_with fail
            go_ret
            exact ⟨rfl, B12.out⟩
    · have hv := EncV_no n (by omega)
      rw [hv]
      clear hv
      obtain ⟨⟨p, q⟩, hpq⟩ : ∃ p, p = DecV t := ⟨_, rfl⟩
      have HV : Hid (∀ W : World, Calls Tryd.prog 10 #[.string (⟨#[]⟩ ++ ⟨t.toArray⟩)] W fun e w' => e = .returned (.tuple #[.int .i64 p, .int .i64 q]) ∧ Below W.heap.size W w') := by
        intro W
        refine (iDV_any _ W (by simp [ByteArray.size]; omega)).mono fun e w' hh => ?_
        have e1 : (ByteArray.mk #[] ++ ByteArray.mk t.toArray).data.toList = t := by simp
        obtain ⟨h1, h2⟩ := hh
        rw [e1, ← hpq] at h1
        exact ⟨h1, h2⟩
      clear hpq
      have hcase : n < 0 ∨ (0 ≤ n ∧ 562949953421311 < n) := by omega
      rcases hcase with c1 | ⟨c1, c2⟩
      · clear hn
        go_wp2_with fail
        refine (HV.out _).mono ?_
        rintro e w4 ⟨rfl, hb⟩
        have B4 := hide (B3.out.trans (hb.mono B3.out.size))
        clear hb
        go_wp2_with fail
        refine (drawFixed_any a len cap _ (HC.out.below B4.out (Nat.le_refl _)) hbig).mono ?_
        rintro e w5 ⟨x, y, x1, x2, y1, y2, rfl, hb⟩
        obtain ⟨z, good, HP, hcase⟩ := parse_back x x1 x2
        have B5 := hide (B4.out.trans (hb.mono B4.out.size))
        clear hb
        go_wp2_with fail
        refine (iEF_any x y _ x2).mono ?_
        rintro e w6 ⟨rfl, hb⟩
        have B6 := hide (B5.out.trans (hb.mono B5.out.size))
        clear hb
        have HE := hide (fun W => sEF_any x y W x2)
        have hback := encF_back x y t
        have hFl : (EncF x y).length ≤ 7 := EncF_len x y
        obtain ⟨F, hF⟩ : ∃ F, F = EncF x y := ⟨_, rfl⟩
        rw [← hF] at HE hback hFl ⊢
        clear hF
        obtain ⟨⟨u, v⟩, huv⟩ : ∃ p, p = DecF ⟨(F ++ t).toArray⟩ y := ⟨_, rfl⟩
        have HV2 : Hid (∀ W : World, Calls Tryd.prog 13 #[.string (⟨F.toArray⟩ ++ ⟨t.toArray⟩), .int .i64 y] W fun e w' => e = .returned (.tuple #[.int .i64 u, .bool v]) ∧ Below W.heap.size W w') := by
          intro W
          refine (iDF_any _ y W (by unfold maxLen; simp [ByteArray.size]; omega)).mono fun e w' hh => ?_
          obtain ⟨h1, h2⟩ := hh
          rw [ByteArray.mk_append_mk, ← huv] at h1
          exact ⟨h1, h2⟩
        rw [← huv] at hback
        clear huv
        cases F with
        | nil =>
          clear hback
          go_wp2_with fail
          refine (HV2.out _).mono ?_
          rintro e w7 ⟨rfl, hb⟩
          have B6' := hide (B6.out.trans (hb.mono B6.out.size))
          clear hb
          go_wp2_with fail
          refine (HE.out _).mono ?_
          rintro e w7b ⟨rfl, hb⟩
          have B7 := hide (B6'.out.trans (hb.mono B6'.out.size))
          clear hb
          go_wp2_with fail
          refine (iEH_any _ _ (by simp [ByteArray.size]; omega)).mono ?_
          rintro e w8 ⟨rfl, hb⟩
          have B8 := hide (B7.out.trans (hb.mono B7.out.size))
          clear hb
          go_wp2_with fail
          refine (HH.out _).mono ?_
          rintro e w9 ⟨rfl, hb⟩
          have B9 := hide (B8.out.trans (hb.mono B8.out.size))
          clear hb
          go_wp2_with fail
          refine (iFI_any x _ x1 x2 (HT.out.stays B9.out (Nat.le_refl _))).mono ?_
          rintro e w10 ⟨rfl, hb⟩
          have B10 := hide (B9.out.trans (hb.mono B9.out.size))
          clear hb
          go_wp2_with fail
          refine (HP.out _ (HT.out.stays B10.out (Nat.le_refl _))).mono ?_
          rintro e w11 ⟨rfl, hb⟩
          have B11 := hide (B10.out.trans (hb.mono B10.out.size))
          clear hb
          go_wp2_with fail
          refine (sFI_any x _ x1 x2).mono ?_
          rintro e w12 ⟨rfl, hb⟩
          have B12 := hide (B11.out.trans (hb.mono B11.out.size))
          clear hb
          rcases hcase with ⟨rfl, rfl, q1, q2⟩ | ⟨rfl, q1⟩ | ⟨rfl, q1⟩
          · go_wp2_with fail
            go_ret
            exact ⟨rfl, B12.out⟩
          · go_wp2_with fail
            go_ret
            exact ⟨rfl, B12.out⟩
          · have q2 : -1000000000 < x := by omega
            have q3 : decide (x < 1000000000) = false := by simp; omega
            go_wp2_with fail
            go_ret
            exact ⟨rfl, B12.out⟩
        | cons f g =>
          obtain ⟨hb1, hb2⟩ := hback (by simp)
          simp only [Prod.mk.injEq] at hb1
          obtain ⟨hu, rfl⟩ := hb1; obtain rfl : x = u := hu.symm
          have hgl : (g.length : Int) + 1 = y := by simpa using hb2
          have hg6 : g.length ≤ 6 := by simpa using hFl
          subst hgl
          clear hb2 hFl hback
          go_wp2_with fail
          refine (HV2.out _).mono ?_
          rintro e w7 ⟨rfl, hb⟩
          have B6' := hide (B6.out.trans (hb.mono B6.out.size))
          clear hb
          go_wp2_with fail
          refine (HE.out _).mono ?_
          rintro e w7b ⟨rfl, hb⟩
          have B7 := hide (B6'.out.trans (hb.mono B6'.out.size))
          clear hb
          go_wp2_with fail
          refine (iEH_any _ _ (by simp [ByteArray.size]; omega)).mono ?_
          rintro e w8 ⟨rfl, hb⟩
          have B8 := hide (B7.out.trans (hb.mono B7.out.size))
          clear hb
          go_wp2_with fail
          refine (HH.out _).mono ?_
          rintro e w9 ⟨rfl, hb⟩
          have B9 := hide (B8.out.trans (hb.mono B8.out.size))
          clear hb
          go_wp2_with fail
          refine (iFI_any x _ x1 x2 (HT.out.stays B9.out (Nat.le_refl _))).mono ?_
          rintro e w10 ⟨rfl, hb⟩
          have B10 := hide (B9.out.trans (hb.mono B9.out.size))
          clear hb
          go_wp2_with fail
          refine (HP.out _ (HT.out.stays B10.out (Nat.le_refl _))).mono ?_
          rintro e w11 ⟨rfl, hb⟩
          have B11 := hide (B10.out.trans (hb.mono B10.out.size))
          clear hb
          go_wp2_with fail
          refine (sFI_any x _ x1 x2).mono ?_
          rintro e w12 ⟨rfl, hb⟩
          have B12 := hide (B11.out.trans (hb.mono B11.out.size))
          clear hb
          rcases hcase with ⟨rfl, rfl, q1, q2⟩ | ⟨rfl, q1⟩ | ⟨rfl, q1⟩
          · go_wp2_with fail
            go_ret
            exact ⟨rfl, B12.out⟩
          · go_wp2_with fail
            go_ret
            exact ⟨rfl, B12.out⟩
          · have q2 : -1000000000 < x := by omega
            have q3 : decide (x < 1000000000) = false := by simp; omega
            go_wp2_with fail
            go_ret
            exact ⟨rfl, B12.out⟩
      · clear hn
        go_wp2_with fail
        refine (HV.out _).mono ?_
        rintro e w4 ⟨rfl, hb⟩
        have B4 := hide (B3.out.trans (hb.mono B3.out.size))
        clear hb
        go_wp2_with fail
        refine (drawFixed_any a len cap _ (HC.out.below B4.out (Nat.le_refl _)) hbig).mono ?_
        rintro e w5 ⟨x, y, x1, x2, y1, y2, rfl, hb⟩
        obtain ⟨z, good, HP, hcase⟩ := parse_back x x1 x2
        have B5 := hide (B4.out.trans (hb.mono B4.out.size))
        clear hb
        go_wp2_with fail
        refine (iEF_any x y _ x2).mono ?_
        rintro e w6 ⟨rfl, hb⟩
        have B6 := hide (B5.out.trans (hb.mono B5.out.size))
        clear hb
        have HE := hide (fun W => sEF_any x y W x2)
        have hback := encF_back x y t
        have hFl : (EncF x y).length ≤ 7 := EncF_len x y
        obtain ⟨F, hF⟩ : ∃ F, F = EncF x y := ⟨_, rfl⟩
        rw [← hF] at HE hback hFl ⊢
        clear hF
        obtain ⟨⟨u, v⟩, huv⟩ : ∃ p, p = DecF ⟨(F ++ t).toArray⟩ y := ⟨_, rfl⟩
        have HV2 : Hid (∀ W : World, Calls Tryd.prog 13 #[.string (⟨F.toArray⟩ ++ ⟨t.toArray⟩), .int .i64 y] W fun e w' => e = .returned (.tuple #[.int .i64 u, .bool v]) ∧ Below W.heap.size W w') := by
          intro W
          refine (iDF_any _ y W (by unfold maxLen; simp [ByteArray.size]; omega)).mono fun e w' hh => ?_
          obtain ⟨h1, h2⟩ := hh
          rw [ByteArray.mk_append_mk, ← huv] at h1
          exact ⟨h1, h2⟩
        rw [← huv] at hback
        clear huv
        cases F with
        | nil =>
          clear hback
          go_wp2_with fail
          refine (HV2.out _).mono ?_
          rintro e w7 ⟨rfl, hb⟩
          have B6' := hide (B6.out.trans (hb.mono B6.out.size))
          clear hb
          go_wp2_with fail
          refine (HE.out _).mono ?_
          rintro e w7b ⟨rfl, hb⟩
          have B7 := hide (B6'.out.trans (hb.mono B6'.out.size))
          clear hb
          go_wp2_with fail
          refine (iEH_any _ _ (by simp [ByteArray.size]; omega)).mono ?_
          rintro e w8 ⟨rfl, hb⟩
          have B8 := hide (B7.out.trans (hb.mono B7.out.size))
          clear hb
          go_wp2_with fail
          refine (HH.out _).mono ?_
          rintro e w9 ⟨rfl, hb⟩
          have B9 := hide (B8.out.trans (hb.mono B8.out.size))
          clear hb
          go_wp2_with fail
          refine (iFI_any x _ x1 x2 (HT.out.stays B9.out (Nat.le_refl _))).mono ?_
          rintro e w10 ⟨rfl, hb⟩
          have B10 := hide (B9.out.trans (hb.mono B9.out.size))
          clear hb
          go_wp2_with fail
          refine (HP.out _ (HT.out.stays B10.out (Nat.le_refl _))).mono ?_
          rintro e w11 ⟨rfl, hb⟩
          have B11 := hide (B10.out.trans (hb.mono B10.out.size))
          clear hb
          go_wp2_with fail
          refine (sFI_any x _ x1 x2).mono ?_
          rintro e w12 ⟨rfl, hb⟩
          have B12 := hide (B11.out.trans (hb.mono B11.out.size))
          clear hb
          rcases hcase with ⟨rfl, rfl, q1, q2⟩ | ⟨rfl, q1⟩ | ⟨rfl, q1⟩
          · go_wp2_with fail
            go_ret
            exact ⟨rfl, B12.out⟩
          · go_wp2_with fail
            go_ret
            exact ⟨rfl, B12.out⟩
          · have q2 : -1000000000 < x := by omega
            have q3 : decide (x < 1000000000) = false := by simp; omega
            go_wp2_with fail
            go_ret
            exact ⟨rfl, B12.out⟩
        | cons f g =>
          obtain ⟨hb1, hb2⟩ := hback (by simp)
          simp only [Prod.mk.injEq] at hb1
          obtain ⟨hu, rfl⟩ := hb1; obtain rfl : x = u := hu.symm
          have hgl : (g.length : Int) + 1 = y := by simpa using hb2
          have hg6 : g.length ≤ 6 := by simpa using hFl
          subst hgl
          clear hb2 hFl hback
          go_wp2_with fail
          refine (HV2.out _).mono ?_
          rintro e w7 ⟨rfl, hb⟩
          have B6' := hide (B6.out.trans (hb.mono B6.out.size))
          clear hb
          go_wp2_with fail
          refine (HE.out _).mono ?_
          rintro e w7b ⟨rfl, hb⟩
          have B7 := hide (B6'.out.trans (hb.mono B6'.out.size))
          clear hb
          go_wp2_with fail
          refine (iEH_any _ _ (by simp [ByteArray.size]; omega)).mono ?_
          rintro e w8 ⟨rfl, hb⟩
          have B8 := hide (B7.out.trans (hb.mono B7.out.size))
          clear hb
          go_wp2_with fail
          refine (HH.out _).mono ?_
          rintro e w9 ⟨rfl, hb⟩
          have B9 := hide (B8.out.trans (hb.mono B8.out.size))
          clear hb
          go_wp2_with fail
          refine (iFI_any x _ x1 x2 (HT.out.stays B9.out (Nat.le_refl _))).mono ?_
          rintro e w10 ⟨rfl, hb⟩
          have B10 := hide (B9.out.trans (hb.mono B9.out.size))
          clear hb
          go_wp2_with fail
          refine (HP.out _ (HT.out.stays B10.out (Nat.le_refl _))).mono ?_
          rintro e w11 ⟨rfl, hb⟩
          have B11 := hide (B10.out.trans (hb.mono B10.out.size))
          clear hb
          go_wp2_with fail
          refine (sFI_any x _ x1 x2).mono ?_
          rintro e w12 ⟨rfl, hb⟩
          have B12 := hide (B11.out.trans (hb.mono B11.out.size))
          clear hb
          rcases hcase with ⟨rfl, rfl, q1, q2⟩ | ⟨rfl, q1⟩ | ⟨rfl, q1⟩
          · go_wp2_with fail
            go_ret
            exact ⟨rfl, B12.out⟩
          · go_wp2_with fail
            go_ret
            exact ⟨rfl, B12.out⟩
          · have q2 : -1000000000 < x := by omega
            have q3 : decide (x < 1000000000) = false := by simp; omega
            go_wp2_with fail
            go_ret
            exact ⟨rfl, B12.out⟩
  · go_enter Tryd.func3, Tryd.ntmps3
    go_wp2_with (go_at_call 6; refine (big_yes a len cap _ (by omega)).mono ?_; rintro e wx ⟨rfl, rfl⟩)
    go_ret
    exact ⟨rfl, Below.refl _ _⟩

end Go.Proofs.YtklegjmahopkbaaDoor
