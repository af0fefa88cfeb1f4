/- What FormatTable of the reference returns (promise 2). -/
import Derived.Test.YtgeegbbcjdlkbaaGreatDoorLine
namespace Go.Proofs.YtgeegbbcjdlkbaaGreatDoor
open Go.RowKit Go.ChangeShapes
set_option linter.unusedSimpArgs false
set_option linter.unusedVariables false
set_option maxRecDepth 100000

/-- A string of bytes grown by bytes. -/
theorem str_app (l m : List UInt8) : (ByteArray.mk l.toArray ++ ByteArray.mk m.toArray) = ByteArray.mk (l ++ m).toArray := ByteArray.mk_append_mk l m

theorem str_eta (s : ByteArray) : s = ⟨s.data.toList.toArray⟩ := by simp

theorem str_app2 (l : List UInt8) (n : ByteArray) : (ByteArray.mk l.toArray ++ n) = ByteArray.mk (l ++ n.data.toList).toArray := by
  rw [str_eta n, str_app]

theorem next_row (r q : Nat) (h : (r : Int) - 1 = q) : r = q + 1 := by omega

set_option maxHeartbeats 4000000 in
theorem sFmt_yes (v : Value) (cs : List Col) (w : World) (B : Nat) (hv : Tbl w B v cs) (hB : B ≤ w.heap.size) (ht : isT cs = true) :
    Calls Tryz.prog 11 #[v] w (RetS w (preT cs (rowsN cs + 1))) := by
  have HT := hide hv
  obtain ⟨a, cap, rfl⟩ := hv.form
  have HSZ := hide hv.sizes
  have HTT := hide ht
  obtain ⟨hc1, hc4⟩ := isT_len ht
  obtain ⟨hr64, hrows0⟩ := isT_rows ht
  have HROWS := hide hrows0
  have HW := hide (fun r => isT_word ht r)
  have HPL := hide (preT_len ht)
  have HRC := hide (rowsC_N ht)
  clear hrows0
  have hv2 := hv
  obtain ⟨u, he, hu⟩ := hv2
  obtain ⟨rfl⟩ : Value.slice a cs.length cap = u := by simpa using he
  obtain ⟨a', cap', he', hlen, hcell⟩ := hu
  obtain ⟨rfl, rfl⟩ : a = a' ∧ cap = cap' := by simpa using he'
  have HC := hide hcell
  clear hcell he he' hv ht
  have HB1 := hide (Box.new w (.slice a cs.length cap) 26)
  have TB : Hid (∀ W, Below w.heap.size w W → Tbl W B (.agg #[.slice a cs.length cap]) cs) := fun W h => HT.out.below h hB
  obtain ⟨R, hR⟩ : ∃ R, R = rowsN cs := ⟨_, rfl⟩
  rw [← hR] at hr64 HROWS HRC ⊢
  clear hR
  go_enter Tryz.func11, Tryz.ntmps11
  go_wp2_with fail
  obtain ⟨w1, hw1⟩ : ∃ w1, w1 = w.alloc (.cells #[.slice a cs.length cap] 26) := ⟨_, rfl⟩
  rw [← hw1] at HB1 ⊢
  clear hw1
  go_at_call 12
  refine (sTable_any _ cs w1 B (TB.out _ HB1.out.1) (Nat.le_trans hB HB1.out.1.size)).mono ?_
  rintro e w2 ⟨rfl, hb2⟩
  rw [HTT.out]
  have B2 := hide (HB1.out.up hb2)
  clear hb2
  go_wp2_with fail
  go_loopw [3, 4] (fun s x wr => ∃ (r : Nat) (y : Int), r ≤ R + 1 ∧ y = (r : Int) - 1 ∧ x = .int .i64 y ∧ s = .string ⟨(preT cs r).toArray⟩ ∧ Hid (Box w wr (.slice a cs.length cap))) (fun _ x _ => R + 1 - (intOf x + 1).toNat)
  case atStart => exact ⟨0, -1, by omega, by omega, rfl, rfl, B2.out⟩
  case round =>
    obtain ⟨r, y, hr, hy, rfl, rfl, hbx⟩ := hrel
    have c1 := hbx.out.2.1
    have HY := hide hy
    have hy1 : -1 ≤ y := by omega
    have hy2 : y ≤ 64 := by omega
    by_cases hlt : y < R
    · have hrR : r ≤ R := by omega
      clear hy
      go_wp2_with fail
      go_at_call 25
      refine (sRows_any _ cs wr B (TB.out _ hbx.out.1) (Nat.le_trans hB hbx.out.1.size)).mono ?_
      rintro e w3 ⟨rfl, hb3⟩
      rw [HRC.out]
      have B3 := hide (hbx.out.up hb3)
      clear hb3 c1
      go_wp2_with fail
      go_loopw [3, 5] (fun s x wi => ∃ (i : Nat) (l : List UInt8), i ≤ cs.length ∧ x = .int .i64 i ∧ s = .string ⟨l.toArray⟩ ∧ Hid (l = preT cs r ++ Lib.join ((fmtW cs r).take i) [32]) ∧ l.length ≤ 89 * 66 ∧ Hid (Box w wi (.slice a cs.length cap))) (fun _ x _ => cs.length - (intOf x).toNat)
      case atStart => exact ⟨0, preT cs r, by omega, rfl, rfl, by show _ = _; simp [Lib.join_nil], by have := HPL.out r; omega, B3.out⟩
      case round =>
        clear B3
        obtain ⟨i, l, hi, rfl, rfl, hl, hll, hbi⟩ := hrel
        have ci := hbi.out.2.1
        by_cases hi2 : i < cs.length
        · obtain ⟨b, o, u, rfl, hbB, hc, hc2, hn, hint⟩ := HC.out i hi2
          obtain ⟨p, hp⟩ : ∃ p, p = cs[i] := ⟨_, rfl⟩
          have hrow := HROWS.out i hi2
          have hword := HW.out r
          rw [← hp] at hc hn hint hrow
          obtain ⟨n, ls⟩ := p
          simp only at hc hn hint hrow
          have hbb := hbi.out.1
          have d1 : wr.cell? ⟨b, o + i * 2, none⟩ = some (.string n) := by rw [hbb.cell (p := ⟨b, o + i * 2, none⟩) (Nat.lt_of_lt_of_le hbB hB)]; exact hc
          have d2 : wr.cell? ⟨b, o + i * 2 + 1, none⟩ = some u := by rw [hbb.cell (p := ⟨b, o + i * 2 + 1, none⟩) (Nat.lt_of_lt_of_le hbB hB)]; exact hc2
          have e1 := hint.below hbb hB
          have hil : i < (fmtW cs r).length := by rw [fmtW_length]; exact hi2
          have hwl := hword _ (List.getElem_mem hil)
          obtain ⟨wd, hwd⟩ : ∃ wd, wd = (fmtW cs r)[i] := ⟨_, rfl⟩
          rw [← hwd] at hwl
          have hjl := join_take_len (fmtW cs r) hword (i + 1) (by omega)
          have hpl := HPL.out r
          have hstep0 : i = 0 → preT cs r ++ Lib.join ((fmtW cs r).take (i + 1)) [32] = l ++ wd := by
            intro h; subst h
            rw [join_take_one _ hil, hl.out, hwd]
            simp [Lib.join_nil]
          have hstep1 : 0 < i → preT cs r ++ Lib.join ((fmtW cs r).take (i + 1)) [32] = (l ++ [32]) ++ wd := by
            intro h
            rw [join_take_succ _ i h hil, hl.out, hwd]
            simp
          have hl0 : i = 0 → (l ++ wd).length ≤ 89 * 66 := by
            intro h
            rw [← hstep0 h]
            simp only [List.length_append]
            omega
          have hl1 : 0 < i → ((l ++ [32]) ++ wd).length ≤ 89 * 66 := by
            intro h
            rw [← hstep1 h]
            simp only [List.length_append]
            omega
          have HL0 := hide hl0
          have HL1 := hide hl1
          have HS0 := hide hstep0
          have HS1 := hide hstep1
          have HWD := hide hwd
          have HP := hide hp
          clear hl0 hl1 hstep0 hstep1 hjl hpl hwd hword hc hc2 hint hbb hp
          cases r with
          | zero =>
            obtain rfl : y = -1 := by have := HY.out; omega
            have hwn := HWD.out
            rw [fmtW_zero cs i hi2, ← HP.out] at hwn
            simp only at hwn
            have HWN := hide hwn
            have hns : n.size ≤ 21 := by rw [hwn] at hwl; simpa using hwl
            clear hwn
            by_cases h0 : 0 < i
            · have HST := hide (HS1.out h0)
              have hln := HL1.out h0
              rw [HWN.out] at hln HST
              go_wp2_with fail
              go_roundw
              case rel => exact ⟨i + 1, l ++ [32] ++ n.data.toList, by omega, by go_num, congrArg Value.string ((congrArg (· ++ n) (str_app l [32])).trans (str_app2 _ n)), HST.out.symm, hln, hbi⟩
              case measure => simp [intOf]; omega
            · have HST := hide (HS0.out (by omega))
              have hln := HL0.out (by omega)
              rw [HWN.out] at hln HST
              go_wp2_with fail
              go_roundw
              case rel => exact ⟨i + 1, l ++ n.data.toList, by omega, by go_num, congrArg Value.string (str_app2 _ n), HST.out.symm, hln, hbi⟩
              case measure => simp [intOf]; omega
          | succ q =>
            obtain rfl : y = (q : Int) := by have := HY.out; omega
            have hqr : q < ls.length := by omega
            obtain ⟨a3, c3, rfl, hl3, hwf3, hcell3⟩ := e1
            obtain ⟨b3, o3, rfl, hb3, hc3⟩ := hcell3 q hqr
            have hwn := HWD.out
            have hwfx := hwf3 _ (List.getElem_mem hqr)
            have hpq : cs[i].2[q]'(by rw [← HP.out]; exact hqr) = ls[q] := by simp only [← HP.out]
            rw [fmtW_row cs q i hi2 (by rw [← HP.out]; exact hqr), hpq] at hwn
            obtain ⟨x, hx⟩ : ∃ x, x = ls[q] := ⟨_, rfl⟩
            rw [← hx] at hwn hwfx hc3
            obtain ⟨hx1, hx2⟩ := hwfx
            have HWN := hide hwn
            have hil2 := itoa_len x hx1 hx2
            have HLS := hide hrow
            have hqR : (q : Int) < (ls.length : Int) := by omega
            clear hwn hpq hx hcell3 hwf3 hrow
            by_cases h0 : 0 < i
            · have HST := hide (HS1.out h0)
              have hln := HL1.out h0
              rw [HWN.out] at hln HST
              go_wp2_with fail
              go_at_call 43
              refine (sFI_any x _ hx1 hx2).mono ?_
              rintro e w5 ⟨rfl, hb5⟩
              have B5 := hide (hbi.out.up hb5)
              clear hb5
              go_wp2_with fail
              go_roundw
              case rel => exact ⟨i + 1, l ++ [32] ++ Lib.itoa x, by omega, by go_num, congrArg Value.string ((congrArg (· ++ (⟨(Lib.itoa x).toArray⟩ : ByteArray)) (str_app l [32])).trans (str_app _ _)), HST.out.symm, hln, B5.out⟩
              case measure => simp [intOf]; omega
            · have HST := hide (HS0.out (by omega))
              have hln := HL0.out (by omega)
              rw [HWN.out] at hln HST
              go_wp2_with fail
              go_at_call 43
              refine (sFI_any x _ hx1 hx2).mono ?_
              rintro e w5 ⟨rfl, hb5⟩
              have B5 := hide (hbi.out.up hb5)
              clear hb5
              go_wp2_with fail
              go_roundw
              case rel => exact ⟨i + 1, l ++ Lib.itoa x, by omega, by go_num, congrArg Value.string (str_app _ _), HST.out.symm, hln, B5.out⟩
              case measure => simp [intOf]; omega
        · have hie : i = cs.length := by omega
          have hlE := hl.out
          rw [List.take_of_length_le (by rw [fmtW_length]; omega)] at hlE
          have HF := hide (show l ++ [10] = preT cs (r + 1) by rw [preT_succ, hlE, List.append_assoc])
          have hy3 : (r : Int) - 1 = y := HY.out.symm
          have HY3 := hide hy3
          clear hie hlE hy3
          go_wp2_with fail
          go_roundw
          case rel => exact ⟨r + 1, y + 1, by omega, by have := HY3.out; omega, by go_num, by rw [← HF.out]; exact congrArg Value.string (str_app l [10]), hbi⟩
          case measure => have := HY3.out; simp [intOf]; omega
    · have hre : r = R + 1 := by omega
      have hrl : (preT cs r).length ≤ 89 * 66 := by have := HPL.out r; omega
      have HRE := hide hre
      clear hre hy
      go_wp2_with fail
      go_at_call 25
      refine (sRows_any _ cs wr B (TB.out _ hbx.out.1) (Nat.le_trans hB hbx.out.1.size)).mono ?_
      rintro e w3 ⟨rfl, hb3⟩
      rw [HRC.out]
      have B3 := hide (hbx.out.up hb3)
      clear hb3 c1
      go_wp2_with fail
      go_ret
      exact ⟨by rw [← HRE.out]; rfl, B3.out.1⟩

theorem sFmt_no (v : Value) (cs : List Col) (w : World) (B : Nat) (hv : Tbl w B v cs) (hB : B ≤ w.heap.size) (ht : isT cs = false) :
    Calls Tryz.prog 11 #[v] w (RetS w []) := by
  have HT := hide hv
  obtain ⟨a, cap, rfl⟩ := hv.form
  have HTT := hide ht
  clear hv ht
  have HB1 := hide (Box.new w (.slice a cs.length cap) 26)
  go_enter Tryz.func11, Tryz.ntmps11
  go_wp2_with fail
  obtain ⟨w1, hw1⟩ : ∃ w1, w1 = w.alloc (.cells #[.slice a cs.length cap] 26) := ⟨_, rfl⟩
  rw [← hw1] at HB1 ⊢
  clear hw1
  go_at_call 12
  refine (sTable_any _ cs w1 B (HT.out.below HB1.out.1 hB) (Nat.le_trans hB HB1.out.1.size)).mono ?_
  rintro e w2 ⟨rfl, hb2⟩
  rw [HTT.out]
  have B2 := hide (HB1.out.up hb2)
  clear hb2
  go_wp2_with fail
  go_ret
  exact ⟨rfl, B2.out.1⟩

theorem sFmt_any (v : Value) (cs : List Col) (w : World) (B : Nat) (hv : Tbl w B v cs) (hB : B ≤ w.heap.size) :
    Calls Tryz.prog 11 #[v] w (RetS w (fmtTab cs)) := by
  cases ht : isT cs with
  | true => unfold fmtTab; rw [if_pos ht]; exact sFmt_yes v cs w B hv hB ht
  | false => unfold fmtTab; rw [if_neg (by rw [ht]; simp)]; exact sFmt_no v cs w B hv hB ht

end Go.Proofs.YtgeegbbcjdlkbaaGreatDoor
