/- What FormatTable of the program returns, whole (promise 2). -/
import Derived.Test.YtgeegbbcjdlkbaaGreatDoorFmtI
namespace Go.Proofs.YtgeegbbcjdlkbaaGreatDoor
open Go.RowKit Go.ChangeShapes
set_option linter.unusedSimpArgs false
set_option linter.unusedVariables false
set_option maxRecDepth 100000

theorem Box.below {w W W' : World} {x : Value} {B : Nat} (h : Box w W x) (hb : Below B W W') (hB : w.heap.size < B) : Box w W' x :=
  ⟨h.1.trans (hb.mono (Nat.le_of_lt hB)), by rw [hb.cell (p := ⟨w.heap.size, 0, none⟩) hB]; exact h.2.1, Nat.lt_of_lt_of_le h.2.2 hb.size⟩

set_option maxHeartbeats 4000000 in
theorem iFmt_yes (v : Value) (cs : List Col) (w : World) (B : Nat) (hv : Tbl w B v cs) (hB : B ≤ w.heap.size) (ht : isT cs = true) (hT : Tab w) :
    Calls Tryz.prog 6 #[v] w (RetS w (preT cs (rowsN cs + 1))) := by
  have HT := hide hv
  obtain ⟨a, cap, rfl⟩ := hv.form
  have HTT := hide ht
  have HTab := hide hT
  obtain ⟨hc1, hc4⟩ := isT_len ht
  obtain ⟨hr64, -⟩ := isT_rows ht
  have HW := hide (fun r => isT_word ht r)
  have HPL := hide (preT_len ht)
  have HRC := hide (rowsC_N ht)
  have hv2 := hv
  obtain ⟨u, he, hu⟩ := hv2
  obtain ⟨rfl⟩ : Value.slice a cs.length cap = u := by simpa using he
  obtain ⟨a', cap', he', hlen, hcell⟩ := hu
  obtain ⟨rfl, rfl⟩ : a = a' ∧ cap = cap' := by simpa using he'
  have HC := hide hcell
  clear hcell he he' hv ht hT
  have HB1 := hide (Box.new w (.slice a cs.length cap) 26)
  have TB : Hid (∀ W, Below w.heap.size w W → Tbl W B (.agg #[.slice a cs.length cap]) cs) := fun W h => HT.out.below h hB
  obtain ⟨R, hR⟩ : ∃ R, R = rowsN cs := ⟨_, rfl⟩
  have HR := hide hR
  rw [← hR] at hr64 HRC ⊢
  clear hR
  go_enter Tryz.func6, Tryz.ntmps6
  go_wp2_with fail
  obtain ⟨w1, hw1⟩ : ∃ w1, w1 = w.alloc (.cells #[.slice a cs.length cap] 26) := ⟨_, rfl⟩
  rw [← hw1] at HB1 ⊢
  clear hw1
  go_at_call 30
  refine (iTable_any _ cs w1 B (TB.out _ HB1.out.1) (Nat.le_trans hB HB1.out.1.size)).mono ?_
  rintro e w2 ⟨rfl, hb2⟩
  rw [HTT.out]
  have B2 := hide (HB1.out.up hb2)
  have c2 := B2.out.2.1
  clear hb2
  go_wp2_with (first | (at_make; refine ss_make _ rfl _ _ 56 rfl (w.heap.size + 1) 9 Tryz.underlying56 infoStr cs.length _ _ rfl rfl rfl rfl (by omega) (by have := B2.out.2.2; omega) ?_; intro w3 hown3 hb3 hs3; have c3 := (B2.out.up hb3).2.1))
  have B3 := hide (B2.out.up hb3)
  obtain ⟨g, hg⟩ : ∃ g, g = w2.heap.size := ⟨_, rfl⟩
  rw [← hg] at hown3 hs3
  try rw [← hg]
  have HG := hide (show w.heap.size < g by rw [hg]; exact B2.out.2.2)
  clear hg hb3 c2 c3
  go_loopw [18] (fun i wr => ∃ (k : Nat) (m : List ByteArray), k ≤ cs.length ∧ i = .int .i64 k ∧ Hid (m = (wB (fmtW cs 0)).take k ++ List.replicate (cs.length - k) ⟨#[]⟩) ∧ Hid (Ss wr (w.heap.size + 1) 9 (.slice (some ⟨g, 0, none⟩) cs.length cs.length) m) ∧ Hid (Box w wr (.slice a cs.length cap)) ∧ Hid (g < wr.heap.size)) (fun i _ => cs.length - (intOf i).toNat)
  case atStart => exact ⟨0, _, by omega, rfl, by show _ = _; simp, hown3, B3.out, hs3⟩
  case round =>
    clear hown3 hs3
    obtain ⟨k, m, hk, rfl, hm, hown, hbx, hgs⟩ := hrel
    have hml : m.length = cs.length := by rw [hm.out]; simp [wB_length, fmtW_length]; omega
    by_cases hlt : k < cs.length
    · obtain ⟨b, o, u, rfl, hbB, hc, hc2, hn, hint⟩ := HC.out k hlt
      obtain ⟨p, hp⟩ : ∃ p, p = cs[k] := ⟨_, rfl⟩
      rw [← hp] at hc hn hint
      obtain ⟨n, ls⟩ := p
      simp only at hc hn hint
      have hbw := hbx.out.1
      have d1 : wr.cell? ⟨b, o + k * 2, none⟩ = some (.string n) := by rw [hbw.cell (p := ⟨b, o + k * 2, none⟩) (Nat.lt_of_lt_of_le hbB hB)]; exact hc
      have d2 : wr.cell? ⟨b, o + k * 2 + 1, none⟩ = some u := by rw [hbw.cell (p := ⟨b, o + k * 2 + 1, none⟩) (Nat.lt_of_lt_of_le hbB hB)]; exact hc2
      obtain ⟨a3, c3, rfl, -, -, -⟩ := hint
      have HP := hide hp
      have hba := (Below.refl wr.heap.size wr).alloc (Nat.le_refl _) (.cells #[.string n, .slice a3 ls.length c3] 58)
      have O5 := hide (hown.out.below hba)
      have HML := hide hml
      clear hml
      obtain ⟨hcg, hfg, -, hgs5, -, -⟩ := O5.out.cell k (by have := HML.out; omega)
      have B5 := hide (hbx.out.up hba)
      clear hc hc2 hp hbw hba
      go_wp2_with fail
      go_roundw
      case rel =>
        refine ⟨k + 1, m.set k n, by omega, by go_num, ?_, O5.out.store HML.out.symm k _, B5.out.below ((Below.refl (w.heap.size + 1) _).setCell (p := ⟨g, k, none⟩) (show w.heap.size + 1 ≤ g from HG.out) _) (Nat.lt_succ_self _), ?_⟩
        · show _ = _
          have hlw : (wB (fmtW cs 0)).length = cs.length := by rw [wB_length, fmtW_length]
          have hkw : k < (wB (fmtW cs 0)).length := by omega
          have ex : (wB (fmtW cs 0))[k] = n := by
            rw [wB_get _ k (by rw [fmtW_length]; exact hlt), fmtW_zero cs k hlt, ← HP.out]
          have := take_setG (⟨#[]⟩ : ByteArray) (wB (fmtW cs 0)) m k hkw (by rw [hm.out, hlw])
          rw [ex, hlw] at this
          exact this
        · show g < _
          simpa [World.setCell] using hgs5
      case measure => simp [intOf]; omega
    · have hke : k = cs.length := by omega
      have hmf : m = wB (fmtW cs 0) := by
        rw [hm.out, hke, List.take_of_length_le (by rw [wB_length, fmtW_length]; exact Nat.le_refl _)]
        simp
      have HO := hown
      rw [hmf] at HO
      clear hml hke hmf
      have hba := (Below.refl wr.heap.size wr).alloc (Nat.le_refl _) (.cells #[.pointer none, .slice none 0 0] 61)
      have D4 := hide (Bld.new wr)
      have B4 := hide (hbx.out.up hba)
      have O4 := hide (HO.out.below hba)
      have HBW := hide hbx.out.2.2
      clear hba
      go_wp2_with fail
      obtain ⟨bb, hbb⟩ : ∃ bb, bb = wr.heap.size := ⟨_, rfl⟩
      rw [← hbb] at D4 HBW
      try rw [← hbb]
      obtain ⟨w4, hw4⟩ : ∃ w4, w4 = wr.alloc (.cells #[.pointer none, .slice none 0 0] 61) := ⟨_, rfl⟩
      rw [← hw4] at D4 B4 O4
      try rw [← hw4]
      clear hw4 hbb
      go_at_call 32
      refine (formatLine_any _ (fmtW cs 0) _ w4 O4.out (by rw [fmtW_length]; omega) (by rw [fmtW_length]; omega) (HW.out 0)).mono ?_
      rintro e w5 ⟨rfl, hb5⟩
      have B5 := hide (B4.out.up hb5)
      have D5 := hide (D4.out.up hb5)
      have hl0 := HPL.out 1
      have hp1 : preT cs 1 = lineW (fmtW cs 0) := by simp [preT]
      rw [hp1] at hl0
      have HP1 := hide hp1
      clear hb5 hp1
      go_wp2_with fail
      go_at_call 31
      refine (write_any bb bb [] (lineW (fmtW cs 0)) w5 D5.out (by simp; omega) (Nat.le_of_lt D5.out.lt)).mono ?_
      rintro e w6 ⟨rfl, hd6, hb6⟩
      have B6 := hide (B5.out.below hb6 HBW.out)
      have D6 := hide (show Bld bb bb (preT cs 1) w6 by rw [HP1.out]; exact hd6)
      have c6 := B6.out.2.1
      clear hb6 hd6 hl0
      go_wp2_with fail
      go_at_call 24
      refine (iRows_any _ cs w6 B (TB.out _ B6.out.1) (Nat.le_trans hB B6.out.1.size)).mono ?_
      rintro e w7 ⟨rfl, hb7⟩
      rw [HRC.out]
      have B7 := hide (B6.out.up hb7)
      have D7 := hide (D6.out.up hb7)
      clear hb7 c6
      go_wp2_with fail
      go_loopw [34] (fun i wq => ∃ (q : Nat), q ≤ R ∧ i = .int .i64 q ∧ Hid (Box w wq (.slice a cs.length cap)) ∧ Hid (Bld bb bb (preT cs (q + 1)) wq)) (fun i _ => R - (intOf i).toNat)
      case atStart => exact ⟨0, by omega, rfl, B7.out, D7.out⟩
      case round =>
        obtain ⟨q, hq, rfl, hbq, hdq⟩ := hrel
        have cq := hbq.out.2.1
        by_cases hqR : q < R
        · have HTW := hide (HTab.out.stays hbq.out.1 (Nat.le_refl _))
          have hqN := hide (show q < rowsN cs by rw [← HR.out]; exact hqR)
          go_wp2_with fail
          go_at_call 33
          refine (words_any a cap cs q _ B (TB.out _ hbq.out.1) (Nat.le_trans hB hbq.out.1.size) HTT.out hqN.out HTW.out).mono ?_
          rintro e w8 ⟨v8, rfl, hs8, hb8⟩
          have B8 := hide (hbq.out.up hb8)
          have D8 := hide (hdq.out.up hb8)
          have S8 := hide hs8
          clear hb8 hs8 cq
          go_wp2_with fail
          go_at_call 32
          refine (formatLine_any _ (fmtW cs (q + 1)) _ w8 S8.out (by rw [fmtW_length]; omega) (by rw [fmtW_length]; omega) (HW.out (q + 1))).mono ?_
          rintro e w9 ⟨rfl, hb9⟩
          have B9 := hide (B8.out.up hb9)
          have D9 := hide (D8.out.up hb9)
          have hps : preT cs (q + 1 + 1) = preT cs (q + 1) ++ lineW (fmtW cs (q + 1)) := preT_succ cs (q + 1)
          have hpl := HPL.out (q + 1 + 1)
          rw [hps, List.length_append] at hpl
          have HPS := hide hps
          clear hb9 hps
          go_wp2_with fail
          go_at_call 31
          refine (write_any bb bb _ (lineW (fmtW cs (q + 1))) w9 D9.out (by omega) (Nat.le_of_lt D9.out.lt)).mono ?_
          rintro e w10 ⟨rfl, hd10, hb10⟩
          have B10 := hide (B9.out.below hb10 HBW.out)
          have D10 := hide (show Bld bb bb (preT cs (q + 1 + 1)) w10 by rw [HPS.out]; exact hd10)
          clear hb10 hd10 hpl
          go_wp2_with fail
          go_roundw
          case rel => exact ⟨q + 1, by omega, by go_num, B10.out, D10.out⟩
          case measure => simp [intOf]; omega
        · have hqe : q = R := by omega
          have HQE := hide hqe
          clear hqe
          go_wp2_with fail
          go_at_call 34
          refine (Tryz.Builder_String_any bb bb (preT cs (q + 1)) _ hdq.out (Nat.le_of_lt hdq.out.lt)).mono ?_
          rintro e w8 ⟨rfl, hb8⟩
          have B8 := hide (hbq.out.below hb8 HBW.out)
          clear hb8
          go_wp2_with fail
          go_ret
          exact ⟨by rw [← HQE.out]; rfl, B8.out.1⟩

theorem iFmt_no (v : Value) (cs : List Col) (w : World) (B : Nat) (hv : Tbl w B v cs) (hB : B ≤ w.heap.size) (ht : isT cs = false) :
    Calls Tryz.prog 6 #[v] w (RetS w []) := by
  have HT := hide hv
  obtain ⟨a, cap, rfl⟩ := hv.form
  have HTT := hide ht
  clear hv ht
  have HB1 := hide (Box.new w (.slice a cs.length cap) 26)
  go_enter Tryz.func6, Tryz.ntmps6
  go_wp2_with fail
  obtain ⟨w1, hw1⟩ : ∃ w1, w1 = w.alloc (.cells #[.slice a cs.length cap] 26) := ⟨_, rfl⟩
  rw [← hw1] at HB1 ⊢
  clear hw1
  go_at_call 30
  refine (iTable_any _ cs w1 B (HT.out.below HB1.out.1 hB) (Nat.le_trans hB HB1.out.1.size)).mono ?_
  rintro e w2 ⟨rfl, hb2⟩
  rw [HTT.out]
  have B2 := hide (HB1.out.up hb2)
  clear hb2
  go_wp2_with fail
  go_ret
  exact ⟨rfl, B2.out.1⟩

theorem iFmt_any (v : Value) (cs : List Col) (w : World) (B : Nat) (hv : Tbl w B v cs) (hB : B ≤ w.heap.size) (hT : Tab w) :
    Calls Tryz.prog 6 #[v] w (RetS w (fmtTab cs)) := by
  cases ht : isT cs with
  | true => unfold fmtTab; rw [if_pos ht]; exact iFmt_yes v cs w B hv hB ht hT
  | false => unfold fmtTab; rw [if_neg (by rw [ht]; simp)]; exact iFmt_no v cs w B hv hB ht

end Go.Proofs.YtgeegbbcjdlkbaaGreatDoor
