/- What FormatCracker of the program returns (promise 3). -/
import Derived.Test.YtknmoinmfladbaaDoorCkW
namespace Go.Proofs.YtknmoinmfladbaaDoor
open Go.RowKit Go.ChangeShapes
set_option linter.unusedSimpArgs false
set_option linter.unusedVariables false
set_option maxRecDepth 100000

/-- The place at which piece k ends. -/
def endP (l : List Int) (ps : List Pv) (k : Nat) : Nat := if k < ps.length then stP ps (k + 1) else l.length

/-- The words before piece k and its pivot. -/
def headW (l : List Int) (ps : List Pv) (k : Nat) : List (List UInt8) := if k = 0 then [] else wds l ps (k - 1) (endP l ps (k - 1))

theorem headW_succ (l : List Int) (ps : List Pv) (k : Nat) : headW l ps (k + 1) = wds l ps k (endP l ps k) := by simp [headW]

theorem part_end {l : List Int} {ps : List Pv} (h : PvsOk l ps) (k : Nat) (hk : k ≤ ps.length) :
    (partAt l ps k).length = endP l ps k - stP ps k ∧ stP ps k ≤ endP l ps k ∧ endP l ps k ≤ l.length ∧ ∀ j (hj : j < (partAt l ps k).length), (partAt l ps k)[j] = l[stP ps k + j]'(by
      unfold partAt at hj
      split at hj
      · have := (stP_ok h k (by assumption)).2.1
        simp at hj; omega
      · simp at hj; omega) := by
  by_cases hlt : k < ps.length
  · obtain ⟨h1, h2, h3⟩ := stP_ok h k hlt
    have e : endP l ps k = stP ps (k + 1) := by unfold endP; rw [if_pos hlt]
    have e2 : partAt l ps k = (l.take (stP ps (k + 1))).drop (stP ps k) := by unfold partAt; rw [if_pos hlt]
    refine ⟨by rw [e, e2]; simp; omega, by omega, by omega, fun j hj => ?_⟩
    simp only [e2, List.getElem_drop, List.getElem_take]
  · have hs := stP_le h k hk
    have e : endP l ps k = l.length := by unfold endP; rw [if_neg hlt]
    have e2 : partAt l ps k = l.drop (stP ps k) := by unfold partAt; rw [if_neg hlt]
    refine ⟨by rw [e, e2]; simp, by omega, by omega, fun j hj => ?_⟩
    simp only [e2, List.getElem_drop]

theorem brk_data (x : Int) : (ByteArray.mk #[91] ++ ByteArray.mk (Lib.itoa x).toArray ++ ByteArray.mk #[93]).data.toList = brk x := by
  rw [show ByteArray.mk #[91] = ⟨[91].toArray⟩ from rfl, show ByteArray.mk #[93] = ⟨[93].toArray⟩ from rfl, strw_app, strw_app]
  simp [brk]

set_option maxHeartbeats 4000000 in
theorem iFmtCk_any (v : Value) (l r : List Int) (ps : List Pv) (w : World) (B : Nat) (hv : Ck w B v l r ps) (hB : B ≤ w.heap.size) (hT : Tab w) :
    Calls Tryd.prog 7 #[v] w (RetS w (fmtCk l r ps)) := by
  obtain ⟨a1, c1, a2, c2, a3, c3, rfl, i1, i2, i3⟩ := hv.form
  have X := hide (Kn.one w #[.slice a1 l.length c1, .slice a2 r.length c2, .slice a3 ps.length c3] 30)
  obtain ⟨w1, hw1⟩ : ∃ w1, w1 = w.alloc (.cells #[.slice a1 l.length c1, .slice a2 r.length c2, .slice a3 ps.length c3] 30) := ⟨_, rfl⟩
  have hz := hide (show w1.heap.size = w.heap.size + 1 by rw [hw1]; simp)
  rw [← hw1] at X
  have HI3 := hide (fun (W : World) (h : Below w.heap.size w W) => i3.below h hB)
  have HV := hide (fun (W : World) (h : Below w.heap.size w W) => hv.below h hB)
  have HTab := hide (fun (W : World) (h : Below w.heap.size w W) => hT.stays h (Nat.le_refl _))
  clear i1 i2 i3 hv hT
  obtain ⟨b0, hb0⟩ : ∃ b0, b0 = fmtCk l r ps := ⟨_, rfl⟩
  rw [← hb0]
  unfold fmtCk at hb0
  obtain ⟨t, ht⟩ : ∃ t, t = isCk l r ps := ⟨_, rfl⟩
  rw [← ht] at hb0
  have HB := hide hb0
  have HT := hide ht
  clear hb0 ht
  have d0 : w1.cell? ⟨w.heap.size, 0, none⟩ = some (.slice a1 l.length c1) := X.out.cell 0 0 rfl rfl
  have d1 : w1.cell? ⟨w.heap.size, 1, none⟩ = some (.slice a2 r.length c2) := X.out.cell 0 1 rfl rfl
  have d2 : w1.cell? ⟨w.heap.size, 2, none⟩ = some (.slice a3 ps.length c3) := X.out.cell 0 2 rfl rfl
  go_enter Tryd.func7, Tryd.ntmps7
  go_wp2_with fail
  rw [← hw1]
  clear hw1
  go_at_call 15
  refine (iIsCk_any _ l r ps _ B (HV.out _ X.out.below) (Nat.le_trans hB X.out.below.size)).mono ?_
  rintro e w2 ⟨rfl, hb⟩
  rw [← HT.out]
  have X := hide (X.out.up hb)
  have hz2 := hide (show w.heap.size + 1 ≤ w2.heap.size by have := hb.size; have := hz.out; omega)
  clear hb d0 d1 d2
  cases t
  · have hf := hide (show b0 = [] by rw [HB.out]; rfl)
    go_wp2_with fail
    go_ret
    exact ⟨by rw [hf.out]; rfl, X.out.below⟩
  · have HF := hide (show b0 = if wds l ps ps.length l.length = [] then [110, 111, 110, 101] else Lib.join (wds l ps ps.length l.length) [32] by rw [HB.out]; rfl)
    have HS := hide (isCk_parts HT.out.symm).2.2.2
    have hll := areVals_len (isCk_parts HT.out.symm).1
    have hpc := pv_count HS.out
    have HWB := hide (fun k i hk hs hi => wds_bound HT.out.symm k i hk hs hi)
    have HPP := hide (show piecesP l r ps = partsK l ps (ps.length + 1) by unfold piecesP; rw [← HT.out, if_pos rfl])
    clear HB
    have d0 : w2.cell? ⟨w.heap.size, 0, none⟩ = some (.slice a1 l.length c1) := X.out.cell 0 0 rfl rfl
    have d1 : w2.cell? ⟨w.heap.size, 1, none⟩ = some (.slice a2 r.length c2) := X.out.cell 0 1 rfl rfl
    have d2 : w2.cell? ⟨w.heap.size, 2, none⟩ = some (.slice a3 ps.length c3) := X.out.cell 0 2 rfl rfl
    go_wp2_with fail
    go_at_call 16
    refine (iPieces_any _ l r ps _ B (HV.out _ X.out.below) (Nat.le_trans hB X.out.below.size) (by omega)).mono ?_
    rintro e w3 ⟨v3, rfl, O, hb⟩
    rw [HPP.out] at O
    obtain ⟨u3, k3, huf⟩ := O.form
    rw [partsK_length] at huf
    subst huf
    have O := hide O
    have X := hide (X.out.up hb)
    obtain ⟨g, hg⟩ : ∃ g, g = w3.heap.size := ⟨_, rfl⟩
    have hng := hide (show w.heap.size + 1 ≤ g by have := hb.size; have := hz2.out; omega)
    have hwg := hide (show w.heap.size ≤ g by have := hng.out; omega)
    have hBg := hide (Nat.le_trans hB hwg.out)
    have hB3 := hide (show B ≤ w3.heap.size by rw [← hg]; exact hBg.out)
    have hgs3 := hide (Nat.le_of_eq hg)
    have HG := hide hg
    clear hb d0 d1 d2 hg
    go_wp2_with fail
    go_loopw [3, 14] (fun u i wr => ∃ (k : Nat), k ≤ ps.length + 1 ∧ i = .int .i64 k ∧ Hid (Sw wr g u (headW l ps k)) ∧ Hid (Below g w3 wr) ∧ Hid (Kn w wr [(w.heap.size, #[.slice a1 l.length c1, .slice a2 r.length c2, .slice a3 ps.length c3], 30)]) ∧ Hid (g ≤ wr.heap.size)) (fun _ i _ => ps.length + 1 - (intOf i).toNat)
    case atStart => exact ⟨0, by omega, rfl, Sw.nil _ _, Below.refl _ _, X.out, hgs3.out⟩
    case round =>
      clear X
      obtain ⟨k, hk, rfl, OW, HBw, Y, hgs⟩ := hrel
      by_cases hlt : k < ps.length + 1
      · obtain ⟨g2, b, kk, rfl, hg2, hcp, hIp⟩ := O.out.cell k (by rw [partsK_length]; exact hlt)
        rw [partsK_get l ps (ps.length + 1) k hlt] at hcp hIp
        have HPE := hide (part_end HS.out k (by omega))
        have hkn := hide (show k ≤ ps.length by omega)
        obtain ⟨nk, hnk'⟩ : ∃ n, n = (partAt l ps k).length := ⟨_, rfl⟩
        rw [← hnk'] at hcp hIp
        have hnk := hide hnk'
        have HPC := hide hIp
        have dp : wr.cell? ⟨g2, k, none⟩ = some (.slice b nk kk) := by rw [HBw.out.cell (p := ⟨g2, k, none⟩) (by show g2 < g; have := HG.out; omega)]; exact hcp
        have hnk64 : nk ≤ 64 := by obtain ⟨p1, p2, p3, -⟩ := HPE.out; omega
        clear hcp hIp hnk'
        by_cases h0 : k = 0
        · have t0 : decide (0 < k) = false := by simp; omega
          have OW := hide (show Sw wr g _ (wds l ps k (stP ps k)) by subst h0; rw [stP_zero, wds_zero]; exact OW.out)
          clear h0
          go_wp2_with fail
          clear dp
          go_loopw [3, 36] (fun u i wi => ∃ (j : Nat), j ≤ nk ∧ i = .int .i64 j ∧ Hid (Sw wi g u (wds l ps k (stP ps k + j))) ∧ Hid (Below g w3 wi) ∧ Hid (Kn w wi [(w.heap.size, #[.slice a1 l.length c1, .slice a2 r.length c2, .slice a3 ps.length c3], 30)]) ∧ Hid (g ≤ wi.heap.size)) (fun _ i _ => nk - (intOf i).toNat)
          case atStart => exact ⟨0, by omega, rfl, OW.out, HBw.out, Y.out, hgs.out⟩
          case round =>
            clear OW HBw Y hgs
            obtain ⟨j, hj, rfl, OW, HBw, Y, hgs⟩ := hrel
            by_cases hjl : j < nk
            · have hi := HPC.out
              obtain ⟨a', c', he', _, hwf, hcell⟩ := hi
              obtain ⟨rfl, -⟩ : b = a' ∧ kk = c' := by
                simp only [Value.slice.injEq] at he'
                exact ⟨he'.1, he'.2.2⟩
              have hjp : j < (partAt l ps k).length := by rw [← hnk.out]; exact hjl
              obtain ⟨b5, o5, rfl, hb5, hc5⟩ := hcell j hjp
              obtain ⟨hx1, hx2⟩ := hwf _ (List.getElem_mem hjp)
              obtain ⟨x5, hx5⟩ : ∃ x, x = (partAt l ps k)[j] := ⟨_, rfl⟩
              rw [← hx5] at hc5 hx1 hx2
              have d5 : wr.cell? ⟨b5, o5 + j, none⟩ = some (.int .i64 x5) := by rw [HBw.out.cell (p := ⟨b5, o5 + j, none⟩) (Nat.lt_of_lt_of_le hb5 hBg.out)]; exact hc5
              have hLn := hide (show wds l ps k (stP ps k + j) ++ [Lib.itoa x5] = wds l ps k (stP ps k + (j + 1)) by
                obtain ⟨p1, p2, p3, p4⟩ := HPE.out
                rw [← Nat.add_assoc, wds_value l ps k (stP ps k + j) (by omega) (by have := hnk.out; omega), hx5, p4 j hjp])
              have hcnt := hide (show (wds l ps k (stP ps k + j)).length < 1099511627776 by
                have hq := hkn.out
                obtain ⟨p1, p2, p3, -⟩ := HPE.out
                have hq2 := hnk.out
                rw [(HWB.out k (stP ps k + j) hkn.out (by omega) (by omega)).1]
                omega)
              have HX := hide (itoa_len x5 hx1 hx2)
              have hbnd := HPE.out.2.2.1
              clear he' hcell hx5 hwf hc5 hjp
              obtain ⟨uw, ucap, huf⟩ := OW.out.form
              subst huf
              go_wp2_with fail
              go_at_call 17
              refine (iFI_any x5 _ hx1 hx2 (HTab.out _ Y.out.below)).mono ?_
              rintro e wa ⟨rfl, hb⟩
              have OW := hide (OW.out.below hb)
              have HBw := hide (HBw.out.trans (hb.mono hgs.out))
              have Y := hide (Y.out.up hb)
              have hgs := hide (Nat.le_trans hgs.out hb.size)
              clear hb d5
              go_wp2_with (first | (at_builtin; refine sw_append _ rfl _ _ rfl g _ _ OW.out rfl _ _ _ rfl rfl hcnt.out hgs.out ?_; intro v6 w6 hown6 hb6) | fail)
              have OW := hide hown6
              have Y := hide (Y.out.at' hb6 hwg.out (by have := hng.out; simp; omega))
              have HBw := hide (HBw.out.trans hb6)
              have hgs := hide (Nat.le_trans hgs.out hb6.size)
              clear hown6 hb6
              go_roundw
              case rel => first
                | exact ⟨_, _, _, ⟨j + 1, by omega, by go_num, by rw [← hLn.out]; exact OW.out, HBw.out, Y.out, hgs.out⟩, rfl, rfl, rfl⟩
                | exact ⟨j + 1, by omega, by go_num, by rw [← hLn.out]; exact OW.out, HBw.out, Y.out, hgs.out⟩
              case measure => first | (simp [intOf]; done) | (simp [intOf]; omega)
            · have hje : j = nk := by omega
              have hfin := hide (show wds l ps k (stP ps k + j) = headW l ps (k + 1) by
                obtain ⟨p1, p2, p3, p4⟩ := HPE.out
                rw [headW_succ, hje, hnk.out, p1, show stP ps k + (endP l ps k - stP ps k) = endP l ps k by omega])
              rw [hfin.out] at OW
              go_wp2_with fail
              go_roundw
              case rel => exact ⟨k + 1, by have := hkn.out; omega, by go_num, OW.out, HBw.out, Y.out, hgs.out⟩
              case measure => first | (simp [intOf]; done) | (simp [intOf]; omega)
        · obtain ⟨q, rfl⟩ : ∃ q, k = q + 1 := ⟨k - 1, by omega⟩
          have hq : q < ps.length := by omega
          have hi := HI3.out _ Y.out.below
          obtain ⟨a', c', he', _, hwf, hcell⟩ := hi
          obtain ⟨rfl, rfl⟩ : a3 = a' ∧ c3 = c' := by
            simp only [Value.slice.injEq] at he'
            exact ⟨he'.1, he'.2.2⟩
          obtain ⟨b7, o7, rfl, hb7, hc7, hc8⟩ := hcell q hq
          obtain ⟨hx1, hx2⟩ := (hwf _ (List.getElem_mem hq)).1
          obtain ⟨x7, hx7⟩ : ∃ x, x = ps[q].1 := ⟨_, rfl⟩
          rw [← hx7] at hc7 hx1 hx2
          have hLn := hide (show headW l ps (q + 1) ++ [brk x7] = wds l ps (q + 1) (stP ps (q + 1)) by
            rw [headW_succ, baseW_succ l ps q hq, hx7]
            unfold endP
            rw [if_pos hq])
          have hcnt := hide (show (headW l ps (q + 1)).length ≤ 2001 + 64 by
            obtain ⟨p1, p2, p3, -⟩ := part_end HS.out q (by omega)
            rw [headW_succ, (HWB.out q (endP l ps q) (by omega) p2 p3).1]
            omega)
          have HX := hide (itoa_len x7 hx1 hx2)
          have d2 : wr.cell? ⟨w.heap.size, 2, none⟩ = some (.slice (some ⟨b7, o7, none⟩) ps.length c3) := Y.out.cell 0 2 rfl rfl
          clear he' hcell hx7 hwf hc8 h0
          obtain ⟨uw, ucap, huf⟩ := OW.out.form
          subst huf
          have hqs : (q : Int) < 9223372036854775807 := by omega
          go_wp2_with fail
          go_at_call 17
          refine (iFI_any x7 _ hx1 hx2 (HTab.out _ Y.out.below)).mono ?_
          rintro e wa ⟨rfl, hb⟩
          have OW := hide (OW.out.below hb)
          have HBw := hide (HBw.out.trans (hb.mono hgs.out))
          have Y := hide (Y.out.up hb)
          have hgs := hide (Nat.le_trans hgs.out hb.size)
          have hxl := HX.out
          clear hb d2 hc7 dp
          go_wp2_with (first | (at_builtin; refine sw_append _ rfl _ _ rfl g _ _ OW.out rfl _ _ _ rfl rfl (by have := hcnt.out; omega) hgs.out ?_; intro v6 w6 hown6 hb6) | fail)
          have OW := hide (show Sw w6 g v6 (wds l ps (q + 1) (stP ps (q + 1))) by
            rw [← hLn.out]
            rw [brk_data] at hown6
            exact hown6)
          have Y := hide (Y.out.at' hb6 hwg.out (by have := hng.out; simp; omega))
          have HBw := hide (HBw.out.trans hb6)
          have hgs := hide (Nat.le_trans hgs.out hb6.size)
          clear hown6 hb6 hxl
          go_loopw [3, 36] (fun u i wi => ∃ (j : Nat), j ≤ nk ∧ i = .int .i64 j ∧ Hid (Sw wi g u (wds l ps (q + 1) (stP ps (q + 1) + j))) ∧ Hid (Below g w3 wi) ∧ Hid (Kn w wi [(w.heap.size, #[.slice a1 l.length c1, .slice a2 r.length c2, .slice (some ⟨b7, o7, none⟩) ps.length c3], 30)]) ∧ Hid (g ≤ wi.heap.size)) (fun _ i _ => nk - (intOf i).toNat)
          case atStart => exact ⟨0, by omega, rfl, OW.out, HBw.out, Y.out, hgs.out⟩
          case round =>
            clear OW HBw Y hgs
            obtain ⟨j, hj, rfl, OW, HBw, Y, hgs⟩ := hrel
            by_cases hjl : j < nk
            · have hi := HPC.out
              obtain ⟨a', c', he', _, hwf, hcell⟩ := hi
              obtain ⟨rfl, -⟩ : b = a' ∧ kk = c' := by
                simp only [Value.slice.injEq] at he'
                exact ⟨he'.1, he'.2.2⟩
              have hjp : j < (partAt l ps (q + 1)).length := by rw [← hnk.out]; exact hjl
              obtain ⟨b5, o5, rfl, hb5, hc5⟩ := hcell j hjp
              obtain ⟨hx1, hx2⟩ := hwf _ (List.getElem_mem hjp)
              obtain ⟨x5, hx5⟩ : ∃ x, x = (partAt l ps (q + 1))[j] := ⟨_, rfl⟩
              rw [← hx5] at hc5 hx1 hx2
              have d5 : wr.cell? ⟨b5, o5 + j, none⟩ = some (.int .i64 x5) := by rw [HBw.out.cell (p := ⟨b5, o5 + j, none⟩) (Nat.lt_of_lt_of_le hb5 hBg.out)]; exact hc5
              have hLn := hide (show wds l ps (q + 1) (stP ps (q + 1) + j) ++ [Lib.itoa x5] = wds l ps (q + 1) (stP ps (q + 1) + (j + 1)) by
                obtain ⟨p1, p2, p3, p4⟩ := HPE.out
                rw [← Nat.add_assoc, wds_value l ps (q + 1) (stP ps (q + 1) + j) (by omega) (by have := hnk.out; omega), hx5, p4 j hjp])
              have hcnt := hide (show (wds l ps (q + 1) (stP ps (q + 1) + j)).length < 1099511627776 by
                have hq := hkn.out
                obtain ⟨p1, p2, p3, -⟩ := HPE.out
                have hq2 := hnk.out
                rw [(HWB.out (q + 1) (stP ps (q + 1) + j) hkn.out (by omega) (by omega)).1]
                omega)
              have HX := hide (itoa_len x5 hx1 hx2)
              have hbnd := HPE.out.2.2.1
              clear he' hcell hx5 hwf hc5 hjp
              obtain ⟨uw, ucap, huf⟩ := OW.out.form
              subst huf
              go_wp2_with fail
              go_at_call 17
              refine (iFI_any x5 _ hx1 hx2 (HTab.out _ Y.out.below)).mono ?_
              rintro e wa ⟨rfl, hb⟩
              have OW := hide (OW.out.below hb)
              have HBw := hide (HBw.out.trans (hb.mono hgs.out))
              have Y := hide (Y.out.up hb)
              have hgs := hide (Nat.le_trans hgs.out hb.size)
              clear hb d5
              go_wp2_with (first | (at_builtin; refine sw_append _ rfl _ _ rfl g _ _ OW.out rfl _ _ _ rfl rfl hcnt.out hgs.out ?_; intro v6 w6 hown6 hb6) | fail)
              have OW := hide hown6
              have Y := hide (Y.out.at' hb6 hwg.out (by have := hng.out; simp; omega))
              have HBw := hide (HBw.out.trans hb6)
              have hgs := hide (Nat.le_trans hgs.out hb6.size)
              clear hown6 hb6
              go_roundw
              case rel => first
                | exact ⟨_, _, _, ⟨j + 1, by omega, by go_num, by rw [← hLn.out]; exact OW.out, HBw.out, Y.out, hgs.out⟩, rfl, rfl, rfl⟩
                | exact ⟨j + 1, by omega, by go_num, by rw [← hLn.out]; exact OW.out, HBw.out, Y.out, hgs.out⟩
              case measure => first | (simp [intOf]; done) | (simp [intOf]; omega)
            · have hje : j = nk := by omega
              have hfin := hide (show wds l ps (q + 1) (stP ps (q + 1) + j) = headW l ps ((q + 1) + 1) by
                obtain ⟨p1, p2, p3, p4⟩ := HPE.out
                rw [headW_succ, hje, hnk.out, p1, show stP ps (q + 1) + (endP l ps (q + 1) - stP ps (q + 1)) = endP l ps (q + 1) by omega])
              rw [hfin.out] at OW
              go_wp2_with fail
              go_roundw
              case rel => exact ⟨(q + 1) + 1, by have := hkn.out; omega, by go_num, OW.out, HBw.out, Y.out, hgs.out⟩
              case measure => first | (simp [intOf]; done) | (simp [intOf]; omega)
      · have hke : k = ps.length + 1 := by omega
        subst hke
        have hfin := hide (show headW l ps (ps.length + 1) = wds l ps ps.length l.length by
          rw [headW_succ]
          unfold endP
          rw [if_neg (by omega)])
        rw [hfin.out] at OW
        obtain ⟨hs1, hs2, hs3, -⟩ := part_end HS.out ps.length (Nat.le_refl _)
        obtain ⟨hlen1, hlen2⟩ := HWB.out ps.length l.length (Nat.le_refl _) (stP_le HS.out ps.length (Nat.le_refl _)) (Nat.le_refl _)
        obtain ⟨W, hW⟩ : ∃ W, W = wds l ps ps.length l.length := ⟨_, rfl⟩
        rw [← hW] at HF OW hlen1 hlen2
        have hjl := hide (join_len24 W hlen2)
        have hWl := hide (show W.length ≤ 2001 + 64 by omega)
        clear hW hlen1 hlen2 hs1 hs2 hs3 hfin
        by_cases hWn : W = []
        · have hf := hide (show b0 = [110, 111, 110, 101] by rw [HF.out, if_pos hWn])
          subst hWn
          obtain ⟨uw, ucap, huf⟩ := OW.out.form
          subst huf
          go_wp2_with fail
          go_ret
          exact ⟨by rw [hf.out]; rfl, Y.out.below⟩
        · have hf := hide (show b0 = Lib.join W [32] by rw [HF.out, if_neg hWn])
          obtain ⟨gw, ucap, huf, hgl, hcap, hcells⟩ := OW.out.cells hWn
          subst huf
          have hW0 : ¬ W.length = 0 := fun h => hWn (List.eq_nil_of_length_eq_zero h)
          have hmd : (W.map fun x => (⟨x.toArray⟩ : ByteArray)).map (·.data.toList) = W := by simp [List.map_map, Function.comp_def]
          have hJ := Tryd.strings_Join gw 0 ucap (W.map fun x => ⟨x.toArray⟩) ⟨#[32]⟩ wr hcells hgl (by rw [List.length_map]; have := hWl.out; omega) (by rw [List.length_map]; exact hcap) (by rw [hmd]; show (Lib.join W [32]).length ≤ _; have := hjl.out; have := hWl.out; omega)
          rw [hmd, List.length_map, show (ByteArray.mk #[32]).data.toList = [32] from rfl, ← hf.out] at hJ
          have HJ := hide hJ
          clear hJ hcells hgl hcap hmd
          go_wp2_with fail
          go_at_call 18
          refine HJ.out.mono ?_
          rintro e wj ⟨rfl, hb⟩
          go_wp2_with fail
          go_ret
          exact ⟨rfl, (Y.out.up hb).below⟩

end Go.Proofs.YtknmoinmfladbaaDoor
