/- What IsTable of the program returns (promise 2). -/
import Derived.Test.YtgeegbbcjdlkbaaGreatDoorTbl
import Derived.Test.YtgeegbbcjdlkbaaGreatDoorNameI
namespace Go.Proofs.YtgeegbbcjdlkbaaGreatDoor
open Go.RowKit Go.ChangeShapes
set_option linter.unusedSimpArgs false
set_option linter.unusedVariables false
set_option maxRecDepth 100000

theorem findC_first {cs : List Col} {n : ByteArray} {k : Nat} (hf : findC cs n = k) : ∀ j (_ : j < k) (h : j < cs.length), cs[j].1 ≠ n := by
  unfold findC at hf
  cases h : cs.findIdx? (fun c => decide (c.1 = n)) with
  | none => rw [h] at hf; have hf' : (-1 : Int) = (k : Int) := hf; omega
  | some i =>
    rw [h] at hf
    have hf' : (i : Int) = (k : Int) := hf
    have hi : i = k := by omega
    subst hi
    rw [List.findIdx?_eq_some_iff_getElem] at h
    obtain ⟨hi, _, h2⟩ := h
    intro j hj hjl
    simpa using h2 j hj

set_option maxHeartbeats 2000000 in
theorem iTable_any (v : Value) (cs : List Col) (w : World) (B : Nat) (hv : Tbl w B v cs) (hB : B ≤ w.heap.size) :
    Calls Tryz.prog 30 #[v] w (RetB1 w (isT cs)) := by
  obtain ⟨u, rfl, hu⟩ := hv
  obtain ⟨b0, hb0⟩ : ∃ b0, b0 = isT cs := ⟨_, rfl⟩
  have HB0 := hide hb0
  rw [← hb0]
  clear hb0
  have HU := hide hu
  obtain ⟨a, cap, rfl, hlen, hcell⟩ := hu
  have HC := hide hcell
  clear hcell
  by_cases r1 : cs.length < 1
  · have hfin := hide (show b0 = false by rw [HB0.out]; exact isT_no fun h => by have := h.1; omega)
    have d1 : decide ((cs.length : Int) < 1) = true := by simp; omega
    go_enter Tryz.func30, Tryz.ntmps30
    go_wp2_with fail
    go_ret
    exact ⟨by rw [hfin.out]; rfl, (Below.refl _ _).alloc (Nat.le_refl _) _⟩
  · have d1 : decide ((cs.length : Int) < 1) = false := by simp; omega
    by_cases r2 : 4 < cs.length
    · have hfin := hide (show b0 = false by rw [HB0.out]; exact isT_no fun h => by have := h.1; omega)
      have d2 : decide ((cs.length : Int) > 4) = true := by simp; omega
      go_enter Tryz.func30, Tryz.ntmps30
      go_wp2_with fail
      go_ret
      exact ⟨by rw [hfin.out]; rfl, (Below.refl _ _).alloc (Nat.le_refl _) _⟩
    · have d2 : decide ((cs.length : Int) > 4) = false := by simp; omega
      have tcell := cell_new w #[.slice a cs.length cap] 26 0
      have HTC := hide tcell
      clear tcell
      obtain ⟨b, o, u, rfl, hbB, hc, hc2, hn, hi⟩ := HC.out 0 (by omega)
      obtain ⟨q, hq⟩ : ∃ q, q = cs[0]'(by omega) := ⟨_, rfl⟩
      rw [← hq] at hi
      obtain ⟨n0, l0⟩ := q
      simp only at hi
      obtain ⟨a4, c4, rfl, hl4, -, -⟩ := hi
      have d3 : (w.alloc (.cells #[.slice (some ⟨b, o, none⟩) cs.length cap] 26)).cell? ⟨b, o + 1, none⟩ = some (.slice a4 l0.length c4) := by
        rw [((Below.refl w.heap.size w).alloc (Nat.le_refl _) _).cell (p := ⟨b, o + 1, none⟩) (Nat.lt_of_lt_of_le hbB hB)]; simpa using hc2
      have d3' : w.cell? ⟨b, o + 1, none⟩ = some (.slice a4 l0.length c4) := by simpa using hc2
      have HQ := hide hq
      clear hc hc2 hn hq
      go_enter Tryz.func30, Tryz.ntmps30
      go_wp2_with fail
      go_loopw [25] (fun i wr => ∃ (k : Nat), k ≤ cs.length ∧ i = .int .i64 k ∧ Hid (∀ j (_ : j < k) (h : j < cs.length), OkC cs j h) ∧ Below w.heap.size w wr ∧ wr.cell? ⟨w.heap.size, 0, none⟩ = some (.slice (some ⟨b, o, none⟩) cs.length cap) ∧ Hid (w.heap.size < wr.heap.size)) (fun i _ => cs.length - (intOf i).toNat)
      case atStart => exact ⟨0, by omega, rfl, fun j hj => by omega, (Below.refl _ _).alloc (Nat.le_refl _) _, HTC.out, by show _ < _; rw [alloc_size]; omega⟩
      case round =>
        clear d3 d3'
        obtain ⟨k, hk, rfl, hpre, hb, tc, hsz⟩ := hrel
        by_cases hlt : k < cs.length
        · obtain ⟨b', o', u, he, hbB', hc, hc2, hn, hi⟩ := HC.out k hlt
          obtain ⟨rfl, rfl⟩ : b = b' ∧ o = o' := by simpa using he
          clear he hbB'
          obtain ⟨p, hp⟩ : ∃ p, p = cs[k] := ⟨_, rfl⟩
          rw [← hp] at hc hn hi
          obtain ⟨n, l⟩ := p
          simp only at hc hn hi
          have d1' : wr.cell? ⟨b, o + k * 2, none⟩ = some (.string n) := by rw [hb.cell (p := ⟨b, o + k * 2, none⟩) (Nat.lt_of_lt_of_le hbB hB)]; exact hc
          have d2' : wr.cell? ⟨b, o + k * 2 + 1, none⟩ = some u := by rw [hb.cell (p := ⟨b, o + k * 2 + 1, none⟩) (Nat.lt_of_lt_of_le hbB hB)]; exact hc2
          have e1 := hi.below hb hB
          obtain ⟨a3, c3, rfl, hl3, -, -⟩ := hi
          have HP := hide hp
          have hba := (Below.refl wr.heap.size wr).alloc (Nat.le_refl _) (.cells #[.string n, .slice a3 l.length c3] 58)
          have hbx := hide (hb.alloc hb.size (.cells #[.string n, .slice a3 l.length c3] 58))
          have txx : (wr.alloc (.cells #[.string n, .slice a3 l.length c3] 58)).cell? ⟨w.heap.size, 0, none⟩ = some (.slice (some ⟨b, o, none⟩) cs.length cap) := by
            rw [hba.cell (p := ⟨w.heap.size, 0, none⟩) hsz.out]; exact tc
          have TX := hide txx
          have SX := hide (show w.heap.size < (wr.alloc (.cells #[.string n, .slice a3 l.length c3] 58)).heap.size by rw [alloc_size]; have := hsz.out; omega)
          have X0 := hide (cell_new wr #[.string n, .slice a3 l.length c3] 58 0)
          have X1 := hide (cell_new wr #[.string n, .slice a3 l.length c3] 58 1)
          have I1 := hide (e1.below hba (Nat.le_trans hB hb.size))
          have U1 := hide ((HU.out.below hb hB).below hba (Nat.le_trans hB hb.size))
          have BX := hide (Nat.le_trans hB hbx.out.size)
          clear hc hc2 hp e1 hba txx
          obtain ⟨t1, ht1⟩ : ∃ t, t = isNm n.data.toList := ⟨_, rfl⟩
          obtain ⟨t2, ht2⟩ : ∃ t, t = areVals l := ⟨_, rfl⟩
          have CN := hide (fun (W : World) => iName_any n W hn)
          rw [← ht1] at CN
          have HT1 := hide ht1
          have HT2 := hide ht2
          clear ht1 ht2
          go_wp2_with (fail)
          obtain ⟨g, hg⟩ : ∃ g, g = wr.heap.size := ⟨_, rfl⟩
          rw [← hg] at X0 X1
          try rw [← hg]
          obtain ⟨wx, hwx⟩ : ∃ wx, wx = wr.alloc (.cells #[.string n, .slice a3 l.length c3] 58) := ⟨_, rfl⟩
          rw [← hwx] at hbx TX X0 X1 I1 U1 BX SX
          try rw [← hwx]
          clear hwx hg tc d1' d2' hsz
          have tcx := TX.out
          have x0 := X0.out
          have x1 := X1.out
          simp at x0 x1
          have CV := hide (iVals_same _ l wx B I1.out)
          rw [← HT2.out] at CV
          cases t1
          · have hfin := hide (show b0 = false by
              rw [HB0.out]
              refine isT_bad hlt fun hok => ?_
              have := hok.1
              rw [← HP.out, ← HT1.out] at this
              cases this)
            go_at_call 53
            refine (CN.out _).mono ?_
            rintro e wa ⟨rfl, rfl⟩
            go_wp2_with fail
            go_ret
            exact ⟨by rw [hfin.out]; rfl, hbx.out⟩
          · cases t2
            · have hfin := hide (show b0 = false by
                rw [HB0.out]
                refine isT_bad hlt fun hok => ?_
                have := hok.2.1
                rw [← HP.out, ← HT2.out] at this
                cases this)
              go_at_call 53
              refine (CN.out _).mono ?_
              rintro e wa ⟨rfl, rfl⟩
              go_wp2_with fail
              go_at_call 54
              refine CV.out.mono ?_
              rintro e wa ⟨rfl, rfl⟩
              go_wp2_with fail
              go_ret
              exact ⟨by rw [hfin.out]; rfl, hbx.out⟩
            · by_cases hll : l.length = l0.length
              · have hld : ((l.length : Int) != (l0.length : Int)) = false := by rw [bne_eq_false_iff_eq]; omega
                have HLL := hide hll
                clear hll
                obtain ⟨z, hz⟩ : ∃ z, z = findC cs n := ⟨_, rfl⟩
                have CF := hide (iFind_any _ cs n wx B ⟨_, rfl, U1.out⟩ BX.out hn)
                rw [← hz] at CF
                have HZ := hide hz
                clear hz
                by_cases hzk : z = k
                · have hzd : (z != (k : Int)) = false := by rw [bne_eq_false_iff_eq]; exact hzk
                  have HZK := hide hzk
                  clear hzk
                  have hok := hide (ok_step hpre.out hlt (show OkC cs k hlt from ⟨by rw [← HP.out]; exact HT1.out.symm, by rw [← HP.out]; exact HT2.out.symm, by rw [← HP.out, ← HQ.out]; exact HLL.out, fun j hj => by rw [← HP.out]; exact findC_first (HZ.out.symm.trans HZK.out) j hj (by omega)⟩))
                  go_at_call 53
                  refine (CN.out _).mono ?_
                  rintro e wa ⟨rfl, rfl⟩
                  go_wp2_with fail
                  go_at_call 54
                  refine CV.out.mono ?_
                  rintro e wa ⟨rfl, rfl⟩
                  go_wp2_with fail
                  go_at_call 26
                  refine CF.out.mono ?_
                  rintro e wa ⟨rfl, hba⟩
                  have HBA := hide hba
                  clear hba
                  go_wp2_with fail
                  go_roundw
                  case rel => exact ⟨k + 1, by omega, by go_num, hok, hbx.out.trans (HBA.out.mono hbx.out.size), by rw [HBA.out.cell (p := ⟨w.heap.size, 0, none⟩) SX.out]; exact TX.out, Nat.lt_of_lt_of_le SX.out HBA.out.size⟩
                  case measure => simp [intOf]; omega
                · have hzd : (z != (k : Int)) = true := by rw [bne_iff_ne]; exact hzk
                  have hfin := hide (show b0 = false by
                    rw [HB0.out]
                    refine isT_bad hlt fun hok => ?_
                    refine hzk (HZ.out.trans (findC_at hlt (by rw [← HP.out]) fun j hj h => ?_))
                    have := hok.2.2.2 j hj
                    rw [← HP.out] at this
                    exact this)
                  clear hzk
                  go_at_call 53
                  refine (CN.out _).mono ?_
                  rintro e wa ⟨rfl, rfl⟩
                  go_wp2_with fail
                  go_at_call 54
                  refine CV.out.mono ?_
                  rintro e wa ⟨rfl, rfl⟩
                  go_wp2_with fail
                  go_at_call 26
                  refine CF.out.mono ?_
                  rintro e wa ⟨rfl, hba⟩
                  have HBA := hide hba
                  clear hba
                  go_wp2_with fail
                  go_ret
                  exact ⟨by rw [hfin.out]; rfl, hbx.out.trans (HBA.out.mono hbx.out.size)⟩
              · have hld : ((l.length : Int) != (l0.length : Int)) = true := by rw [bne_iff_ne]; omega
                have hfin := hide (show b0 = false by
                  rw [HB0.out]
                  refine isT_bad hlt fun hok => ?_
                  have := hok.2.2.1
                  rw [← HP.out, ← HQ.out] at this
                  exact hll this)
                clear hll
                go_at_call 53
                refine (CN.out _).mono ?_
                rintro e wa ⟨rfl, rfl⟩
                go_wp2_with fail
                go_at_call 54
                refine CV.out.mono ?_
                rintro e wa ⟨rfl, rfl⟩
                go_wp2_with fail
                go_ret
                exact ⟨by rw [hfin.out]; rfl, hbx.out⟩
        · have hke : k = cs.length := by omega
          subst hke
          have hfin := hide (show b0 = true by rw [HB0.out]; exact isT_yes ⟨⟨by omega, by omega⟩, fun i h => hpre.out i h h⟩)
          go_wp2_with fail
          go_ret
          exact ⟨by rw [hfin.out]; rfl, hb⟩

end Go.Proofs.YtgeegbbcjdlkbaaGreatDoor
