/- What IsTable, RowCount, FindColumn, ColumnOf of the reference return (promise 2). -/
import Derived.Test.YtgeegbbcjdlkbaaGreatDoorFind
namespace Go.Proofs.YtgeegbbcjdlkbaaGreatDoor
open Go.RowKit Go.ChangeShapes
set_option linter.unusedSimpArgs false
set_option linter.unusedVariables false
set_option maxRecDepth 100000

/-- Column i of a table is as the document asks. -/
def OkC (cs : List Col) (i : Nat) (h : i < cs.length) : Prop :=
  isNm cs[i].1.data.toList = true ∧ areVals cs[i].2 = true ∧ cs[i].2.length = (cs[0]'(by omega)).2.length ∧ ∀ k (hk : k < i), (cs[k]'(by omega)).1 ≠ cs[i].1

/-- A table as the document asks. -/
def IsT (cs : List Col) : Prop := (1 ≤ cs.length ∧ cs.length ≤ 4) ∧ ∀ i (h : i < cs.length), OkC cs i h

open Classical in
noncomputable def isT (cs : List Col) : Bool := decide (IsT cs)

theorem isT_no {cs : List Col} (h : ¬ IsT cs) : isT cs = false := by unfold isT; simp [h]
theorem isT_yes {cs : List Col} (h : IsT cs) : isT cs = true := by unfold isT; simp [h]
theorem isT_bad {cs : List Col} {i : Nat} (h : i < cs.length) (hb : ¬ OkC cs i h) : isT cs = false := isT_no fun ht => hb (ht.2 i h)


theorem hid_same {P : Program} {f : FuncId} {args : Array Value} {w : World} {v : Value} (h : Calls P f args w fun e w' => e = .returned v ∧ w = w') : Calls P f args w fun e w' => e = .returned v ∧ w' = w :=
  h.mono fun _ _ ⟨a, b⟩ => ⟨a, b.symm⟩

theorem ok_step {cs : List Col} {k : Nat} (hpre : ∀ j (_ : j < k) (h : j < cs.length), OkC cs j h) (hk : k < cs.length) (h : OkC cs k hk) : ∀ j (_ : j < k + 1) (h : j < cs.length), OkC cs j h := by
  intro j hj h2
  by_cases hjk : j = k
  · subst hjk; exact h
  · exact hpre j (by omega) h2

set_option maxHeartbeats 2000000 in
theorem sTable_any (v : Value) (cs : List Col) (w : World) (B : Nat) (hv : Tbl w B v cs) (hB : B ≤ w.heap.size) :
    Calls Tryz.prog 12 #[v] w (RetB1 w (isT cs)) := by
  obtain ⟨u, rfl, hu⟩ := hv
  obtain ⟨b0, hb0⟩ : ∃ b0, b0 = isT cs := ⟨_, rfl⟩
  have HB0 := hide hb0
  rw [← hb0]
  clear hb0
  obtain ⟨a, cap, rfl, hlen, hcell⟩ := hu
  have HC := hide hcell
  clear hcell
  by_cases hrng : 1 ≤ cs.length ∧ cs.length ≤ 4
  · obtain ⟨r1, r2⟩ := hrng
    have tcell := cell_new w #[.slice a cs.length cap] 26 0
    have HTC := hide tcell
    clear tcell
    go_enter Tryz.func12, Tryz.ntmps12
    go_wp2_with (go_at_call 44; refine (in_yes _ _ _ _ (by omega) (by omega)).mono ?_; rintro e wa ⟨rfl, rfl⟩)
    go_loopw [3] (fun i wr => ∃ (k : Nat), k ≤ cs.length ∧ i = .int .i64 k ∧ Hid (∀ j (_ : j < k) (h : j < cs.length), OkC cs j h) ∧ Below w.heap.size w wr ∧ wr.cell? ⟨w.heap.size, 0, none⟩ = some (.slice a cs.length cap) ∧ Hid (w.heap.size < wr.heap.size)) (fun i _ => cs.length - (intOf i).toNat)
    case atStart => exact ⟨0, by omega, rfl, fun j hj => by omega, (Below.refl _ _).alloc (Nat.le_refl _) _, HTC.out, by show _ < _; rw [alloc_size]; omega⟩
    case round =>
      obtain ⟨k, hk, rfl, hpre, hb, tc, hsz⟩ := hrel
      by_cases hlt : k < cs.length
      · obtain ⟨b, o, u, rfl, hbB, hc, hc2, hn, hi⟩ := HC.out k hlt
        obtain ⟨b', o', u', he, hbB', hc', hc2', hn', hi'⟩ := HC.out 0 (by omega)
        obtain ⟨rfl, rfl⟩ : b = b' ∧ o = o' := by simpa using he
        clear he hbB' hc' hn'
        obtain ⟨p, hp⟩ : ∃ p, p = cs[k] := ⟨_, rfl⟩
        obtain ⟨q, hq⟩ : ∃ q, q = cs[0]'(by omega) := ⟨_, rfl⟩
        rw [← hp] at hc hn hi
        rw [← hq] at hi'
        obtain ⟨n, l⟩ := p
        obtain ⟨n', l'⟩ := q
        simp only at hc hn hi hi'
        have d1 : wr.cell? ⟨b, o + k * 2, none⟩ = some (.string n) := by rw [hb.cell (p := ⟨b, o + k * 2, none⟩) (Nat.lt_of_lt_of_le hbB hB)]; exact hc
        have d2 : wr.cell? ⟨b, o + k * 2 + 1, none⟩ = some u := by rw [hb.cell (p := ⟨b, o + k * 2 + 1, none⟩) (Nat.lt_of_lt_of_le hbB hB)]; exact hc2
        have e1 := hi.below hb hB
        obtain ⟨a3, c3, rfl, hl3, -, -⟩ := hi
        obtain ⟨a4, c4, rfl, hl4, -, -⟩ := hi'
        have HP := hide hp
        have HQ := hide hq
        have HC2 := hide hc2'
        have E1 := hide e1
        clear hc hc2 hc2' hp hq e1
        have hbx := hide (hb.alloc hb.size (.cells #[.string n, .slice a3 l.length c3] 58))
        have txx : (wr.alloc (.cells #[.string n, .slice a3 l.length c3] 58)).cell? ⟨w.heap.size, 0, none⟩ = some (.slice (some ⟨b, o, none⟩) cs.length cap) := by
          rw [((Below.refl wr.heap.size wr).alloc (Nat.le_refl _) _).cell (p := ⟨w.heap.size, 0, none⟩) hsz.out]; exact tc
        have TX := hide txx
        have SX := hide (show w.heap.size < (wr.alloc (.cells #[.string n, .slice a3 l.length c3] 58)).heap.size by rw [alloc_size]; have := hsz.out; omega)
        have xc0 := cell_new wr #[.string n, .slice a3 l.length c3] 58 0
        have xc1 := cell_new wr #[.string n, .slice a3 l.length c3] 58 1
        have X0 := hide xc0
        have X1 := hide xc1
        have I1 := hide (E1.out.below ((Below.refl wr.heap.size wr).alloc (Nat.le_refl _) (.cells #[.string n, .slice a3 l.length c3] 58)) (Nat.le_trans hB hb.size))
        obtain ⟨g, hg⟩ : ∃ g, g = wr.heap.size := ⟨_, rfl⟩
        clear txx xc0 xc1
        go_wp2_with fail
        rw [← hg] at X0 X1
        try rw [← hg]
        obtain ⟨wx, hwx⟩ : ∃ wx, wx = wr.alloc (.cells #[.string n, .slice a3 l.length c3] 58) := ⟨_, rfl⟩
        rw [← hwx] at hbx TX X0 X1 I1 SX
        try rw [← hwx]
        clear hwx hg tc d1 d2 hsz
        have tcx := TX.out
        have x0 := X0.out
        have x1 := X1.out
        have hbx' := hbx.out
        have d3 : wx.cell? ⟨b, o + 1, none⟩ = some (.slice a4 l'.length c4) := by
          rw [hbx'.cell (p := ⟨b, o + 1, none⟩) (Nat.lt_of_lt_of_le hbB hB)]; simpa using HC2.out
        clear hbx'
        simp at x0 x1
        have HX0 := hide x0
        have HX1 := hide x1
        obtain ⟨t1, ht1⟩ : ∃ t, t = isNm n.data.toList := ⟨_, rfl⟩
        obtain ⟨t2, ht2⟩ : ∃ t, t = areVals l := ⟨_, rfl⟩
        have CN := hide (fun (W : World) => hid_same (sName_any n W hn))
        have CV := hide (fun (q : Nat) => sVals_drew _ l (wx.drewN q) B (I1.out.below (below_drewN (Below.refl B wx) q) (Nat.le_refl _)))
        rw [← ht1] at CN
        rw [← ht2] at CV
        have HT1 := hide ht1
        have HT2 := hide ht2
        clear ht1 ht2
        cases t1
        · have hfin := hide (show b0 = false by
            rw [HB0.out]
            refine isT_bad hlt fun hok => ?_
            have := hok.1
            rw [← HP.out, ← HT1.out] at this
            cases this)
          go_quiet ((go_at_call 45; exact Calls.quiet_of_same (CN.out _)))
          go_wp2_with fail
          go_ret
          exact ⟨by rw [hfin.out]; rfl, below_drewN hbx.out _⟩
        · cases t2
          · have hfin := hide (show b0 = false by
              rw [HB0.out]
              refine isT_bad hlt fun hok => ?_
              have := hok.2.1
              rw [← HP.out, ← HT2.out] at this
              cases this)
            go_quiet (first | (go_at_call 45; exact Calls.quiet_of_same (CN.out _)) | (go_at_call 46; exact Calls.quiet_of (CV.out _)))
            go_wp2_with fail
            go_ret
            exact ⟨by rw [hfin.out]; rfl, below_drewN hbx.out _⟩
          · by_cases hll : l.length = l'.length
            · have hld : ((l.length : Int) != (l'.length : Int)) = false := by rw [bne_eq_false_iff_eq]; omega
              have HLL := hide hll
              clear hll
              go_quiet (first | (go_at_call 45; exact Calls.quiet_of_same (CN.out _)) | (go_at_call 46; exact Calls.quiet_of (CV.out _)))
              go_wp2_with fail
              go_loopw [5] (fun i wi => ∃ (p q : Nat), p ≤ k ∧ i = .int .i64 p ∧ Hid (∀ j (_ : j < p) (h : j < cs.length), cs[j].1 ≠ n) ∧ wi = wx.drewN q) (fun i _ => k - (intOf i).toNat)
              case atStart => exact ⟨0, nq, by omega, rfl, fun j hj => by omega, rfl⟩
              case round =>
                obtain ⟨p, q, hpk, rfl, hpp, rfl⟩ := hrel
                by_cases hlt2 : p < k
                · obtain ⟨b', o', u', he, hbB', hc', hc2', hn', hi'⟩ := HC.out p (by omega)
                  obtain ⟨rfl, rfl⟩ : b = b' ∧ o = o' := by simpa using he
                  obtain ⟨y, hy⟩ : ∃ y, y = cs[p]'(by omega) := ⟨_, rfl⟩
                  rw [← hy] at hc' hn'
                  obtain ⟨m, ly⟩ := y
                  simp only at hc' hn'
                  have hbx' := hbx.out
                  have dm : wx.cell? ⟨b, o + p * 2, none⟩ = some (.string m) := by rw [hbx'.cell (p := ⟨b, o + p * 2, none⟩) (Nat.lt_of_lt_of_le hbB hB)]; exact hc'
                  have HY := hide hy
                  clear he hbB' hc' hc2' hi' hy hbx'
                  by_cases hmn : m = n
                  · have ht : (m.toList == n.toList) = true := by subst hmn; simp
                    have hfin := hide (show b0 = false by
                      rw [HB0.out]
                      refine isT_bad hlt fun hok => ?_
                      exact hok.2.2.2 p hlt2 (by rw [← HP.out, ← HY.out]; exact hmn))
                    clear hmn
                    go_wp2_with fail
                    go_quiet (fail)
                    go_wp2_with fail
                    go_ret
                    exact ⟨by rw [hfin.out]; rfl, below_drewN (below_drewN hbx.out _) _⟩
                  · have ht := str_ne hmn
                    have hstep := hide (ne_step hpp.out (by omega) HY.out hmn)
                    clear hmn
                    go_wp2_with fail
                    go_quiet (fail)
                    go_wp2_with fail
                    go_roundw
                    case rel => exact ⟨p + 1, q + nq, by omega, by go_num, hstep, rfl⟩
                    case measure => simp [intOf]; omega
                · have hke : p = k := by omega
                  subst hke
                  have hok := hide (ok_step hpre.out hlt (show OkC cs p hlt from ⟨by rw [← HP.out]; exact HT1.out.symm, by rw [← HP.out]; exact HT2.out.symm, by rw [← HP.out, ← HQ.out]; exact HLL.out, fun j hj => by rw [← HP.out]; exact hpp.out j hj (by omega)⟩))
                  have hs2 := hide (show w.heap.size < (wx.drewN q).heap.size from SX.out)
                  go_wp2_with fail
                  go_roundw
                  case rel => exact ⟨p + 1, by omega, by go_num, hok, below_drewN hbx.out _, TX.out, hs2⟩
                  case measure => simp [intOf]; omega
            · have hld : ((l.length : Int) != (l'.length : Int)) = true := by rw [bne_iff_ne]; omega
              have hfin := hide (show b0 = false by
                rw [HB0.out]
                refine isT_bad hlt fun hok => ?_
                have := hok.2.2.1
                rw [← HP.out, ← HQ.out] at this
                exact hll this)
              clear hll
              go_quiet (first | (go_at_call 45; exact Calls.quiet_of_same (CN.out _)) | (go_at_call 46; exact Calls.quiet_of (CV.out _)))
              go_wp2_with fail
              go_ret
              exact ⟨by rw [hfin.out]; rfl, below_drewN hbx.out _⟩
      · have hke : k = cs.length := by omega
        subst hke
        have hfin := hide (show b0 = true by rw [HB0.out]; exact isT_yes ⟨⟨r1, r2⟩, fun i h => hpre.out i h h⟩)
        go_wp2_with fail
        go_ret
        exact ⟨by rw [hfin.out]; rfl, hb⟩
  · have hfin := hide (show b0 = false by rw [HB0.out]; exact isT_no fun h => hrng h.1)
    go_enter Tryz.func12, Tryz.ntmps12
    go_wp2_with (go_at_call 44; refine (in_no _ _ _ _ (by omega)).mono ?_; rintro e wa ⟨rfl, rfl⟩)
    go_ret
    exact ⟨by rw [hfin.out]; rfl, (Below.refl _ _).alloc (Nat.le_refl _) _⟩

end Go.Proofs.YtgeegbbcjdlkbaaGreatDoor
