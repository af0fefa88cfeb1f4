/- The laws' eqColumn, eqColumnS, eqTable. -/
import Derived.Test.YtiianddblanffaaDoorCols
import Derived.Deep.RegionWith
namespace Go.Proofs.YtiianddblanffaaDoor
open Go.RowKit Go.ChangeShapes
set_option linter.unusedSimpArgs false
set_option linter.unusedVariables false
set_option maxRecDepth 100000

theorem bytes_inj {n m : ByteArray} (h : n.toList = m.toList) : n = m := by
  rw [ByteArray.toList_eq, ByteArray.toList_eq] at h
  exact ByteArray.ext (Array.toList_inj.1 h)

set_option maxHeartbeats 1000000 in
theorem eqColumn_any (n m : ByteArray) (l k : List Int) (u v : Value) (w : World) (B : Nat) (hB : B ≤ w.heap.size) (hn : n.size ≤ 9223372036854775807) (hm : m.size ≤ 9223372036854775807) (hu : Ints w B u l) (hv : Ints w B v k) :
    Calls Tryd.prog 45 #[.agg #[.string n, u], .agg #[.string m, v]] w (RetB1 w (decide ((n, l) = (m, k)))) := by
  obtain ⟨b0, hb0⟩ : ∃ b0, b0 = decide ((n, l) = (m, k)) := ⟨_, rfl⟩
  rw [← hb0]
  have a1 := (Below.refl w.heap.size w).alloc (Nat.le_refl _) (.cells #[.string n, u] 42)
  have a2 := a1.alloc a1.size (.cells #[.string m, v] 42)
  by_cases h : n = m
  · have hd : (n.toList == m.toList) = true := by subst h; simp
    obtain ⟨t, ht⟩ : ∃ t, t = decide (l = k) := ⟨_, rfl⟩
    have hbt := hide (show b0 = t by rw [hb0, ht]; subst h; simp)
    have HT := hide ht
    have HH := hide h
    clear ht hb0 h
    cases t
    · go_enter Tryd.func45, Tryd.ntmps45
      go_wp2_with fail
      go_at_call 62
      refine (eqIntS_any _ _ l k _ B (hu.below a2 hB) (hv.below a2 hB)).mono ?_
      rintro e wa ⟨rfl, ha⟩
      rw [← HT.out]
      go_wp2_with fail
      go_ret
      exact ⟨by rw [hbt.out]; rfl, a2.trans (ha.mono a2.size)⟩
    · go_enter Tryd.func45, Tryd.ntmps45
      go_wp2_with fail
      go_at_call 62
      refine (eqIntS_any _ _ l k _ B (hu.below a2 hB) (hv.below a2 hB)).mono ?_
      rintro e wa ⟨rfl, ha⟩
      rw [← HT.out]
      go_wp2_with fail
      go_ret
      exact ⟨by rw [hbt.out]; rfl, a2.trans (ha.mono a2.size)⟩
  · have hd : (n.toList == m.toList) = false := by rw [beq_eq_false_iff_ne]; exact fun hh => h (bytes_inj hh)
    have hbf := hide (show b0 = false by rw [hb0]; simp [h])
    clear hb0 h
    go_enter Tryd.func45, Tryd.ntmps45
    go_wp2_with fail
    go_ret
    exact ⟨by rw [hbf.out]; rfl, a2⟩

theorem cols_eq_step {cs ds : List Col} {k : Nat} (h : cs.take k = ds.take k) (hl : k < cs.length) (hm : k < ds.length) (he : cs[k] = ds[k]) : cs.take (k + 1) = ds.take (k + 1) := by
  rw [List.take_succ_eq_append_getElem hl, List.take_succ_eq_append_getElem hm, h, he]

set_option maxHeartbeats 1000000 in
theorem eqColumnS_any (v u : Value) (cs ds : List Col) (w : World) (B : Nat) (hB : B ≤ w.heap.size) (hv : Cols w B v cs) (hu : Cols w B u ds) :
    Calls Tryd.prog 25 #[v, u] w (RetB1 w (decide (cs = ds))) := by
  obtain ⟨a, cap, rfl, hlen, hcell⟩ := hv
  obtain ⟨c, cap2, rfl, hlen2, hcell2⟩ := hu
  have HC := hide hcell
  have HC2 := hide hcell2
  clear hcell hcell2
  obtain ⟨b0, hb0⟩ : ∃ b0, b0 = decide (cs = ds) := ⟨_, rfl⟩
  rw [← hb0]
  have HB0 := hide hb0
  clear hb0
  by_cases hne : cs.length = ds.length
  · have hd : ((cs.length : Int) != (ds.length : Int)) = false := by rw [bne_eq_false_iff_eq]; omega
    have HN := hide hne
    clear hne
    go_enter Tryd.func25, Tryd.ntmps25
    go_wp2_with fail
    go_loopw [5] (fun i wr => ∃ (k : Nat), k ≤ cs.length ∧ i = .int .i64 k ∧ Hid (cs.take k = ds.take k) ∧ Below w.heap.size w wr) (fun i _ => cs.length - (intOf i).toNat)
    case atStart => exact ⟨0, by omega, rfl, rfl, Below.refl _ _⟩
    case round =>
      obtain ⟨k, hk, rfl, hpre, hb⟩ := hrel
      by_cases hlt : k < cs.length
      · have hlt2 : k < ds.length := by have := HN.out; omega
        obtain ⟨b, o, x, rfl, hbB, hc, hc2, hn, hi⟩ := HC.out k hlt
        obtain ⟨b', o', x', rfl, hbB', hc', hc2', hn', hi'⟩ := HC2.out k hlt2
        obtain ⟨p, hp⟩ : ∃ p, p = cs[k] := ⟨_, rfl⟩
        obtain ⟨q, hq⟩ : ∃ q, q = ds[k] := ⟨_, rfl⟩
        rw [← hp] at hc hn hi
        rw [← hq] at hc' hn' hi'
        obtain ⟨n, l⟩ := p
        obtain ⟨m, r⟩ := q
        simp only at hc hn hi hc' hn' hi'
        have d1 : wr.cell? ⟨b, o + k * 2, none⟩ = some (.string n) := by rw [hb.cell (p := ⟨b, o + k * 2, none⟩) (Nat.lt_of_lt_of_le hbB hB)]; exact hc
        have d2 : wr.cell? ⟨b, o + k * 2 + 1, none⟩ = some x := by rw [hb.cell (p := ⟨b, o + k * 2 + 1, none⟩) (Nat.lt_of_lt_of_le hbB hB)]; exact hc2
        have d3 : wr.cell? ⟨b', o' + k * 2, none⟩ = some (.string m) := by rw [hb.cell (p := ⟨b', o' + k * 2, none⟩) (Nat.lt_of_lt_of_le hbB' hB)]; exact hc'
        have d4 : wr.cell? ⟨b', o' + k * 2 + 1, none⟩ = some x' := by rw [hb.cell (p := ⟨b', o' + k * 2 + 1, none⟩) (Nat.lt_of_lt_of_le hbB' hB)]; exact hc2'
        have e1 := hi.below hb hB
        have e2 := hi'.below hb hB
        have HP := hide hp
        have HQ := hide hq
        clear hc hc2 hi hc' hc2' hi' hp hq
        obtain ⟨t, ht⟩ : ∃ t, t = decide ((n, l) = (m, r)) := ⟨_, rfl⟩
        have HT := hide ht
        clear ht
        cases t
        · have hfin := hide (show b0 = false by
            rw [HB0.out]
            refine decide_eq_false fun hh => ?_
            have h2 := HT.out.symm
            rw [decide_eq_false_iff_not] at h2
            exact h2 (by rw [HP.out, HQ.out]; subst hh; rfl))
          go_wp2_with fail
          go_region_with (go_at_call 45; refine (eqColumn_any n m l r _ _ wr.drew B (Nat.le_trans hB hb.size) hn hn' e1 e2).mono ?_; rintro e wa ⟨rfl, hba⟩; rw [← HT.out])
          all_goals go_wp2_with fail
          all_goals go_ret
          all_goals exact ⟨by rw [hfin.out]; rfl, hb.drew.trans (hba.mono hb.size)⟩
        · have hstep := hide (cols_eq_step hpre.out hlt hlt2 (by rw [← HP.out, ← HQ.out]; exact of_decide_eq_true HT.out.symm))
          go_wp2_with fail
          go_region_with (go_at_call 45; refine (eqColumn_any n m l r _ _ wr.drew B (Nat.le_trans hB hb.size) hn hn' e1 e2).mono ?_; rintro e wa ⟨rfl, hba⟩; rw [← HT.out])
          all_goals
            go_wp2_with fail
            go_roundw
            case rel => exact ⟨k + 1, by omega, by go_num, hstep, hb.drew.trans (hba.mono hb.size)⟩
            case measure => simp [intOf]; omega
      · have hke : k = cs.length := by omega
        subst hke
        have hfin := hide (show b0 = true by
          rw [HB0.out]
          have h1 := hpre.out
          rw [List.take_of_length_le (Nat.le_refl _), List.take_of_length_le (by have := HN.out; omega)] at h1
          simp [h1])
        go_wp2_with fail
        go_ret
        exact ⟨by rw [hfin.out]; rfl, hb⟩
  · have hd : ((cs.length : Int) != (ds.length : Int)) = true := by rw [bne_iff_ne]; omega
    have hfin := hide (show b0 = false by rw [HB0.out]; exact decide_eq_false (fun hh => hne (by rw [hh])))
    clear hne
    go_enter Tryd.func25, Tryd.ntmps25
    go_wp2_with fail
    go_ret
    exact ⟨by rw [hfin.out]; rfl, Below.refl _ _⟩

set_option maxHeartbeats 1000000 in
theorem eqTable_any (v u : Value) (cs ds : List Col) (w : World) (B : Nat) (hB : B ≤ w.heap.size) (hv : Tbl w B v cs) (hu : Tbl w B u ds) :
    Calls Tryd.prog 9 #[v, u] w (RetB1 w (decide (cs = ds))) := by
  obtain ⟨x, rfl, hx⟩ := hv
  obtain ⟨y, rfl, hy⟩ := hu
  have a1 := (Below.refl w.heap.size w).alloc (Nat.le_refl _) (.cells #[x] 29)
  have a2 := a1.alloc a1.size (.cells #[y] 29)
  have hx2 := hide (hx.below a2 hB)
  have hy2 := hide (hy.below a2 hB)
  obtain ⟨a, cap, rfl, -, -⟩ := hx
  obtain ⟨c, cap2, rfl, -, -⟩ := hy
  obtain ⟨b0, hb0⟩ : ∃ b0, b0 = decide (cs = ds) := ⟨_, rfl⟩
  rw [← hb0]
  have HB0 := hide hb0
  clear hb0
  cases b0
  · go_enter Tryd.func9, Tryd.ntmps9
    go_wp2_with fail
    go_at_call 25
    refine (eqColumnS_any _ _ cs ds _ B (Nat.le_trans hB a2.size) hx2.out hy2.out).mono ?_
    rintro e wa ⟨rfl, hba⟩
    rw [← HB0.out]
    go_wp2_with fail
    go_ret
    exact ⟨rfl, a2.trans (hba.mono a2.size)⟩
  · go_enter Tryd.func9, Tryd.ntmps9
    go_wp2_with fail
    go_at_call 25
    refine (eqColumnS_any _ _ cs ds _ B (Nat.le_trans hB a2.size) hx2.out hy2.out).mono ?_
    rintro e wa ⟨rfl, hba⟩
    rw [← HB0.out]
    go_wp2_with fail
    go_ret
    exact ⟨rfl, a2.trans (hba.mono a2.size)⟩

end Go.Proofs.YtiianddblanffaaDoor
