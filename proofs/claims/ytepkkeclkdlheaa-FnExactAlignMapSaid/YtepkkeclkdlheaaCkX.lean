/- What EqualCrackers returns: of the reference and of the program (promise 3). -/
import Derived.Test.YtepkkeclkdlheaaCkE
namespace Go.Proofs.Ytepkkeclkdlheaa
open Go.RowKit Go.ChangeShapes
set_option linter.unusedSimpArgs false
set_option linter.unusedVariables false
set_option maxRecDepth 100000

/-- Do two columns read alike? -/
def eqC (l r : List Int) (ps : List Pv) (l' r' : List Int) (ps' : List Pv) : Bool := decide (l = l') && (decide (r = r') && decide (ps = ps'))

set_option maxHeartbeats 1000000 in
theorem sL4Ints_any (v u : Value) (l m : List Int) (w : World) (B : Nat) (hv : Ints w B v l) (hu : Ints w B u m) :
    Calls Try.prog 90 #[v, u] w (RetB1 w (decide (l = m))) := by
  obtain ⟨a, cap, rfl, hlen, hwf, hcell⟩ := hv
  obtain ⟨c, cap2, rfl, hlen2, hwf2, hcell2⟩ := hu
  have HC := hide hcell
  have HC2 := hide hcell2
  clear hcell hcell2 hwf hwf2
  by_cases hne : l.length = m.length
  · have hd : ((l.length : Int) != (m.length : Int)) = false := by rw [bne_eq_false_iff_eq]; omega
    have hd2 : ((l.length : Int) == (m.length : Int)) = true := by rw [beq_iff_eq]; omega
    obtain ⟨b0, hb0⟩ : ∃ b0, b0 = decide (l = m) := ⟨_, rfl⟩
    have HN := hide hne
    have HB := hide hb0
    rw [← hb0]
    clear hne hb0
    go_enter Try.func90, Try.ntmps90
    go_wp2
    go_loopw [5] (fun i wr => ∃ (k q : Nat), k ≤ l.length ∧ i = .int .i64 k ∧ Hid (l.take k = m.take k) ∧ wr = w.drewN q) (fun i _ => l.length - (intOf i).toNat)
    case atStart => exact ⟨0, 0, by omega, rfl, rfl, rfl⟩
    case round =>
      obtain ⟨k, q, hk, rfl, hpre, rfl⟩ := hrel
      by_cases hlt : k < l.length
      · have hlt2 : k < m.length := by have := HN.out; omega
        obtain ⟨b, o, rfl, hbB, hc⟩ := HC.out k hlt
        obtain ⟨b2, o2, rfl, hbB2, hc2⟩ := HC2.out k hlt2
        obtain ⟨x, hx⟩ : ∃ x, x = l[k] := ⟨_, rfl⟩
        obtain ⟨y, hy⟩ : ∃ y, y = m[k] := ⟨_, rfl⟩
        rw [← hx] at hc
        rw [← hy] at hc2
        have HX := hide hx
        have HY := hide hy
        clear hx hy
        by_cases hxy : x = y
        · have ht : (x != y) = false := by rw [bne_eq_false_iff_eq]; exact hxy
          have HE := hide hxy
          clear hxy
          go_wp2
          go_quiet (fail)
          go_wp2
          go_roundw
          case rel => exact ⟨k + 1, q + nq, by omega, by go_num, take_eq_step hpre.out hlt hlt2 (by rw [← HX.out, ← HY.out]; exact HE.out), rfl⟩
          case measure => simp [intOf]; omega
        · have ht : (x != y) = true := by rw [bne_iff_ne]; exact hxy
          have HE := hide hxy
          clear hxy
          go_wp2
          go_quiet (fail)
          go_wp2
          go_ret
          refine ⟨?_, below_drewN (below_drewN (Below.refl _ _) _) _⟩
          rw [HB.out, decide_eq_false (fun hh => HE.out (by rw [HX.out, HY.out]; subst hh; rfl))]
          rfl
      · have hke : k = l.length := by omega
        subst hke
        have hlm : b0 = true := by
          rw [HB.out]
          have h1 := hpre.out
          rw [List.take_of_length_le (Nat.le_refl _), List.take_of_length_le (by have := HN.out; omega)] at h1
          simp [h1]
        have HLM := hide hlm
        clear hlm
        go_wp2
        go_ret
        exact ⟨by rw [HLM.out]; rfl, below_drewN (Below.refl _ _) _⟩
  · have hd : ((l.length : Int) != (m.length : Int)) = true := by rw [bne_iff_ne]; omega
    have hd2 : ((l.length : Int) == (m.length : Int)) = false := by rw [beq_eq_false_iff_ne]; omega
    have hb0 := hide (show decide (l = m) = false from decide_eq_false (fun hh => hne (by rw [hh])))
    clear hne
    go_enter Try.func90, Try.ntmps90
    go_wp2
    go_ret
    exact ⟨by rw [hb0.out]; rfl, Below.refl _ _⟩

set_option maxHeartbeats 1000000 in
theorem iEqInts_any (v u : Value) (l m : List Int) (w : World) (B : Nat) (hv : Ints w B v l) (hu : Ints w B u m) :
    Calls Try.prog 91 #[v, u] w (RetB1 w (decide (l = m))) := by
  obtain ⟨a, cap, rfl, hlen, hwf, hcell⟩ := hv
  obtain ⟨c, cap2, rfl, hlen2, hwf2, hcell2⟩ := hu
  have HC := hide hcell
  have HC2 := hide hcell2
  clear hcell hcell2 hwf hwf2
  by_cases hne : l.length = m.length
  · have hd : ((l.length : Int) != (m.length : Int)) = false := by rw [bne_eq_false_iff_eq]; omega
    have hd2 : ((l.length : Int) == (m.length : Int)) = true := by rw [beq_iff_eq]; omega
    obtain ⟨b0, hb0⟩ : ∃ b0, b0 = decide (l = m) := ⟨_, rfl⟩
    have HN := hide hne
    have HB := hide hb0
    rw [← hb0]
    clear hne hb0
    go_enter Try.func91, Try.ntmps91
    go_wp2
    go_loopw [13] (fun i wr => ∃ (k q : Nat), k ≤ l.length ∧ i = .int .i64 k ∧ Hid (l.take k = m.take k) ∧ wr = w.drewN q) (fun i _ => l.length - (intOf i).toNat)
    case atStart => exact ⟨0, 0, by omega, rfl, rfl, rfl⟩
    case round =>
      obtain ⟨k, q, hk, rfl, hpre, rfl⟩ := hrel
      by_cases hlt : k < l.length
      · have hlt2 : k < m.length := by have := HN.out; omega
        obtain ⟨b, o, rfl, hbB, hc⟩ := HC.out k hlt
        obtain ⟨b2, o2, rfl, hbB2, hc2⟩ := HC2.out k hlt2
        obtain ⟨x, hx⟩ : ∃ x, x = l[k] := ⟨_, rfl⟩
        obtain ⟨y, hy⟩ : ∃ y, y = m[k] := ⟨_, rfl⟩
        rw [← hx] at hc
        rw [← hy] at hc2
        have HX := hide hx
        have HY := hide hy
        clear hx hy
        by_cases hxy : x = y
        · have ht : (x != y) = false := by rw [bne_eq_false_iff_eq]; exact hxy
          have HE := hide hxy
          clear hxy
          go_wp2
          go_quiet (fail)
          go_wp2
          go_roundw
          case rel => exact ⟨k + 1, q + nq, by omega, by go_num, take_eq_step hpre.out hlt hlt2 (by rw [← HX.out, ← HY.out]; exact HE.out), rfl⟩
          case measure => simp [intOf]; omega
        · have ht : (x != y) = true := by rw [bne_iff_ne]; exact hxy
          have HE := hide hxy
          clear hxy
          go_wp2
          go_quiet (fail)
          go_wp2
          go_ret
          refine ⟨?_, below_drewN (below_drewN (Below.refl _ _) _) _⟩
          rw [HB.out, decide_eq_false (fun hh => HE.out (by rw [HX.out, HY.out]; subst hh; rfl))]
          rfl
      · have hke : k = l.length := by omega
        subst hke
        have hlm : b0 = true := by
          rw [HB.out]
          have h1 := hpre.out
          rw [List.take_of_length_le (Nat.le_refl _), List.take_of_length_le (by have := HN.out; omega)] at h1
          simp [h1]
        have HLM := hide hlm
        clear hlm
        go_wp2
        go_ret
        exact ⟨by rw [HLM.out]; rfl, below_drewN (Below.refl _ _) _⟩
  · have hd : ((l.length : Int) != (m.length : Int)) = true := by rw [bne_iff_ne]; omega
    have hd2 : ((l.length : Int) == (m.length : Int)) = false := by rw [beq_eq_false_iff_ne]; omega
    have hb0 := hide (show decide (l = m) = false from decide_eq_false (fun hh => hne (by rw [hh])))
    clear hne
    go_enter Try.func91, Try.ntmps91
    go_wp2
    go_ret
    exact ⟨by rw [hb0.out]; rfl, Below.refl _ _⟩

set_option maxHeartbeats 1000000 in
theorem sL4Same_any (v u : Value) (l m : List Pv) (w : World) (B : Nat) (hv : Pvs w B v l) (hu : Pvs w B u m) :
    Calls Try.prog 128 #[v, u] w (RetB1 w (decide (l = m))) := by
  obtain ⟨a, cap, rfl, hlen, hwf, hcell⟩ := hv
  obtain ⟨c, cap2, rfl, hlen2, hwf2, hcell2⟩ := hu
  have HC := hide hcell
  have HC2 := hide hcell2
  clear hcell hcell2 hwf hwf2
  by_cases hne : l.length = m.length
  · have hd : ((l.length : Int) != (m.length : Int)) = false := by rw [bne_eq_false_iff_eq]; omega
    have hd2 : ((l.length : Int) == (m.length : Int)) = true := by rw [beq_iff_eq]; omega
    obtain ⟨b0, hb0⟩ : ∃ b0, b0 = decide (l = m) := ⟨_, rfl⟩
    have HN := hide hne
    have HB := hide hb0
    rw [← hb0]
    clear hne hb0
    go_enter Try.func128, Try.ntmps128
    go_wp2
    go_loopw [5] (fun i wr => ∃ (k q : Nat), k ≤ l.length ∧ i = .int .i64 k ∧ Hid (l.take k = m.take k) ∧ wr = w.drewN q) (fun i _ => l.length - (intOf i).toNat)
    case atStart => exact ⟨0, 0, by omega, rfl, rfl, rfl⟩
    case round =>
      obtain ⟨k, q, hk, rfl, hpre, rfl⟩ := hrel
      by_cases hlt : k < l.length
      · have hlt2 : k < m.length := by have := HN.out; omega
        obtain ⟨b, o, rfl, hbB, hc, hc'⟩ := HC.out k hlt
        obtain ⟨b2, o2, rfl, hbB2, hc2, hc2'⟩ := HC2.out k hlt2
        obtain ⟨p, hx⟩ : ∃ x, x = l[k] := ⟨_, rfl⟩
        obtain ⟨p2, hy⟩ : ∃ y, y = m[k] := ⟨_, rfl⟩
        rw [← hx] at hc hc'
        rw [← hy] at hc2 hc2'
        obtain ⟨x, x'⟩ := p
        obtain ⟨y, y'⟩ := p2
        simp only at hc hc' hc2 hc2'
        have HX := hide hx
        have HY := hide hy
        clear hx hy
        by_cases hxy : x = y ∧ x' = y'
        · obtain ⟨rfl, rfl⟩ := hxy
          have ht : (x == x) = true := by simp
          have ht2 : (x' == x') = true := by simp
          go_wp2
          go_quiet (fail)
          go_wp2
          go_roundw
          case rel => exact ⟨k + 1, q + nq, by omega, by go_num, by
            show _ = _
            rw [List.take_succ_eq_append_getElem hlt, List.take_succ_eq_append_getElem hlt2, hpre.out, ← HX.out, ← HY.out], rfl⟩
          case measure => simp [intOf]; omega
        · have HE := hide hxy
          by_cases h0 : x = y
          · have h1 : ¬ x' = y' := fun h => hxy ⟨h0, h⟩
            have ht : (x == y) = true := by rw [beq_iff_eq]; exact h0
            have ht2 : (x' == y') = false := by rw [beq_eq_false_iff_ne]; exact h1
            clear hxy h0 h1
            go_wp2
            go_quiet (fail)
            go_wp2
            go_ret
            refine ⟨?_, below_drewN (below_drewN (Below.refl _ _) _) _⟩
            rw [HB.out, decide_eq_false (fun hh => HE.out (by subst hh; have := HX.out.trans HY.out.symm; exact ⟨congrArg Prod.fst this, congrArg Prod.snd this⟩))]
            rfl
          · have ht : (x == y) = false := by rw [beq_eq_false_iff_ne]; exact h0
            clear hxy h0
            go_wp2
            go_quiet (fail)
            go_wp2
            go_ret
            refine ⟨?_, below_drewN (below_drewN (Below.refl _ _) _) _⟩
            rw [HB.out, decide_eq_false (fun hh => HE.out (by subst hh; have := HX.out.trans HY.out.symm; exact ⟨congrArg Prod.fst this, congrArg Prod.snd this⟩))]
            rfl
      · have hke : k = l.length := by omega
        subst hke
        have hlm : b0 = true := by
          rw [HB.out]
          have h1 := hpre.out
          rw [List.take_of_length_le (Nat.le_refl _), List.take_of_length_le (by have := HN.out; omega)] at h1
          simp [h1]
        have HLM := hide hlm
        clear hlm
        go_wp2
        go_ret
        exact ⟨by rw [HLM.out]; rfl, below_drewN (Below.refl _ _) _⟩
  · have hd : ((l.length : Int) != (m.length : Int)) = true := by rw [bne_iff_ne]; omega
    have hd2 : ((l.length : Int) == (m.length : Int)) = false := by rw [beq_eq_false_iff_ne]; omega
    have hb0 := hide (show decide (l = m) = false from decide_eq_false (fun hh => hne (by rw [hh])))
    clear hne
    go_enter Try.func128, Try.ntmps128
    go_wp2
    go_ret
    exact ⟨by rw [hb0.out]; rfl, Below.refl _ _⟩

set_option maxHeartbeats 1000000 in
theorem iEqPvs_any (v u : Value) (l m : List Pv) (w : World) (B : Nat) (hv : Pvs w B v l) (hu : Pvs w B u m) :
    Calls Try.prog 149 #[v, u] w (RetB1 w (decide (l = m))) := by
  obtain ⟨a, cap, rfl, hlen, hwf, hcell⟩ := hv
  obtain ⟨c, cap2, rfl, hlen2, hwf2, hcell2⟩ := hu
  have HC := hide hcell
  have HC2 := hide hcell2
  clear hcell hcell2 hwf hwf2
  by_cases hne : l.length = m.length
  · have hd : ((l.length : Int) != (m.length : Int)) = false := by rw [bne_eq_false_iff_eq]; omega
    have hd2 : ((l.length : Int) == (m.length : Int)) = true := by rw [beq_iff_eq]; omega
    obtain ⟨b0, hb0⟩ : ∃ b0, b0 = decide (l = m) := ⟨_, rfl⟩
    have HN := hide hne
    have HB := hide hb0
    rw [← hb0]
    clear hne hb0
    go_enter Try.func149, Try.ntmps149
    go_wp2
    go_loopw [13] (fun i wr => ∃ (k q : Nat), k ≤ l.length ∧ i = .int .i64 k ∧ Hid (l.take k = m.take k) ∧ wr = w.drewN q) (fun i _ => l.length - (intOf i).toNat)
    case atStart => exact ⟨0, 0, by omega, rfl, rfl, rfl⟩
    case round =>
      obtain ⟨k, q, hk, rfl, hpre, rfl⟩ := hrel
      by_cases hlt : k < l.length
      · have hlt2 : k < m.length := by have := HN.out; omega
        obtain ⟨b, o, rfl, hbB, hc, hc'⟩ := HC.out k hlt
        obtain ⟨b2, o2, rfl, hbB2, hc2, hc2'⟩ := HC2.out k hlt2
        obtain ⟨p, hx⟩ : ∃ x, x = l[k] := ⟨_, rfl⟩
        obtain ⟨p2, hy⟩ : ∃ y, y = m[k] := ⟨_, rfl⟩
        rw [← hx] at hc hc'
        rw [← hy] at hc2 hc2'
        obtain ⟨x, x'⟩ := p
        obtain ⟨y, y'⟩ := p2
        simp only at hc hc' hc2 hc2'
        have HX := hide hx
        have HY := hide hy
        clear hx hy
        by_cases hxy : x = y ∧ x' = y'
        · obtain ⟨rfl, rfl⟩ := hxy
          have ht : (x == x) = true := by simp
          have ht2 : (x' == x') = true := by simp
          go_wp2
          go_quiet (fail)
          go_wp2
          go_roundw
          case rel => exact ⟨k + 1, q + nq, by omega, by go_num, by
            show _ = _
            rw [List.take_succ_eq_append_getElem hlt, List.take_succ_eq_append_getElem hlt2, hpre.out, ← HX.out, ← HY.out], rfl⟩
          case measure => simp [intOf]; omega
        · have HE := hide hxy
          by_cases h0 : x = y
          · have h1 : ¬ x' = y' := fun h => hxy ⟨h0, h⟩
            have ht : (x == y) = true := by rw [beq_iff_eq]; exact h0
            have ht2 : (x' == y') = false := by rw [beq_eq_false_iff_ne]; exact h1
            clear hxy h0 h1
            go_wp2
            go_quiet (fail)
            go_wp2
            go_ret
            refine ⟨?_, below_drewN (below_drewN (Below.refl _ _) _) _⟩
            rw [HB.out, decide_eq_false (fun hh => HE.out (by subst hh; have := HX.out.trans HY.out.symm; exact ⟨congrArg Prod.fst this, congrArg Prod.snd this⟩))]
            rfl
          · have ht : (x == y) = false := by rw [beq_eq_false_iff_ne]; exact h0
            clear hxy h0
            go_wp2
            go_quiet (fail)
            go_wp2
            go_ret
            refine ⟨?_, below_drewN (below_drewN (Below.refl _ _) _) _⟩
            rw [HB.out, decide_eq_false (fun hh => HE.out (by subst hh; have := HX.out.trans HY.out.symm; exact ⟨congrArg Prod.fst this, congrArg Prod.snd this⟩))]
            rfl
      · have hke : k = l.length := by omega
        subst hke
        have hlm : b0 = true := by
          rw [HB.out]
          have h1 := hpre.out
          rw [List.take_of_length_le (Nat.le_refl _), List.take_of_length_le (by have := HN.out; omega)] at h1
          simp [h1]
        have HLM := hide hlm
        clear hlm
        go_wp2
        go_ret
        exact ⟨by rw [HLM.out]; rfl, below_drewN (Below.refl _ _) _⟩
  · have hd : ((l.length : Int) != (m.length : Int)) = true := by rw [bne_iff_ne]; omega
    have hd2 : ((l.length : Int) == (m.length : Int)) = false := by rw [beq_eq_false_iff_ne]; omega
    have hb0 := hide (show decide (l = m) = false from decide_eq_false (fun hh => hne (by rw [hh])))
    clear hne
    go_enter Try.func149, Try.ntmps149
    go_wp2
    go_ret
    exact ⟨by rw [hb0.out]; rfl, Below.refl _ _⟩

set_option maxHeartbeats 2000000 in
theorem sEqCk_any (v u : Value) (l r l' r' : List Int) (ps ps' : List Pv) (w : World) (B : Nat) (hv : Ck w B v l r ps) (hu : Ck w B u l' r' ps') (hB : B ≤ w.heap.size) :
    Calls Try.prog 54 #[v, u] w (RetB1 w (eqC l r ps l' r' ps')) := by
  obtain ⟨a1, c1, a2, c2, a3, c3, rfl, i1, i2, i3⟩ := hv.form
  obtain ⟨b1, k1, b2, k2, b3, k3, rfl, j1, j2, j3⟩ := hu.form
  have X := hide (Kn.two w #[.slice a1 l.length c1, .slice a2 r.length c2, .slice a3 ps.length c3] #[.slice b1 l'.length k1, .slice b2 r'.length k2, .slice b3 ps'.length k3] 25 25)
  obtain ⟨w1, hw1⟩ : ∃ w1, w1 = (w.alloc (.cells #[.slice a1 l.length c1, .slice a2 r.length c2, .slice a3 ps.length c3] 25)).alloc (.cells #[.slice b1 l'.length k1, .slice b2 r'.length k2, .slice b3 ps'.length k3] 25) := ⟨_, rfl⟩
  rw [← hw1] at X
  have H1 := hide (fun (W : World) (h : Below w.heap.size w W) => And.intro (i1.below h hB) (j1.below h hB))
  have H2 := hide (fun (W : World) (h : Below w.heap.size w W) => And.intro (i2.below h hB) (j2.below h hB))
  have H3 := hide (fun (W : World) (h : Below w.heap.size w W) => And.intro (i3.below h hB) (j3.below h hB))
  clear i1 i2 i3 j1 j2 j3 hv hu
  obtain ⟨b0, hb0⟩ : ∃ b0, b0 = eqC l r ps l' r' ps' := ⟨_, rfl⟩
  rw [← hb0]
  obtain ⟨t1, ht1⟩ : ∃ t, t = decide (l = l') := ⟨_, rfl⟩
  obtain ⟨t2, ht2⟩ : ∃ t, t = decide (r = r') := ⟨_, rfl⟩
  obtain ⟨t3, ht3⟩ : ∃ t, t = decide (ps = ps') := ⟨_, rfl⟩
  unfold eqC at hb0
  rw [← ht1, ← ht2, ← ht3] at hb0
  have HB := hide hb0
  have HT1 := hide ht1
  have HT2 := hide ht2
  have HT3 := hide ht3
  clear hb0 ht1 ht2 ht3
  have d0 : w1.cell? ⟨w.heap.size, 0, none⟩ = some (.slice a1 l.length c1) := X.out.cell 0 0 rfl rfl
  have e0 : w1.cell? ⟨w.heap.size + 1, 0, none⟩ = some (.slice b1 l'.length k1) := X.out.cell 1 0 rfl rfl
  go_enter Try.func54, Try.ntmps54
  go_wp2_with fail
  rw [← hw1]
  clear hw1
  go_at_call 90
  refine (sL4Ints_any _ _ l l' _ B (H1.out _ X.out.below).1 (H1.out _ X.out.below).2).mono ?_
  rintro e w2 ⟨rfl, hb⟩
  rw [← HT1.out]
  have X := hide (X.out.up hb)
  clear hb d0 e0
  have d0 : w2.cell? ⟨w.heap.size, 1, none⟩ = some (.slice a2 r.length c2) := X.out.cell 0 1 rfl rfl
  have e0 : w2.cell? ⟨w.heap.size + 1, 1, none⟩ = some (.slice b2 r'.length k2) := X.out.cell 1 1 rfl rfl
  cases t1
  · have hf := hide (show b0 = false by rw [HB.out]; rfl)
    go_wp2_with fail
    go_ret
    exact ⟨by rw [hf.out]; rfl, X.out.below⟩
  · go_wp2_with fail
    go_at_call 90
    refine (sL4Ints_any _ _ r r' _ B (H2.out _ X.out.below).1 (H2.out _ X.out.below).2).mono ?_
    rintro e w3 ⟨rfl, hb⟩
    rw [← HT2.out]
    have X := hide (X.out.up hb)
    clear hb d0 e0
    have d0 : w3.cell? ⟨w.heap.size, 2, none⟩ = some (.slice a3 ps.length c3) := X.out.cell 0 2 rfl rfl
    have e0 : w3.cell? ⟨w.heap.size + 1, 2, none⟩ = some (.slice b3 ps'.length k3) := X.out.cell 1 2 rfl rfl
    cases t2
    · have hf := hide (show b0 = false by rw [HB.out]; rfl)
      go_wp2_with fail
      go_ret
      exact ⟨by rw [hf.out]; rfl, X.out.below⟩
    · have hf := hide (show b0 = t3 by rw [HB.out]; rfl)
      go_wp2_with fail
      go_at_call 128
      refine (sL4Same_any _ _ ps ps' _ B (H3.out _ X.out.below).1 (H3.out _ X.out.below).2).mono ?_
      rintro e w4 ⟨rfl, hb⟩
      rw [← HT3.out]
      have X := hide (X.out.up hb)
      go_wp2_with fail
      go_ret
      exact ⟨by rw [hf.out]; rfl, X.out.below⟩

set_option maxHeartbeats 2000000 in
theorem iEqCk_any (v u : Value) (l r l' r' : List Int) (ps ps' : List Pv) (w : World) (B : Nat) (hv : Ck w B v l r ps) (hu : Ck w B u l' r' ps') (hB : B ≤ w.heap.size) :
    Calls Try.prog 89 #[v, u] w (RetB1 w (eqC l r ps l' r' ps')) := by
  obtain ⟨a1, c1, a2, c2, a3, c3, rfl, i1, i2, i3⟩ := hv.form
  obtain ⟨b1, k1, b2, k2, b3, k3, rfl, j1, j2, j3⟩ := hu.form
  have X := hide (Kn.two w #[.slice a1 l.length c1, .slice a2 r.length c2, .slice a3 ps.length c3] #[.slice b1 l'.length k1, .slice b2 r'.length k2, .slice b3 ps'.length k3] 25 25)
  obtain ⟨w1, hw1⟩ : ∃ w1, w1 = (w.alloc (.cells #[.slice a1 l.length c1, .slice a2 r.length c2, .slice a3 ps.length c3] 25)).alloc (.cells #[.slice b1 l'.length k1, .slice b2 r'.length k2, .slice b3 ps'.length k3] 25) := ⟨_, rfl⟩
  rw [← hw1] at X
  have H1 := hide (fun (W : World) (h : Below w.heap.size w W) => And.intro (i1.below h hB) (j1.below h hB))
  have H2 := hide (fun (W : World) (h : Below w.heap.size w W) => And.intro (i2.below h hB) (j2.below h hB))
  have H3 := hide (fun (W : World) (h : Below w.heap.size w W) => And.intro (i3.below h hB) (j3.below h hB))
  clear i1 i2 i3 j1 j2 j3 hv hu
  obtain ⟨b0, hb0⟩ : ∃ b0, b0 = eqC l r ps l' r' ps' := ⟨_, rfl⟩
  rw [← hb0]
  obtain ⟨t1, ht1⟩ : ∃ t, t = decide (l = l') := ⟨_, rfl⟩
  obtain ⟨t2, ht2⟩ : ∃ t, t = decide (r = r') := ⟨_, rfl⟩
  obtain ⟨t3, ht3⟩ : ∃ t, t = decide (ps = ps') := ⟨_, rfl⟩
  unfold eqC at hb0
  rw [← ht1, ← ht2, ← ht3] at hb0
  have HB := hide hb0
  have HT1 := hide ht1
  have HT2 := hide ht2
  have HT3 := hide ht3
  clear hb0 ht1 ht2 ht3
  have d0 : w1.cell? ⟨w.heap.size, 0, none⟩ = some (.slice a1 l.length c1) := X.out.cell 0 0 rfl rfl
  have e0 : w1.cell? ⟨w.heap.size + 1, 0, none⟩ = some (.slice b1 l'.length k1) := X.out.cell 1 0 rfl rfl
  go_enter Try.func89, Try.ntmps89
  go_wp2_with fail
  rw [← hw1]
  clear hw1
  go_at_call 91
  refine (iEqInts_any _ _ l l' _ B (H1.out _ X.out.below).1 (H1.out _ X.out.below).2).mono ?_
  rintro e w2 ⟨rfl, hb⟩
  rw [← HT1.out]
  have X := hide (X.out.up hb)
  clear hb d0 e0
  have d0 : w2.cell? ⟨w.heap.size, 1, none⟩ = some (.slice a2 r.length c2) := X.out.cell 0 1 rfl rfl
  have e0 : w2.cell? ⟨w.heap.size + 1, 1, none⟩ = some (.slice b2 r'.length k2) := X.out.cell 1 1 rfl rfl
  cases t1
  · have hf := hide (show b0 = false by rw [HB.out]; rfl)
    go_wp2_with fail
    go_ret
    exact ⟨by rw [hf.out]; rfl, X.out.below⟩
  · go_wp2_with fail
    go_at_call 91
    refine (iEqInts_any _ _ r r' _ B (H2.out _ X.out.below).1 (H2.out _ X.out.below).2).mono ?_
    rintro e w3 ⟨rfl, hb⟩
    rw [← HT2.out]
    have X := hide (X.out.up hb)
    clear hb d0 e0
    have d0 : w3.cell? ⟨w.heap.size, 2, none⟩ = some (.slice a3 ps.length c3) := X.out.cell 0 2 rfl rfl
    have e0 : w3.cell? ⟨w.heap.size + 1, 2, none⟩ = some (.slice b3 ps'.length k3) := X.out.cell 1 2 rfl rfl
    cases t2
    · have hf := hide (show b0 = false by rw [HB.out]; rfl)
      go_wp2_with fail
      go_ret
      exact ⟨by rw [hf.out]; rfl, X.out.below⟩
    · have hf := hide (show b0 = t3 by rw [HB.out]; rfl)
      go_wp2_with fail
      go_at_call 149
      refine (iEqPvs_any _ _ ps ps' _ B (H3.out _ X.out.below).1 (H3.out _ X.out.below).2).mono ?_
      rintro e w4 ⟨rfl, hb⟩
      rw [← HT3.out]
      have X := hide (X.out.up hb)
      go_wp2_with fail
      go_ret
      exact ⟨by rw [hf.out]; rfl, X.out.below⟩

end Go.Proofs.Ytepkkeclkdlheaa
