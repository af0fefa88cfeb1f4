/- Several texts in one: Exch, Have, ApI, ApJ, Rev, UnI. -/
import Derived.Test.YtoaafklogibfpaaSwp
import Derived.BigRegion
import Derived.Test.YtoaafklogibfpaaSw
import Derived.Test.YtoaafklogibfpaaApD
import Derived.Test.YtoaafklogibfpaaCpI
/- exchange of the program: two elements of an owned slice change places (promise 3). -/
namespace Go.Proofs.Ytoaafklogibfpaa
open Go.RowKit Go.ChangeShapes
set_option linter.unusedSimpArgs false
set_option linter.unusedVariables false
set_option maxRecDepth 100000

set_option maxHeartbeats 4000000 in
theorem iExch_ow (v : Value) (l : List Int) (lo hi i j : Nat) (w : World) (h : Ow w v l lo hi) (hi' : i < l.length) (hj' : j < l.length) :
    Calls Try.prog 68 #[v, .agg #[.int .i64 i, .int .i64 j]] w fun e w' => (∃ u, e = .returned u) ∧ Ow w' v (swapAt l i j) lo hi ∧ Seg lo hi w w' := by
  have X := hide (Kn.one w #[.int .i64 i, .int .i64 j] 50)
  obtain ⟨w1, hw1⟩ : ∃ w1, w1 = w.alloc (.cells #[.int .i64 i, .int .i64 j] 50) := ⟨_, rfl⟩
  rw [← hw1] at X
  have S0 := hide (Seg.of_below (lo := lo) (hi := hi) X.out.below (Nat.le_trans h.le h.top))
  have hT := hide h.top
  have h := h.below X.out.below
  obtain ⟨⟨F, ⟨o, rfl⟩, hF⟩, hle, htop⟩ := h
  obtain ⟨a, cap, rfl⟩ := Is.form o
  have HS := o.2
  rcases HS with ⟨e, hn⟩ | ⟨g, cap', cur, e, -⟩
  · exfalso
    injection e with e1 e2 e3
    omega
  injection e with e1 e2 e3
  subst e1 e3
  have hg := hF g (by simp [Value.ownBlock])
  have O := hide o
  have O1 := hide (O.out.store rfl i (l[j]'hj'))
  have O2 := hide (O1.out.store (by simp) j (l[i]'hi'))
  obtain ⟨ci, fi, gi, -⟩ := O.out.cell i hi'
  obtain ⟨cj, fj, gj, -⟩ := O.out.cell j hj'
  obtain ⟨cj1, fj1, gj1, -⟩ := O1.out.cell j (by simp; exact hj')
  have E1 := hide (show swapAt l i j = (l.set i (l[j]'hj')).set j (l[i]'hi') by simp [swapAt, List.getD, hi', hj'])
  obtain ⟨y2, hy2⟩ : ∃ y2, y2 = (l.set i (l[j]'hj'))[j]'(by simp; exact hj') := ⟨_, rfl⟩
  rw [← hy2] at cj1
  obtain ⟨x, hx⟩ : ∃ x, x = l[i]'hi' := ⟨_, rfl⟩
  obtain ⟨y, hy⟩ : ∃ y, y = l[j]'hj' := ⟨_, rfl⟩
  rw [← hx] at ci E1 O2
  rw [← hy] at cj E1 O1 O2 cj1 fj1
  clear hx hy hy2
  have d0 : w1.cell? ⟨w.heap.size, 0, none⟩ = some (.int .i64 i) := X.out.cell 0 0 rfl rfl
  have d1 : w1.cell? ⟨w.heap.size, 1, none⟩ = some (.int .i64 j) := X.out.cell 0 1 rfl rfl
  have hne : w.heap.size ≠ g := by have := hT.out; omega
  have d2 : (w1.setCell ⟨g, i, none⟩ (.int .i64 y)).cell? ⟨w.heap.size, 0, none⟩ = some (.int .i64 i) := by rw [World.cell?_setCell_other _ _ _ _ (by simp [hne])]; exact d0
  have d3 : (w1.setCell ⟨g, i, none⟩ (.int .i64 y)).cell? ⟨w.heap.size, 1, none⟩ = some (.int .i64 j) := by rw [World.cell?_setCell_other _ _ _ _ (by simp [hne])]; exact d1
  have HF := hide hF
  have hne := hide hne
  clear hF o
  go_enter Try.func68, Try.ntmps68
  go_wp2_with fail
  rw [← hw1]
  clear hw1
  go_region
  all_goals have sg := (Seg.setCell w1 g i (.int .i64 y)).trans (Seg.setCell _ g j (.int .i64 x))
  all_goals refine bodyPost_end (v := .tuple #[]) (by simp [results, Try.results68]) rfl ⟨⟨_, rfl⟩, ?_, ?_⟩
  · rw [E1.out]
    exact ⟨⟨_, ⟨O2.out.below (Below.refl _ _).drew, rfl⟩, HF.out⟩, hle, Nat.le_trans htop sg.below.size⟩
  · have s2 := S0.out.trans (sg.mono hg.1 (by omega))
    exact ⟨s2.below.drew, s2.over⟩

end Go.Proofs.Ytoaafklogibfpaa

/- havePlaces of the program: whether all places of the swaps lie in a row (promise 3). -/
namespace Go.Proofs.Ytoaafklogibfpaa
open Go.RowKit Go.ChangeShapes
set_option linter.unusedSimpArgs false
set_option linter.unusedVariables false
set_option maxRecDepth 100000

set_option maxHeartbeats 4000000 in
theorem iHave_any (v : Value) (sw : List Pv) (n : Nat) (w : World) (B : Nat) (hv : Pvs w B v sw) (hB : B ≤ w.heap.size) :
    Calls Try.prog 67 #[v, .int .i64 n] w (RetB1 w (sw.all (swOk n))) := by
  obtain ⟨a, cap, rfl, hlen, hwf, hcell⟩ := hv
  have HC := hide hcell
  have HW := hide hwf
  clear hcell hwf
  obtain ⟨t, ht⟩ : ∃ t, t = sw.all (swOk n) := ⟨_, rfl⟩
  rw [← ht]
  have HT := hide ht
  clear ht
  go_enter Try.func67, Try.ntmps67
  go_wp2
  go_loopw [9] (fun u wr => ∃ (k : Nat), k ≤ sw.length ∧ u = .int .i64 k ∧ Hid ((sw.take k).all (swOk n) = true) ∧ Hid (Below w.heap.size w wr)) (fun u _ => sw.length - (intOf u).toNat)
  case atStart => exact ⟨0, by omega, rfl, by simp [Hid], Below.refl _ _⟩
  case round =>
    obtain ⟨k, hk, rfl, hall, hb⟩ := hrel
    by_cases hlt : k < sw.length
    · have hat := hide (all_take (swOk n) sw k hlt)
      obtain ⟨b1, o1, rfl, hb1, hc1, hc2⟩ := HC.out k hlt
      obtain ⟨x, hx⟩ : ∃ x, x = sw[k].1 := ⟨_, rfl⟩
      obtain ⟨y, hy⟩ : ∃ y, y = sw[k].2 := ⟨_, rfl⟩
      rw [← hx] at hc1
      rw [← hy] at hc2
      have d1 : wr.cell? ⟨b1, o1 + k * 2, none⟩ = some (.int .i64 x) := by rw [hb.out.cell (p := ⟨b1, o1 + k * 2, none⟩) (Nat.lt_of_lt_of_le hb1 hB)]; exact hc1
      have d2 : wr.cell? ⟨b1, o1 + k * 2 + 1, none⟩ = some (.int .i64 y) := by rw [hb.out.cell (p := ⟨b1, o1 + k * 2 + 1, none⟩) (Nat.lt_of_lt_of_le hb1 hB)]; exact hc2
      have HX := hide hx
      have HY := hide hy
      have hq := hide (show (swOk n sw[k]) = (decide (0 ≤ x ∧ x ≤ (n : Int) - 1) && decide (0 ≤ y ∧ y ≤ (n : Int) - 1)) by rw [hx, hy]; rfl)
      clear hc1 hc2 hx hy hb1
      rcases Int.lt_trichotomy x y with hc | hc | hc
      · have o1 : decide (x < y) = true := by simp; omega
        have o2 : decide (x ≤ y) = true := by simp; omega
        by_cases p1 : x < 0
        · have r1 : decide (x < 0) = true := by simp; omega
          have tf : t = false := by
            rw [HT.out]
            exact List.all_eq_false.2 ⟨sw[k], List.getElem_mem hlt, by rw [hq.out]; simp; omega⟩
          subst tf
          go_wp2
          go_ret
          exact ⟨rfl, hb.out.alloc hb.out.size _⟩
        · have r1 : decide (x < 0) = false := by simp; omega
          by_cases p2 : (n : Int) ≤ y
          · have r2 : decide (y ≥ (n : Int)) = true := by simp; omega
            have r3 : decide ((n : Int) ≤ y) = true := by simp; omega
            have tf : t = false := by
              rw [HT.out]
              exact List.all_eq_false.2 ⟨sw[k], List.getElem_mem hlt, by rw [hq.out]; simp; omega⟩
            subst tf
            go_wp2
            go_ret
            exact ⟨rfl, hb.out.alloc hb.out.size _⟩
          · have r2 : decide (y ≥ (n : Int)) = false := by simp; omega
            have r3 : decide ((n : Int) ≤ y) = false := by simp; omega
            have hall2 := hide (show (sw.take (k + 1)).all (swOk n) = true by rw [hat.out, hall.out, hq.out]; simp; omega)
            go_wp2
            go_roundw
            all_goals first
              | exact ⟨k + 1, by omega, by go_num, hall2.out, hb.out.alloc hb.out.size _⟩
              | (simp [intOf]; omega)
      · subst hc
        have o1 : decide (x < x) = false := by simp
        have o2 : decide (x ≤ x) = true := by simp
        by_cases p1 : x < 0
        · have r1 : decide (x < 0) = true := by simp; omega
          have tf : t = false := by
            rw [HT.out]
            exact List.all_eq_false.2 ⟨sw[k], List.getElem_mem hlt, by rw [hq.out]; simp; omega⟩
          subst tf
          go_wp2
          go_ret
          exact ⟨rfl, hb.out.alloc hb.out.size _⟩
        · have r1 : decide (x < 0) = false := by simp; omega
          by_cases p2 : (n : Int) ≤ x
          · have r2 : decide (x ≥ (n : Int)) = true := by simp; omega
            have r3 : decide ((n : Int) ≤ x) = true := by simp; omega
            have tf : t = false := by
              rw [HT.out]
              exact List.all_eq_false.2 ⟨sw[k], List.getElem_mem hlt, by rw [hq.out]; simp; omega⟩
            subst tf
            go_wp2
            go_ret
            exact ⟨rfl, hb.out.alloc hb.out.size _⟩
          · have r2 : decide (x ≥ (n : Int)) = false := by simp; omega
            have r3 : decide ((n : Int) ≤ x) = false := by simp; omega
            have hall2 := hide (show (sw.take (k + 1)).all (swOk n) = true by rw [hat.out, hall.out, hq.out]; simp; omega)
            go_wp2
            go_roundw
            all_goals first
              | exact ⟨k + 1, by omega, by go_num, hall2.out, hb.out.alloc hb.out.size _⟩
              | (simp [intOf]; omega)
      · have o1 : decide (x < y) = false := by simp; omega
        have o2 : decide (x ≤ y) = false := by simp; omega
        by_cases p1 : y < 0
        · have r1 : decide (y < 0) = true := by simp; omega
          have tf : t = false := by
            rw [HT.out]
            exact List.all_eq_false.2 ⟨sw[k], List.getElem_mem hlt, by rw [hq.out]; simp; omega⟩
          subst tf
          go_wp2
          go_ret
          exact ⟨rfl, hb.out.alloc hb.out.size _⟩
        · have r1 : decide (y < 0) = false := by simp; omega
          by_cases p2 : (n : Int) ≤ x
          · have r2 : decide (x ≥ (n : Int)) = true := by simp; omega
            have r3 : decide ((n : Int) ≤ x) = true := by simp; omega
            have tf : t = false := by
              rw [HT.out]
              exact List.all_eq_false.2 ⟨sw[k], List.getElem_mem hlt, by rw [hq.out]; simp; omega⟩
            subst tf
            go_wp2
            go_ret
            exact ⟨rfl, hb.out.alloc hb.out.size _⟩
          · have r2 : decide (x ≥ (n : Int)) = false := by simp; omega
            have r3 : decide ((n : Int) ≤ x) = false := by simp; omega
            have hall2 := hide (show (sw.take (k + 1)).all (swOk n) = true by rw [hat.out, hall.out, hq.out]; simp; omega)
            go_wp2
            go_roundw
            all_goals first
              | exact ⟨k + 1, by omega, by go_num, hall2.out, hb.out.alloc hb.out.size _⟩
              | (simp [intOf]; omega)
    · have hke : k = sw.length := by omega
      subst hke
      have tt : t = true := by rw [HT.out, ← hall.out, List.take_length]
      subst tt
      go_wp2
      go_ret
      exact ⟨rfl, hb.out⟩

end Go.Proofs.Ytoaafklogibfpaa

/- What ApplySwaps of the program returns (promise 3). -/
namespace Go.Proofs.Ytoaafklogibfpaa
open Go.RowKit Go.ChangeShapes
set_option linter.unusedSimpArgs false
set_option linter.unusedVariables false
set_option maxRecDepth 100000

set_option maxHeartbeats 4000000 in
theorem iApply_eq (a1 a2 a3 : Option Addr) (c1 c2 c3 : Nat) (sv : Value) (l r : List Int) (ps sw : List Pv) (w : World) (B : Nat) (V : Hid (Ck w B (.agg #[.slice a1 l.length c1, .slice a2 l.length c2, .slice a3 ps.length c3]) l r ps)) (HR : Hid (r.length = l.length)) (hs : Pvs w B sv sw) (hB : B ≤ w.heap.size) (hl : l.length ≤ 1048576) (hp : ps.length ≤ 1048576) (t : Bool) (HT : Hid (t = sw.all (swOk l.length))) (LL RR : List Int) (HLL : Hid (LL = if t = true then swaps l sw else l)) (HRR : Hid (RR = if t = true then swaps r sw else r)) :
    Calls Try.prog 24 #[.agg #[.slice a1 l.length c1, .slice a2 l.length c2, .slice a3 ps.length c3], sv] w (RetOCB w LL RR ps t) := by
  have HC := hide hs
  obtain ⟨ad, cap, rfl, hlen, hwf, hcell⟩ := hs
  have HCC := hide hcell
  clear hcell hwf
  have X := hide (Kn.two w #[.slice a1 l.length c1, .slice a2 l.length c2, .slice a3 ps.length c3] #[.slice none 0 0, .slice none 0 0, .slice none 0 0] 31 31)
  obtain ⟨w1, hw1⟩ : ∃ w1, w1 = (w.alloc (.cells #[.slice a1 l.length c1, .slice a2 l.length c2, .slice a3 ps.length c3] 31)).alloc (.cells #[.slice none 0 0, .slice none 0 0, .slice none 0 0] 31) := ⟨_, rfl⟩
  have hz1 := hide (show w1.heap.size = w.heap.size + 1 + 1 by rw [hw1]; simp)
  rw [← hw1] at X
  have hq0 : ((l.length : Int) != (l.length : Int)) = false := by simp
  have C0 := hide (fun (W : World) (h : Below w.heap.size w W) => iCopy_any _ l r ps W B (V.out.below h hB) (Nat.le_trans hB h.size) hl (by rw [HR.out]; exact hl) hp)
  have CH := hide (fun (W : World) (h : Below w.heap.size w W) => show Calls Try.prog 67 #[.slice ad sw.length cap, .int .i64 l.length] W (RetB1 W t) by rw [HT.out]; exact iHave_any _ sw l.length W B (HC.out.below h hB) (Nat.le_trans hB h.size))
  go_enter Try.func24, Try.ntmps24
  go_wp2_with fail
  rw [← hw1]
  clear hw1
  have c0 : w1.cell? ⟨w.heap.size, 0, none⟩ = some (.slice a1 l.length c1) := X.out.cell 0 0 rfl rfl
  have c1' : w1.cell? ⟨w.heap.size, 1, none⟩ = some (.slice a2 l.length c2) := X.out.cell 0 1 rfl rfl
  have c2' : w1.cell? ⟨w.heap.size, 2, none⟩ = some (.slice a3 ps.length c3) := X.out.cell 0 2 rfl rfl
  go_wp2_with fail
  go_at_call 57
  refine (C0.out _ X.out.below).mono ?_
  rintro e w2 ⟨x, y, z, lo, hi, n1, h1, n2, h2, n3, h3, rfl, q1, q2, O, hb⟩
  obtain ⟨x1, k1, rfl⟩ := O.x.form
  obtain ⟨x2, k2, hx2⟩ := O.y.form
  rw [HR.out] at hx2
  subst hx2
  obtain ⟨x3, k3, rfl⟩ := O.z.own.form
  have X2 := hide (X.out.up hb)
  have X3 := hide (X2.out.alloc #[.slice x1 l.length k1, .slice x2 l.length k2, .slice x3 ps.length k3] 31)
  have O3 := hide (O.below ((Below.refl w2.heap.size w2).alloc (Nat.le_refl _) (.cells #[.slice x1 l.length k1, .slice x2 l.length k2, .slice x3 ps.length k3] 31)))
  clear c0 c1' c2' O hb X X2
  obtain ⟨m, hm⟩ : ∃ m, m = w2.heap.size := ⟨_, rfl⟩
  obtain ⟨w3, hw3⟩ : ∃ w3, w3 = w2.alloc (.cells #[.slice x1 l.length k1, .slice x2 l.length k2, .slice x3 ps.length k3] 31) := ⟨_, rfl⟩
  rw [← hw3] at X3 O3
  rw [← hm] at X3 q2
  simp only [List.cons_append, List.nil_append] at X3
  have b0 : w3.cell? ⟨w.heap.size, 0, none⟩ = some (.slice a1 l.length c1) := X3.out.cell 0 0 rfl rfl
  have b1 : w3.cell? ⟨w.heap.size, 1, none⟩ = some (.slice a2 l.length c2) := X3.out.cell 0 1 rfl rfl
  have Q1 := hide q1
  have Q2 := hide q2
  rw [hw3] at b0 b1
  go_wp2_with fail
  rw [← hw3]
  try rw [← hm]
  clear b0 b1 hw3 hm q1 q2
  go_at_call 67
  refine (CH.out _ X3.out.below).mono ?_
  rintro e w4 ⟨rfl, hb⟩
  have K3 := hide (X3.out.up hb)
  have O3 := hide (O3.out.below hb)
  clear X3 hb
  cases t with
  | false =>
    obtain rfl : LL = l := HLL.out
    obtain rfl : RR = r := HRR.out
    have e0 : w4.cell? ⟨m, 0, none⟩ = some (.slice x1 LL.length k1) := K3.out.cell 2 0 rfl rfl
    have e1 : w4.cell? ⟨m, 1, none⟩ = some (.slice x2 LL.length k2) := K3.out.cell 2 1 rfl rfl
    have e2 : w4.cell? ⟨m, 2, none⟩ = some (.slice x3 ps.length k3) := K3.out.cell 2 2 rfl rfl
    have g0 : w4.cell? ⟨w.heap.size + 1, 0, none⟩ = some (.slice none 0 0) := K3.out.cell 1 0 rfl rfl
    have g1 : w4.cell? ⟨w.heap.size + 1, 1, none⟩ = some (.slice none 0 0) := K3.out.cell 1 1 rfl rfl
    have g2 : w4.cell? ⟨w.heap.size + 1, 2, none⟩ = some (.slice none 0 0) := K3.out.cell 1 2 rfl rfl
    have f0 := K3.out.free 1 0 rfl
    have f1 := K3.out.free 1 1 rfl
    have f2 := K3.out.free 1 2 rfl
    go_wp2_with fail
    have Z := ((K3.out.set 1 0 rfl (.slice x1 LL.length k1)).set 1 1 rfl (.slice x2 LL.length k2)).set 1 2 rfl (.slice x3 ps.length k3)
    have z0 := Z.cell 1 0 rfl rfl
    have z1 := Z.cell 1 1 rfl rfl
    have z2 := Z.cell 1 2 rfl rfl
    have q1 := Q1.out
    have hz := hz1.out
    have O6 := O3.out.seg (seg3 _ (w.heap.size + 1) (.slice x1 LL.length k1) (.slice x2 LL.length k2) (.slice x3 ps.length k3)) (.inr (by omega))
    exact bodyPost_ret (v := .tuple #[.agg #[.slice x1 LL.length k1, .slice x2 LL.length k2, .slice x3 ps.length k3], .bool false]) (by simp [results, Try.results24, go_sem, z0, z1, z2]) rfl
      ⟨_, _, _, lo, hi, n1, h1, n2, h2, n3, h3, rfl, by omega, O6.top.2, O6, Z.below⟩
  | true =>
    have EL : Hid (LL = swaps l sw) := HLL.out
    have ER : Hid (RR = swaps r sw) := HRR.out
    clear HLL HRR
    go_wp2_with fail
    go_loopw [29] (fun u wr => ∃ (k : Nat), k ≤ sw.length ∧ u = .int .i64 k ∧ Hid (Kn w wr [(w.heap.size, #[.slice a1 l.length c1, .slice a2 l.length c2, .slice a3 ps.length c3], 31), (w.heap.size + 1, #[.slice none 0 0, .slice none 0 0, .slice none 0 0], 31), (m, #[.slice x1 l.length k1, .slice x2 l.length k2, .slice x3 ps.length k3], 31)]) ∧ Hid (OC wr (.slice x1 l.length k1) (.slice x2 l.length k2) (.slice x3 ps.length k3) (swaps l (sw.take k)) (swaps r (sw.take k)) ps lo hi n1 h1 n2 h2 n3 h3)) (fun u _ => sw.length - (intOf u).toNat)
    case atStart => exact ⟨0, by omega, rfl, K3.out, by simpa [Hid, swaps] using O3.out⟩
    case round =>
      clear K3 O3
      obtain ⟨k, hk, rfl, K, O⟩ := hrel
      by_cases hlt : k < sw.length
      · have es1 := swaps_take l sw k hlt
        have es2 := swaps_take r sw k hlt
        obtain ⟨b1, o1, rfl, hb1, hc1, hc2⟩ := HCC.out k hlt
        have hok := List.all_eq_true.1 HT.out.symm _ (List.getElem_mem hlt)
        unfold swOk at hok
        simp only [Bool.and_eq_true, decide_eq_true_eq] at hok
        obtain ⟨⟨p1, p2⟩, p3, p4⟩ := hok
        obtain ⟨i, hi⟩ := Int.eq_ofNat_of_zero_le p1
        obtain ⟨j, hj⟩ := Int.eq_ofNat_of_zero_le p3
        rw [hi] at hc1 p2 es1 es2
        rw [hj] at hc2 p4 es1 es2
        rw [Int.toNat_natCast, Int.toNat_natCast] at es1 es2
        have d1 : wr.cell? ⟨b1, o1 + k * 2, none⟩ = some (.int .i64 i) := by rw [K.out.below.cell (p := ⟨b1, o1 + k * 2, none⟩) (Nat.lt_of_lt_of_le hb1 hB)]; exact hc1
        have d2 : wr.cell? ⟨b1, o1 + k * 2 + 1, none⟩ = some (.int .i64 j) := by rw [K.out.below.cell (p := ⟨b1, o1 + k * 2 + 1, none⟩) (Nat.lt_of_lt_of_le hb1 hB)]; exact hc2
        have H1 := hide (show i < (swaps l (sw.take k)).length by rw [swaps_length]; omega)
        have H2 := hide (show j < (swaps l (sw.take k)).length by rw [swaps_length]; omega)
        have H3 := hide (show i < (swaps r (sw.take k)).length by rw [swaps_length, HR.out]; omega)
        have H4 := hide (show j < (swaps r (sw.take k)).length by rw [swaps_length, HR.out]; omega)
        have ES1 := hide es1
        have ES2 := hide es2
        clear hc1 hc2 hb1 p1 p2 p3 p4 hi hj es1 es2
        have hbl := below1 wr (.cells #[.int .i64 i, .int .i64 j] 50)
        have K2 := hide (K.out.alloc #[.int .i64 i, .int .i64 j] 50)
        have O2 := hide (O.out.below hbl)
        clear hbl
        obtain ⟨w5, hw5⟩ : ∃ w5, w5 = wr.alloc (.cells #[.int .i64 i, .int .i64 j] 50) := ⟨_, rfl⟩
        rw [← hw5] at K2 O2
        simp only [List.cons_append, List.nil_append] at K2
        have e0 : w5.cell? ⟨m, 0, none⟩ = some (.slice x1 l.length k1) := K2.out.cell 2 0 rfl rfl
        rw [hw5] at e0
        have N5 := hide (show wr.heap.size < w5.heap.size by rw [hw5]; simp)
        have N6 := hide (Nat.le_trans O.out.top.2 (Nat.le_refl wr.heap.size))
        go_wp2_with fail
        rw [← hw5]
        clear e0 d1 d2
        go_at_call 68
        refine (iExch_ow _ (swaps l (sw.take k)) n1 h1 i j w5 O2.out.x H1.out H2.out).mono ?_
        rintro e' w6 ⟨⟨u, rfl⟩, Ox, s1⟩
        obtain ⟨l1, l2, l3⟩ := O.out.low
        obtain ⟨g1, g2, g3⟩ := O.out.high
        obtain ⟨r1, r2, r3⟩ := O.out.apart
        have hz := hz1.out
        have hq1 := Q1.out
        have hq2 := Q2.out
        have hn6 := N6.out
        have hm := K.out.lt 2 rfl
        have hlo := O.out.x.le
        have K3 := hide (K2.out.seg s1 (by omega) (by intro e he; simp at he; rcases he with rfl | rfl | rfl | rfl <;> simp <;> omega))
        have Oy := hide (O2.out.y.seg s1 (by omega))
        have Oz := hide (O2.out.z.seg s1 (by omega))
        have Ox := hide Ox
        have s1 := hide s1
        have e1 : w6.cell? ⟨m, 1, none⟩ = some (.slice x2 l.length k2) := K3.out.cell 2 1 rfl rfl
        have d1 : w6.cell? ⟨wr.heap.size, 0, none⟩ = some (.int .i64 i) := K3.out.cell 3 0 rfl rfl
        have d2 : w6.cell? ⟨wr.heap.size, 1, none⟩ = some (.int .i64 j) := K3.out.cell 3 1 rfl rfl
        have L := hide (And.intro l1 (And.intro l2 l3))
        have G := hide (And.intro g1 (And.intro g2 g3))
        have A := hide (And.intro r1 (And.intro r2 r3))
        clear l1 l2 l3 g1 g2 g3 r1 r2 r3 hz hq1 hq2 hn6 hm hlo K2 O2 hw5
        go_wp2_with fail
        go_at_call 68
        refine (iExch_ow _ (swaps r (sw.take k)) n2 h2 i j w6 Oy.out H3.out H4.out).mono ?_
        rintro e' w7 ⟨⟨u', rfl⟩, Oy7, s2⟩
        obtain ⟨l1, l2, l3⟩ := L.out
        obtain ⟨g1, g2, g3⟩ := G.out
        obtain ⟨r1, r2, r3⟩ := A.out
        have hz := hz1.out
        have hq1 := Q1.out
        have hq2 := Q2.out
        have hn6 := N6.out
        have hm := K.out.lt 2 rfl
        have hlo := O.out.y.le
        have K4 := hide ((K3.out.seg s2 (by omega) (by intro e he; simp at he; rcases he with rfl | rfl | rfl | rfl <;> simp <;> omega)).sub (M := [(w.heap.size, #[.slice a1 l.length c1, .slice a2 l.length c2, .slice a3 ps.length c3], 31), (w.heap.size + 1, #[.slice none 0 0, .slice none 0 0, .slice none 0 0], 31), (m, #[.slice x1 l.length k1, .slice x2 l.length k2, .slice x3 ps.length k3], 31)]) (List.sublist_append_left _ [_]))
        have Ox7 := hide (Ox.out.seg s2 (by omega))
        have Oz7 := hide (Oz.out.seg s2 (by omega))
        have hsz := hide (Nat.le_trans O.out.top.2 (Nat.le_trans (Nat.le_of_lt N5.out) (Nat.le_trans s1.out.below.size s2.below.size)))
        have Oy7 := hide Oy7
        clear l1 l2 l3 g1 g2 g3 r1 r2 r3 hz hq1 hq2 hn6 hm hlo K3 s2 d1 d2 e1
        go_wp2_with fail
        go_roundw
        case rel =>
          refine ⟨k + 1, by omega, by go_num, K4.out, ?_⟩
          show OC _ _ _ _ _ _ _ _ _ _ _ _ _ _ _
          rw [ES1.out, ES2.out]
          exact ⟨Ox7.out, Oy7.out, Oz7.out, L.out, G.out, A.out, O.out.top.1, hsz.out⟩
        case measure => simp [intOf]; omega
      · have hke : k = sw.length := by omega
        subst hke
        rw [List.take_length] at O
        rw [← EL.out, ← ER.out] at O
        have e0 : wr.cell? ⟨m, 0, none⟩ = some (.slice x1 l.length k1) := K.out.cell 2 0 rfl rfl
        have e1 : wr.cell? ⟨m, 1, none⟩ = some (.slice x2 l.length k2) := K.out.cell 2 1 rfl rfl
        have e2 : wr.cell? ⟨m, 2, none⟩ = some (.slice x3 ps.length k3) := K.out.cell 2 2 rfl rfl
        have g0 : wr.cell? ⟨w.heap.size + 1, 0, none⟩ = some (.slice none 0 0) := K.out.cell 1 0 rfl rfl
        have g1 : wr.cell? ⟨w.heap.size + 1, 1, none⟩ = some (.slice none 0 0) := K.out.cell 1 1 rfl rfl
        have g2 : wr.cell? ⟨w.heap.size + 1, 2, none⟩ = some (.slice none 0 0) := K.out.cell 1 2 rfl rfl
        have f0 := K.out.free 1 0 rfl
        have f1 := K.out.free 1 1 rfl
        have f2 := K.out.free 1 2 rfl
        go_wp2_with fail
        have Z := ((K.out.set 1 0 rfl (.slice x1 l.length k1)).set 1 1 rfl (.slice x2 l.length k2)).set 1 2 rfl (.slice x3 ps.length k3)
        have z0 := Z.cell 1 0 rfl rfl
        have z1 := Z.cell 1 1 rfl rfl
        have z2 := Z.cell 1 2 rfl rfl
        have q1 := Q1.out
        have hz := hz1.out
        have O6 := O.out.seg (seg3 _ (w.heap.size + 1) (.slice x1 l.length k1) (.slice x2 l.length k2) (.slice x3 ps.length k3)) (.inr (by omega))
        exact bodyPost_ret (v := .tuple #[.agg #[.slice x1 l.length k1, .slice x2 l.length k2, .slice x3 ps.length k3], .bool true]) (by simp [results, Try.results24, go_sem, z0, z1, z2]) rfl
          ⟨_, _, _, lo, hi, n1, h1, n2, h2, n3, h3, rfl, by omega, O6.top.2, O6, Z.below⟩

end Go.Proofs.Ytoaafklogibfpaa

/- What ApplySwaps of the program returns, whole (promise 3). Written by gen_aps.py. -/
namespace Go.Proofs.Ytoaafklogibfpaa
open Go.RowKit Go.ChangeShapes
set_option linter.unusedSimpArgs false
set_option linter.unusedVariables false
set_option maxRecDepth 100000

set_option maxHeartbeats 4000000 in
theorem iApply_ne (a1 a2 a3 : Option Addr) (c1 c2 c3 : Nat) (sv : Value) (l r : List Int) (ps sw : List Pv) (w : World) (B : Nat) (V : Hid (Ck w B (.agg #[.slice a1 l.length c1, .slice a2 r.length c2, .slice a3 ps.length c3]) l r ps)) (HR : ¬ (r.length = l.length)) (hs : Pvs w B sv sw) (hB : B ≤ w.heap.size) (hl : l.length ≤ 1048576) (hr : r.length ≤ 1048576) (hp : ps.length ≤ 1048576) :
    Calls Try.prog 24 #[.agg #[.slice a1 l.length c1, .slice a2 r.length c2, .slice a3 ps.length c3], sv] w (RetOCB w l r ps false) := by
  obtain ⟨ad, cap, rfl, -⟩ := hs
  have hq0 : ((r.length : Int) != (l.length : Int)) = true := by simp; omega
  have hq1 : (r.length == l.length) = false := by simp; omega
  have hq2 : decide (r.length = l.length) = false := by simp; omega
  clear HR
  have X := hide (Kn.two w #[.slice a1 l.length c1, .slice a2 r.length c2, .slice a3 ps.length c3] #[.slice none 0 0, .slice none 0 0, .slice none 0 0] 31 31)
  obtain ⟨w1, hw1⟩ : ∃ w1, w1 = (w.alloc (.cells #[.slice a1 l.length c1, .slice a2 r.length c2, .slice a3 ps.length c3] 31)).alloc (.cells #[.slice none 0 0, .slice none 0 0, .slice none 0 0] 31) := ⟨_, rfl⟩
  have hz1 := hide (show w1.heap.size = w.heap.size + 1 + 1 by rw [hw1]; simp)
  rw [← hw1] at X
  have C0 := hide (fun (W : World) (h : Below w.heap.size w W) => iCopy_any _ l r ps W B (V.out.below h hB) (Nat.le_trans hB h.size) hl hr hp)
  go_enter Try.func24, Try.ntmps24
  go_wp2_with fail
  rw [← hw1]
  clear hw1
  have c0 : w1.cell? ⟨w.heap.size, 0, none⟩ = some (.slice a1 l.length c1) := X.out.cell 0 0 rfl rfl
  have c1' : w1.cell? ⟨w.heap.size, 1, none⟩ = some (.slice a2 r.length c2) := X.out.cell 0 1 rfl rfl
  have c2' : w1.cell? ⟨w.heap.size, 2, none⟩ = some (.slice a3 ps.length c3) := X.out.cell 0 2 rfl rfl
  go_wp2_with fail
  go_at_call 57
  refine (C0.out _ X.out.below).mono ?_
  rintro e w2 ⟨x, y, z, lo, hi, n1, h1, n2, h2, n3, h3, rfl, q1, q2, O, hb⟩
  obtain ⟨x1, k1, rfl⟩ := O.x.form
  obtain ⟨x2, k2, rfl⟩ := O.y.form
  obtain ⟨x3, k3, rfl⟩ := O.z.own.form
  have X2 := hide (X.out.up hb)
  have X3 := hide (X2.out.alloc #[.slice x1 l.length k1, .slice x2 r.length k2, .slice x3 ps.length k3] 31)
  have O3 := hide (O.below ((Below.refl w2.heap.size w2).alloc (Nat.le_refl _) (.cells #[.slice x1 l.length k1, .slice x2 r.length k2, .slice x3 ps.length k3] 31)))
  clear c0 c1' c2' O hb X X2
  obtain ⟨m, hm⟩ : ∃ m, m = w2.heap.size := ⟨_, rfl⟩
  obtain ⟨w3, hw3⟩ : ∃ w3, w3 = w2.alloc (.cells #[.slice x1 l.length k1, .slice x2 r.length k2, .slice x3 ps.length k3] 31) := ⟨_, rfl⟩
  rw [← hw3] at X3 O3
  rw [← hm] at X3 q2
  simp only [List.cons_append, List.nil_append] at X3
  have b0 : w3.cell? ⟨w.heap.size, 0, none⟩ = some (.slice a1 l.length c1) := X3.out.cell 0 0 rfl rfl
  have b1 : w3.cell? ⟨w.heap.size, 1, none⟩ = some (.slice a2 r.length c2) := X3.out.cell 0 1 rfl rfl
  have g0 : w3.cell? ⟨w.heap.size + 1, 0, none⟩ = some (.slice none 0 0) := X3.out.cell 1 0 rfl rfl
  have g1 : w3.cell? ⟨w.heap.size + 1, 1, none⟩ = some (.slice none 0 0) := X3.out.cell 1 1 rfl rfl
  have g2 : w3.cell? ⟨w.heap.size + 1, 2, none⟩ = some (.slice none 0 0) := X3.out.cell 1 2 rfl rfl
  have f0 := X3.out.free 1 0 rfl
  have f1 := X3.out.free 1 1 rfl
  have f2 := X3.out.free 1 2 rfl
  have Q1 := hide q1
  have Q2 := hide q2
  rw [hw3] at b0 b1 g0 g1 g2 f0 f1 f2
  go_wp2_with fail
  have Z := ((X3.out.set 1 0 rfl (.slice x1 l.length k1)).set 1 1 rfl (.slice x2 r.length k2)).set 1 2 rfl (.slice x3 ps.length k3)
  have q1 := Q1.out
  have hz := hz1.out
  have O6 := O3.out.seg (seg3 _ (w.heap.size + 1) (.slice x1 l.length k1) (.slice x2 r.length k2) (.slice x3 ps.length k3)) (.inr (by omega))
  rw [hw3] at Z O6
  have z0 := Z.cell 1 0 rfl rfl
  have z1 := Z.cell 1 1 rfl rfl
  have z2 := Z.cell 1 2 rfl rfl
  exact bodyPost_ret (v := .tuple #[.agg #[.slice x1 l.length k1, .slice x2 r.length k2, .slice x3 ps.length k3], .bool false]) (by simp [results, Try.results24, go_sem, z0, z1, z2]) rfl
    ⟨_, _, _, lo, hi, n1, h1, n2, h2, n3, h3, rfl, by omega, O6.top.2, O6, Z.below⟩

theorem iApply_any (v sv : Value) (l r : List Int) (ps sw : List Pv) (w : World) (B : Nat) (hv : Ck w B v l r ps) (hs : Pvs w B sv sw) (hB : B ≤ w.heap.size) (hl : l.length ≤ 1048576) (hr : r.length ≤ 1048576) (hp : ps.length ≤ 1048576) :
    Calls Try.prog 24 #[v, sv] w (RetOCB w (apL l r sw) (apR l r sw) ps (canSwap l r sw)) := by
  obtain ⟨a1, c1, a2, c2, a3, c3, rfl, -⟩ := hv.form
  by_cases h : r.length = l.length
  · rw [h] at hv ⊢
    have e : canSwap l r sw = sw.all (swOk l.length) := by unfold canSwap; rw [decide_eq_true h]; rfl
    exact iApply_eq a1 a2 a3 c1 c2 c3 sv l r ps sw w B hv h hs hB hl hp _ e _ _ rfl rfl
  · have e : canSwap l r sw = false := by unfold canSwap; rw [decide_eq_false h]; rfl
    have e1 : apL l r sw = l := by unfold apL; rw [e]; rfl
    have e2 : apR l r sw = r := by unfold apR; rw [e]; rfl
    rw [e, e1, e2]
    exact iApply_ne a1 a2 a3 c1 c2 c3 sv l r ps sw w B hv h hs hB hl hr hp

end Go.Proofs.Ytoaafklogibfpaa

/- slices.Reverse of swaps of the call's own (promise 3). -/
namespace Go.Proofs.Ytoaafklogibfpaa
open Go.RowKit Go.ChangeShapes
set_option linter.unusedSimpArgs false
set_option linter.unusedVariables false
set_option maxRecDepth 100000

/-- The first k and the last k have changed places. -/
def RevAt (sw m : List Pv) (k : Nat) : Prop := m.length = sw.length ∧ ∀ t, t < sw.length → m.getD t (0, 0) = if t < k ∨ sw.length - k ≤ t then sw.getD (sw.length - 1 - t) (0, 0) else sw.getD t (0, 0)

theorem RevAt.start (sw : List Pv) : RevAt sw sw 0 := ⟨rfl, fun t ht => by rw [if_neg (by omega)]⟩

theorem RevAt.step {sw m : List Pv} {k j : Nat} (h : RevAt sw m k) (hj : j + 1 + k = sw.length) (hk : k < j) : RevAt sw ((m.set k (m.getD j (0, 0))).set j (m.getD k (0, 0))) (k + 1) := by
  obtain ⟨hl, h⟩ := h
  refine ⟨by simp [hl], fun t ht => ?_⟩
  have hjm : j < m.length := by omega
  have hkm : k < m.length := by omega
  by_cases h1 : t = j
  · subst h1
    rw [if_pos (by omega)]
    have : ((m.set k (m.getD t (0, 0))).set t (m.getD k (0, 0))).getD t (0, 0) = m.getD k (0, 0) := by simp [List.getD, hjm]
    rw [this, h k (by omega), if_neg (by omega), show sw.length - 1 - t = k by omega]
  · by_cases h2 : t = k
    · subst h2
      rw [if_pos (by omega)]
      have : ((m.set t (m.getD j (0, 0))).set j (m.getD t (0, 0))).getD t (0, 0) = m.getD j (0, 0) := by
        rw [List.getD_eq_getElem?_getD, List.getElem?_set_ne (by omega), List.getElem?_set_self hkm]
        rfl
      rw [this, h j (by omega), if_neg (by omega), show sw.length - 1 - t = j by omega]
    · have : ((m.set k (m.getD j (0, 0))).set j (m.getD k (0, 0))).getD t (0, 0) = m.getD t (0, 0) := by
        rw [List.getD_eq_getElem?_getD, List.getElem?_set_ne (by omega), List.getElem?_set_ne (by omega), List.getD_eq_getElem?_getD]
      rw [this, h t ht]
      by_cases h3 : t < k ∨ sw.length - k ≤ t
      · rw [if_pos h3, if_pos (by omega)]
      · rw [if_neg h3, if_neg (by omega)]

theorem RevAt.done {sw m : List Pv} {k : Nat} (h : RevAt sw m k) (hk : sw.length ≤ 2 * k + 1) : m = sw.reverse := by
  obtain ⟨hl, h⟩ := h
  apply List.ext_getElem (by simp [hl])
  intro t h1 h2
  have h3 := h t (by omega)
  rw [List.getD_eq_getElem?_getD, List.getElem?_eq_getElem h1] at h3
  rw [List.getElem_reverse]
  by_cases h4 : t < k ∨ sw.length - k ≤ t
  · rw [if_pos h4, List.getD_eq_getElem?_getD, List.getElem?_eq_getElem (by omega)] at h3
    simpa using h3
  · rw [if_neg h4, List.getD_eq_getElem?_getD, List.getElem?_eq_getElem (by omega)] at h3
    have e : sw.length - 1 - t = t := by omega
    simp only [e]
    simpa using h3

theorem seg4 (W : World) (b i j k n : Nat) (x y z u : Value) : Seg b (b + 1) W ((((W.setCell ⟨b, i, none⟩ x).setCell ⟨b, j, none⟩ y).setCell ⟨b, k, none⟩ z).setCell ⟨b, n, none⟩ u).drew := by
  have s := (((Seg.setCell W b i x).trans (Seg.setCell _ b j y)).trans (Seg.setCell _ b k z)).trans (Seg.setCell _ b n u)
  exact ⟨s.below.drew, s.over⟩

set_option maxHeartbeats 4000000 in
theorem reverse_s (v : Value) (sw : List Pv) (lo hi : Nat) (w : World) (h : Osw w v sw lo hi) (hl : sw.length ≤ 1048576) :
    Calls Try.prog 70 #[v] w fun e w' => (∃ u, e = .returned u) ∧ Osw w' v sw.reverse lo hi ∧ Seg lo hi w w' := by
  have H := hide h
  obtain ⟨a, cap, rfl⟩ := h.own.form
  clear h
  go_enter Try.func70, Try.ntmps70
  go_wp2
  go_loopw [2, 3] (fun x y wr => ∃ (k : Nat) (z : Int) (m : List Pv), x = .int .i64 k ∧ y = .int .i64 z ∧ z + 1 + k = sw.length ∧ 2 * k ≤ sw.length + 1 ∧ Hid (RevAt sw m k) ∧ Hid (Osw wr (.slice a sw.length cap) m lo hi) ∧ Hid (Seg lo hi w wr)) (fun x y _ => (intOf y + 2 - intOf x).toNat)
  case atStart => exact ⟨0, (sw.length : Int) - 1, sw, rfl, by go_num, by omega, by omega, RevAt.start sw, H.out, Seg.refl _ _ _⟩
  case round =>
    obtain ⟨k, z, m, rfl, rfl, hz, hk2, hm, ho, hw⟩ := hrel
    by_cases hlt : (k : Int) < z
    · obtain ⟨j, rfl⟩ := Int.eq_ofNat_of_zero_le (show 0 ≤ z by omega)
      have hkj : k < j := by omega
      have hjn : j + 1 + k = sw.length := by omega
      have hkm : k < m.length := by rw [hm.out.1]; omega
      have hjm : j < m.length := by rw [hm.out.1]; omega
      obtain ⟨g, rfl⟩ : ∃ g, a = some ⟨g, 0, none⟩ := by
        rcases ho.out.own.2 with ⟨hv, hn⟩ | ⟨g, cap', cur, hv, _⟩
        · omega
        · simp only [Value.slice.injEq] at hv
          exact ⟨g, hv.1⟩
      obtain ⟨p0, p1, e0, e1, hg1, hg2⟩ := OwS.cell ho.out.own k hkm
      obtain ⟨q0, q1, f0, f1, -, -⟩ := OwS.cell ho.out.own j hjm
      have hg3 := ho.out.lt g rfl
      have hst := hide (hm.out.step hjn hkj)
      obtain ⟨x, y, hxy⟩ : ∃ x y, m.getD k (0, 0) = (x, y) := ⟨_, _, rfl⟩
      obtain ⟨x', y', hxy'⟩ : ∃ x y, m.getD j (0, 0) = (x, y) := ⟨_, _, rfl⟩
      have hk1 : m[k] = (x, y) := by rw [← hxy, List.getD_eq_getElem?_getD, List.getElem?_eq_getElem hkm]; rfl
      have hj1 : m[j] = (x', y') := by rw [← hxy', List.getD_eq_getElem?_getD, List.getElem?_eq_getElem hjm]; rfl
      rw [hk1] at p0 p1
      rw [hj1] at q0 q1
      simp only at p0 p1 q0 q1
      have HST : Hid (RevAt sw ((m.set k (x', y')).set j (x, y)) (k + 1)) := by rw [← hxy, ← hxy']; exact hst.out
      have P1 := hide (OwS.put ho.out.own k x' y' hkm)
      have P2 := hide (OwS.put P1.out j x y (by simp; exact hjm))
      clear hst hxy hxy' hk1 hj1
      have ne1 : j * 2 ≠ k * 2 := by omega
      have ne2 : j * 2 ≠ k * 2 + 1 := by omega
      have ne3 : j * 2 + 1 ≠ k * 2 := by omega
      have ne4 : j * 2 + 1 ≠ k * 2 + 1 := by omega
      have r1 : (wr.setCell ⟨g, k * 2, none⟩ (.int .i64 x')).cell? ⟨g, k * 2 + 1, none⟩ = some (.int .i64 y) := by rw [World.cell?_setCell_other _ _ _ _ (by simp)]; exact p1
      have r2 : ((wr.setCell ⟨g, k * 2, none⟩ (.int .i64 x')).setCell ⟨g, k * 2 + 1, none⟩ (.int .i64 y')).cell? ⟨g, j * 2, none⟩ = some (.int .i64 x') := by rw [World.cell?_setCell_other _ _ _ _ (by simp [ne2]), World.cell?_setCell_other _ _ _ _ (by simp [ne1])]; exact q0
      have r3 : (((wr.setCell ⟨g, k * 2, none⟩ (.int .i64 x')).setCell ⟨g, k * 2 + 1, none⟩ (.int .i64 y')).setCell ⟨g, j * 2, none⟩ (.int .i64 x)).cell? ⟨g, j * 2 + 1, none⟩ = some (.int .i64 y') := by rw [World.cell?_setCell_other _ _ _ _ (by simp), World.cell?_setCell_other _ _ _ _ (by simp [ne4]), World.cell?_setCell_other _ _ _ _ (by simp [ne3])]; exact q1
      have t0 : decide (k < j) = true := by simp; omega
      have i1 : (k : Int) < (sw.length : Int) := by omega
      have i2 : (j : Int) < (sw.length : Int) := by omega
      go_wp2_with fail
      go_region
      go_wp2_with fail
      go_roundw
      case rel =>
        have sg := seg4 wr g (k * 2) (k * 2 + 1) (j * 2) (j * 2 + 1) (.int .i64 x') (.int .i64 y') (.int .i64 x) (.int .i64 y)
        exact ⟨k + 1, (j : Int) - 1, (m.set k (x', y')).set j (x, y), by go_num, rfl, by omega, by omega, HST.out, ⟨P2.out.below (Below.refl _ _).drew, ho.out.lt, ho.out.le, Nat.le_trans ho.out.top sg.below.size⟩, hw.out.trans (sg.mono hg1 (by omega))⟩
      case measure => simp [intOf]; omega
    · have hd := hide (hm.out.done (show sw.length ≤ 2 * k + 1 by omega))
      have t0 : decide ((k : Int) < z) = false := by simp; omega
      go_wp2_with fail
      refine bodyPost_end (v := .tuple #[]) (by simp [results, Try.results70]) rfl ⟨⟨_, rfl⟩, by rw [← hd.out]; exact ho.out, hw.out⟩

end Go.Proofs.Ytoaafklogibfpaa

/- What UndoSwaps of the program returns (promise 3). -/
namespace Go.Proofs.Ytoaafklogibfpaa
open Go.RowKit Go.ChangeShapes
set_option linter.unusedSimpArgs false
set_option linter.unusedVariables false
set_option maxRecDepth 100000

set_option maxHeartbeats 4000000 in
theorem iUndo_any (v : Value) (ad : Option Addr) (cap : Nat) (l r : List Int) (ps sw : List Pv) (w : World) (B : Nat) (hv : Ck w B v l r ps) (hs : Pvs w B (.slice ad sw.length cap) sw) (hn : ad = none → cap = 0) (hB : B ≤ w.heap.size) (hl : l.length ≤ 1048576) (hr : r.length ≤ 1048576) (hp : ps.length ≤ 1048576) (hsl : sw.length ≤ 1048576) :
    Calls Try.prog 25 #[v, .slice ad sw.length cap] w (RetOCB w (apL l r sw.reverse) (apR l r sw.reverse) ps (canSwap l r sw.reverse)) := by
  obtain ⟨a1, c1, a2, c2, a3, c3, rfl, -⟩ := hv.form
  have HA := hide (fun (W : World) (sv : Value) (h1 : Below w.heap.size w W) (h2 : Pvs W W.heap.size sv sw.reverse) => iApply_any _ sv l r ps sw.reverse W W.heap.size ((hv.below h1 hB).mono (Nat.le_trans hB h1.size)) h2 (Nat.le_refl _) hl hr hp)
  obtain ⟨LL, hLL⟩ : ∃ LL, LL = apL l r sw.reverse := ⟨_, rfl⟩
  obtain ⟨RR, hRR⟩ : ∃ RR, RR = apR l r sw.reverse := ⟨_, rfl⟩
  obtain ⟨t, ht⟩ : ∃ t, t = canSwap l r sw.reverse := ⟨_, rfl⟩
  rw [← hLL, ← hRR, ← ht] at HA ⊢
  clear hLL hRR ht
  have HW : Hid (∀ p ∈ sw, I64 p.1 ∧ I64 p.2) := by
    obtain ⟨_, _, _, _, hwf, _⟩ := hs
    exact hwf
  have CC := hide (fun (W : World) (h : Below w.heap.size w W) => clone_s ad cap sw W B (hs.below h hB) hn (Nat.le_trans hB h.size) hsl)
  clear hs hn hv
  have X := hide (Kn.two w #[.slice a1 l.length c1, .slice a2 r.length c2, .slice a3 ps.length c3] #[.slice none 0 0, .slice none 0 0, .slice none 0 0] 31 31)
  obtain ⟨w1, hw1⟩ : ∃ w1, w1 = (w.alloc (.cells #[.slice a1 l.length c1, .slice a2 r.length c2, .slice a3 ps.length c3] 31)).alloc (.cells #[.slice none 0 0, .slice none 0 0, .slice none 0 0] 31) := ⟨_, rfl⟩
  have hz1 := hide (show w1.heap.size = w.heap.size + 1 + 1 by rw [hw1]; simp)
  rw [← hw1] at X
  go_enter Try.func25, Try.ntmps25
  go_wp2_with fail
  rw [← hw1]
  clear hw1
  go_at_call 69
  refine (CC.out _ X.out.below).mono ?_
  rintro e w2 ⟨u, rfl, O, hb⟩
  obtain ⟨g, k, rfl⟩ := O.form
  have X := hide (X.out.up hb)
  have O := hide (Osw.of O hb.size)
  clear hb
  go_wp2_with fail
  go_at_call 70
  refine (reverse_s _ sw _ _ w2 O.out hsl).mono ?_
  rintro e w3 ⟨⟨u, rfl⟩, O3, s⟩
  have X := hide (X.out.seg s (by have := hz1.out; omega) (by intro e he; simp at he; have := hz1.out; rcases he with rfl | rfl <;> simp <;> omega))
  have HP := hide (O3.own.pvs (B := w3.heap.size) (Nat.le_refl _) (by rw [List.length_reverse]; omega) (fun p hp => HW.out p (List.mem_reverse.1 hp)))
  clear s O O3
  have c0 : w3.cell? ⟨w.heap.size, 0, none⟩ = some (.slice a1 l.length c1) := X.out.cell 0 0 rfl rfl
  have c1' : w3.cell? ⟨w.heap.size, 1, none⟩ = some (.slice a2 r.length c2) := X.out.cell 0 1 rfl rfl
  have c2' : w3.cell? ⟨w.heap.size, 2, none⟩ = some (.slice a3 ps.length c3) := X.out.cell 0 2 rfl rfl
  go_wp2_with fail
  go_at_call 24
  refine (HA.out _ _ X.out.below HP.out).mono ?_
  rintro e w5 ⟨x, y, z', lo, hi, n1, h1, n2, h2, n3, h3, rfl, q1, q2, O5, hb5⟩
  obtain ⟨x1, k1, rfl⟩ := O5.x.form
  obtain ⟨x2, k2, rfl⟩ := O5.y.form
  obtain ⟨x3, k3, rfl⟩ := O5.z.own.form
  have K5 := hide (X.out.up hb5)
  have P3 := hide (Nat.le_trans X.out.below.size q1)
  have P5 := hide (Nat.lt_of_lt_of_le (X.out.lt 1 rfl) q1)
  have O5 := hide O5
  clear c0 c1' c2' hb5 q1 q2 X HP
  have g0 : w5.cell? ⟨w.heap.size + 1, 0, none⟩ = some (.slice none 0 0) := K5.out.cell 1 0 rfl rfl
  have g1 : w5.cell? ⟨w.heap.size + 1, 1, none⟩ = some (.slice none 0 0) := K5.out.cell 1 1 rfl rfl
  have g2 : w5.cell? ⟨w.heap.size + 1, 2, none⟩ = some (.slice none 0 0) := K5.out.cell 1 2 rfl rfl
  have f0 := K5.out.free 1 0 rfl
  have f1 := K5.out.free 1 1 rfl
  have f2 := K5.out.free 1 2 rfl
  go_wp2_with fail
  have Z := ((K5.out.set 1 0 rfl (.slice x1 LL.length k1)).set 1 1 rfl (.slice x2 RR.length k2)).set 1 2 rfl (.slice x3 ps.length k3)
  have z0 := Z.cell 1 0 rfl rfl
  have z1 := Z.cell 1 1 rfl rfl
  have z2 := Z.cell 1 2 rfl rfl
  have O6 := O5.out.seg (seg3 _ (w.heap.size + 1) (.slice x1 LL.length k1) (.slice x2 RR.length k2) (.slice x3 ps.length k3)) (.inr P5.out)
  exact bodyPost_ret (v := .tuple #[.agg #[.slice x1 LL.length k1, .slice x2 RR.length k2, .slice x3 ps.length k3], .bool t]) (by simp [results, Try.results25, go_sem, z0, z1, z2]) rfl
    ⟨_, _, _, lo, hi, n1, h1, n2, h2, n3, h3, rfl, P3.out, O6.top.2, O6, Z.below⟩

end Go.Proofs.Ytoaafklogibfpaa
