/- What ApplySwaps of the program returns (promise 3). -/
import Derived.Test.YtobdghabehbcjaaCpI
import Derived.Test.YtobdghabehbcjaaExch
import Derived.Test.YtobdghabehbcjaaHave
namespace Go.Proofs.Ytobdghabehbcjaa
open Go.RowKit Go.ChangeShapes
set_option linter.unusedSimpArgs false
set_option linter.unusedVariables false
set_option maxRecDepth 100000

set_option maxHeartbeats 4000000 in
theorem iApply_eq (a1 a2 a3 : Option Addr) (c1 c2 c3 : Nat) (sv : Value) (l r : List Int) (ps sw : List Pv) (w : World) (B : Nat) (V : Hid (Ck w B (.agg #[.slice a1 l.length c1, .slice a2 l.length c2, .slice a3 ps.length c3]) l r ps)) (HR : Hid (r.length = l.length)) (hs : Pvs w B sv sw) (hB : B ≤ w.heap.size) (hl : l.length ≤ 1048576) (hp : ps.length ≤ 1048576) (t : Bool) (HT : Hid (t = sw.all (swOk l.length))) (LL RR : List Int) (HLL : Hid (LL = if t = true then swaps l sw else l)) (HRR : Hid (RR = if t = true then swaps r sw else r)) :
    Calls Try.prog 15 #[.agg #[.slice a1 l.length c1, .slice a2 l.length c2, .slice a3 ps.length c3], sv] w (RetOCB w LL RR ps t) := by
  have HC := hide hs
  obtain ⟨ad, cap, rfl, hlen, hwf, hcell⟩ := hs
  have HCC := hide hcell
  clear hcell hwf
  have X := hide (Kn.two w #[.slice a1 l.length c1, .slice a2 l.length c2, .slice a3 ps.length c3] #[.slice none 0 0, .slice none 0 0, .slice none 0 0] 32 32)
  obtain ⟨w1, hw1⟩ : ∃ w1, w1 = (w.alloc (.cells #[.slice a1 l.length c1, .slice a2 l.length c2, .slice a3 ps.length c3] 32)).alloc (.cells #[.slice none 0 0, .slice none 0 0, .slice none 0 0] 32) := ⟨_, rfl⟩
  have hz1 := hide (show w1.heap.size = w.heap.size + 1 + 1 by rw [hw1]; simp)
  rw [← hw1] at X
  have hq0 : ((l.length : Int) != (l.length : Int)) = false := by simp
  have C0 := hide (fun (W : World) (h : Below w.heap.size w W) => iCopy_any _ l r ps W B (V.out.below h hB) (Nat.le_trans hB h.size) hl (by rw [HR.out]; exact hl) hp)
  have CH := hide (fun (W : World) (h : Below w.heap.size w W) => show Calls Try.prog 51 #[.slice ad sw.length cap, .int .i64 l.length] W (RetB1 W t) by rw [HT.out]; exact iHave_any _ sw l.length W B (HC.out.below h hB) (Nat.le_trans hB h.size))
  go_enter Try.func15, Try.ntmps15
  go_wp2_with fail
  rw [← hw1]
  clear hw1
  have c0 : w1.cell? ⟨w.heap.size, 0, none⟩ = some (.slice a1 l.length c1) := X.out.cell 0 0 rfl rfl
  have c1' : w1.cell? ⟨w.heap.size, 1, none⟩ = some (.slice a2 l.length c2) := X.out.cell 0 1 rfl rfl
  have c2' : w1.cell? ⟨w.heap.size, 2, none⟩ = some (.slice a3 ps.length c3) := X.out.cell 0 2 rfl rfl
  go_wp2_with fail
  go_at_call 50
  refine (C0.out _ X.out.below).mono ?_
  rintro e w2 ⟨x, y, z, lo, hi, n1, h1, n2, h2, n3, h3, rfl, q1, q2, O, hb⟩
  obtain ⟨x1, k1, rfl⟩ := O.x.form
  obtain ⟨x2, k2, hx2⟩ := O.y.form
  rw [HR.out] at hx2
  subst hx2
  obtain ⟨x3, k3, rfl⟩ := O.z.own.form
  have X2 := hide (X.out.up hb)
  have X3 := hide (X2.out.alloc #[.slice x1 l.length k1, .slice x2 l.length k2, .slice x3 ps.length k3] 32)
  have O3 := hide (O.below ((Below.refl w2.heap.size w2).alloc (Nat.le_refl _) (.cells #[.slice x1 l.length k1, .slice x2 l.length k2, .slice x3 ps.length k3] 32)))
  clear c0 c1' c2' O hb X X2
  obtain ⟨m, hm⟩ : ∃ m, m = w2.heap.size := ⟨_, rfl⟩
  obtain ⟨w3, hw3⟩ : ∃ w3, w3 = w2.alloc (.cells #[.slice x1 l.length k1, .slice x2 l.length k2, .slice x3 ps.length k3] 32) := ⟨_, rfl⟩
  rw [← hw3] at X3 O3
  rw [← hm] at X3 q2
  simp only [List.cons_append, List.nil_append] at X3
  have b0 : w3.cell? ⟨w.heap.size, 0, none⟩ = some (.slice a1 l.length c1) := X3.out.cell 0 0 rfl rfl
  have b1 : w3.cell? ⟨w.heap.size, 1, none⟩ = some (.slice a2 l.length c2) := X3.out.cell 0 1 rfl rfl
  have Q1 := hide q1
  have Q2 := hide q2
  rw [hw3] at b0 b1
  go_wp2_with fail
  rw [← hw3]
  try rw [← hm]
  clear b0 b1 hw3 hm q1 q2
  go_at_call 51
  refine (CH.out _ X3.out.below).mono ?_
  rintro e w4 ⟨rfl, hb⟩
  have K3 := hide (X3.out.up hb)
  have O3 := hide (O3.out.below hb)
  clear X3 hb
  cases t with
  | false =>
    obtain rfl : LL = l := HLL.out
    obtain rfl : RR = r := HRR.out
    have e0 : w4.cell? ⟨m, 0, none⟩ = some (.slice x1 LL.length k1) := K3.out.cell 2 0 rfl rfl
    have e1 : w4.cell? ⟨m, 1, none⟩ = some (.slice x2 LL.length k2) := K3.out.cell 2 1 rfl rfl
    have e2 : w4.cell? ⟨m, 2, none⟩ = some (.slice x3 ps.length k3) := K3.out.cell 2 2 rfl rfl
    have g0 : w4.cell? ⟨w.heap.size + 1, 0, none⟩ = some (.slice none 0 0) := K3.out.cell 1 0 rfl rfl
    have g1 : w4.cell? ⟨w.heap.size + 1, 1, none⟩ = some (.slice none 0 0) := K3.out.cell 1 1 rfl rfl
    have g2 : w4.cell? ⟨w.heap.size + 1, 2, none⟩ = some (.slice none 0 0) := K3.out.cell 1 2 rfl rfl
    have f0 := K3.out.free 1 0 rfl
    have f1 := K3.out.free 1 1 rfl
    have f2 := K3.out.free 1 2 rfl
    go_wp2_with fail
    have Z := ((K3.out.set 1 0 rfl (.slice x1 LL.length k1)).set 1 1 rfl (.slice x2 LL.length k2)).set 1 2 rfl (.slice x3 ps.length k3)
    have z0 := Z.cell 1 0 rfl rfl
    have z1 := Z.cell 1 1 rfl rfl
    have z2 := Z.cell 1 2 rfl rfl
    have q1 := Q1.out
    have hz := hz1.out
    have O6 := O3.out.seg (seg3 _ (w.heap.size + 1) (.slice x1 LL.length k1) (.slice x2 LL.length k2) (.slice x3 ps.length k3)) (.inr (by omega))
    exact bodyPost_ret (v := .tuple #[.agg #[.slice x1 LL.length k1, .slice x2 LL.length k2, .slice x3 ps.length k3], .bool false]) (by simp [results, Try.results15, go_sem, z0, z1, z2]) rfl
      ⟨_, _, _, lo, hi, n1, h1, n2, h2, n3, h3, rfl, by omega, O6.top.2, O6, Z.below⟩
  | true =>
    have EL : Hid (LL = swaps l sw) := HLL.out
    have ER : Hid (RR = swaps r sw) := HRR.out
    clear HLL HRR
    go_wp2_with fail
    go_loopw [29] (fun u wr => ∃ (k : Nat), k ≤ sw.length ∧ u = .int .i64 k ∧ Hid (Kn w wr [(w.heap.size, #[.slice a1 l.length c1, .slice a2 l.length c2, .slice a3 ps.length c3], 32), (w.heap.size + 1, #[.slice none 0 0, .slice none 0 0, .slice none 0 0], 32), (m, #[.slice x1 l.length k1, .slice x2 l.length k2, .slice x3 ps.length k3], 32)]) ∧ Hid (OC wr (.slice x1 l.length k1) (.slice x2 l.length k2) (.slice x3 ps.length k3) (swaps l (sw.take k)) (swaps r (sw.take k)) ps lo hi n1 h1 n2 h2 n3 h3)) (fun u _ => sw.length - (intOf u).toNat)
    case atStart => exact ⟨0, by omega, rfl, K3.out, by simpa [Hid, swaps] using O3.out⟩
    case round =>
      clear K3 O3
      obtain ⟨k, hk, rfl, K, O⟩ := hrel
      by_cases hlt : k < sw.length
      · have es1 := swaps_take l sw k hlt
        have es2 := swaps_take r sw k hlt
        obtain ⟨b1, o1, rfl, hb1, hc1, hc2⟩ := HCC.out k hlt
        have hok := List.all_eq_true.1 HT.out.symm _ (List.getElem_mem hlt)
        unfold swOk at hok
        simp only [Bool.and_eq_true, decide_eq_true_eq] at hok
        obtain ⟨⟨p1, p2⟩, p3, p4⟩ := hok
        obtain ⟨i, hi⟩ := Int.eq_ofNat_of_zero_le p1
        obtain ⟨j, hj⟩ := Int.eq_ofNat_of_zero_le p3
        rw [hi] at hc1 p2 es1 es2
        rw [hj] at hc2 p4 es1 es2
        rw [Int.toNat_natCast, Int.toNat_natCast] at es1 es2
        have d1 : wr.cell? ⟨b1, o1 + k * 2, none⟩ = some (.int .i64 i) := by rw [K.out.below.cell (p := ⟨b1, o1 + k * 2, none⟩) (Nat.lt_of_lt_of_le hb1 hB)]; exact hc1
        have d2 : wr.cell? ⟨b1, o1 + k * 2 + 1, none⟩ = some (.int .i64 j) := by rw [K.out.below.cell (p := ⟨b1, o1 + k * 2 + 1, none⟩) (Nat.lt_of_lt_of_le hb1 hB)]; exact hc2
        have H1 := hide (show i < (swaps l (sw.take k)).length by rw [swaps_length]; omega)
        have H2 := hide (show j < (swaps l (sw.take k)).length by rw [swaps_length]; omega)
        have H3 := hide (show i < (swaps r (sw.take k)).length by rw [swaps_length, HR.out]; omega)
        have H4 := hide (show j < (swaps r (sw.take k)).length by rw [swaps_length, HR.out]; omega)
        have ES1 := hide es1
        have ES2 := hide es2
        clear hc1 hc2 hb1 p1 p2 p3 p4 hi hj es1 es2
        have hbl := below1 wr (.cells #[.int .i64 i, .int .i64 j] 37)
        have K2 := hide (K.out.alloc #[.int .i64 i, .int .i64 j] 37)
        have O2 := hide (O.out.below hbl)
        clear hbl
        obtain ⟨w5, hw5⟩ : ∃ w5, w5 = wr.alloc (.cells #[.int .i64 i, .int .i64 j] 37) := ⟨_, rfl⟩
        rw [← hw5] at K2 O2
        simp only [List.cons_append, List.nil_append] at K2
        have e0 : w5.cell? ⟨m, 0, none⟩ = some (.slice x1 l.length k1) := K2.out.cell 2 0 rfl rfl
        rw [hw5] at e0
        have N5 := hide (show wr.heap.size < w5.heap.size by rw [hw5]; simp)
        have N6 := hide (Nat.le_trans O.out.top.2 (Nat.le_refl wr.heap.size))
        go_wp2_with fail
        rw [← hw5]
        clear e0 d1 d2
        go_at_call 52
        refine (iExch_ow _ (swaps l (sw.take k)) n1 h1 i j w5 O2.out.x H1.out H2.out).mono ?_
        rintro e' w6 ⟨⟨u, rfl⟩, Ox, s1⟩
        obtain ⟨l1, l2, l3⟩ := O.out.low
        obtain ⟨g1, g2, g3⟩ := O.out.high
        obtain ⟨r1, r2, r3⟩ := O.out.apart
        have hz := hz1.out
        have hq1 := Q1.out
        have hq2 := Q2.out
        have hn6 := N6.out
        have hm := K.out.lt 2 rfl
        have hlo := O.out.x.le
        have K3 := hide (K2.out.seg s1 (by omega) (by intro e he; simp at he; rcases he with rfl | rfl | rfl | rfl <;> simp <;> omega))
        have Oy := hide (O2.out.y.seg s1 (by omega))
        have Oz := hide (O2.out.z.seg s1 (by omega))
        have Ox := hide Ox
        have s1 := hide s1
        have e1 : w6.cell? ⟨m, 1, none⟩ = some (.slice x2 l.length k2) := K3.out.cell 2 1 rfl rfl
        have d1 : w6.cell? ⟨wr.heap.size, 0, none⟩ = some (.int .i64 i) := K3.out.cell 3 0 rfl rfl
        have d2 : w6.cell? ⟨wr.heap.size, 1, none⟩ = some (.int .i64 j) := K3.out.cell 3 1 rfl rfl
        have L := hide (And.intro l1 (And.intro l2 l3))
        have G := hide (And.intro g1 (And.intro g2 g3))
        have A := hide (And.intro r1 (And.intro r2 r3))
        clear l1 l2 l3 g1 g2 g3 r1 r2 r3 hz hq1 hq2 hn6 hm hlo K2 O2 hw5
        go_wp2_with fail
        go_at_call 52
        refine (iExch_ow _ (swaps r (sw.take k)) n2 h2 i j w6 Oy.out H3.out H4.out).mono ?_
        rintro e' w7 ⟨⟨u', rfl⟩, Oy7, s2⟩
        obtain ⟨l1, l2, l3⟩ := L.out
        obtain ⟨g1, g2, g3⟩ := G.out
        obtain ⟨r1, r2, r3⟩ := A.out
        have hz := hz1.out
        have hq1 := Q1.out
        have hq2 := Q2.out
        have hn6 := N6.out
        have hm := K.out.lt 2 rfl
        have hlo := O.out.y.le
        have K4 := hide ((K3.out.seg s2 (by omega) (by intro e he; simp at he; rcases he with rfl | rfl | rfl | rfl <;> simp <;> omega)).sub (M := [(w.heap.size, #[.slice a1 l.length c1, .slice a2 l.length c2, .slice a3 ps.length c3], 32), (w.heap.size + 1, #[.slice none 0 0, .slice none 0 0, .slice none 0 0], 32), (m, #[.slice x1 l.length k1, .slice x2 l.length k2, .slice x3 ps.length k3], 32)]) (List.sublist_append_left _ [_]))
        have Ox7 := hide (Ox.out.seg s2 (by omega))
        have Oz7 := hide (Oz.out.seg s2 (by omega))
        have hsz := hide (Nat.le_trans O.out.top.2 (Nat.le_trans (Nat.le_of_lt N5.out) (Nat.le_trans s1.out.below.size s2.below.size)))
        have Oy7 := hide Oy7
        clear l1 l2 l3 g1 g2 g3 r1 r2 r3 hz hq1 hq2 hn6 hm hlo K3 s2 d1 d2 e1
        go_wp2_with fail
        go_roundw
        case rel =>
          refine ⟨k + 1, by omega, by go_num, K4.out, ?_⟩
          show OC _ _ _ _ _ _ _ _ _ _ _ _ _ _ _
          rw [ES1.out, ES2.out]
          exact ⟨Ox7.out, Oy7.out, Oz7.out, L.out, G.out, A.out, O.out.top.1, hsz.out⟩
        case measure => simp [intOf]; omega
      · have hke : k = sw.length := by omega
        subst hke
        rw [List.take_length] at O
        rw [← EL.out, ← ER.out] at O
        have e0 : wr.cell? ⟨m, 0, none⟩ = some (.slice x1 l.length k1) := K.out.cell 2 0 rfl rfl
        have e1 : wr.cell? ⟨m, 1, none⟩ = some (.slice x2 l.length k2) := K.out.cell 2 1 rfl rfl
        have e2 : wr.cell? ⟨m, 2, none⟩ = some (.slice x3 ps.length k3) := K.out.cell 2 2 rfl rfl
        have g0 : wr.cell? ⟨w.heap.size + 1, 0, none⟩ = some (.slice none 0 0) := K.out.cell 1 0 rfl rfl
        have g1 : wr.cell? ⟨w.heap.size + 1, 1, none⟩ = some (.slice none 0 0) := K.out.cell 1 1 rfl rfl
        have g2 : wr.cell? ⟨w.heap.size + 1, 2, none⟩ = some (.slice none 0 0) := K.out.cell 1 2 rfl rfl
        have f0 := K.out.free 1 0 rfl
        have f1 := K.out.free 1 1 rfl
        have f2 := K.out.free 1 2 rfl
        go_wp2_with fail
        have Z := ((K.out.set 1 0 rfl (.slice x1 l.length k1)).set 1 1 rfl (.slice x2 l.length k2)).set 1 2 rfl (.slice x3 ps.length k3)
        have z0 := Z.cell 1 0 rfl rfl
        have z1 := Z.cell 1 1 rfl rfl
        have z2 := Z.cell 1 2 rfl rfl
        have q1 := Q1.out
        have hz := hz1.out
        have O6 := O.out.seg (seg3 _ (w.heap.size + 1) (.slice x1 l.length k1) (.slice x2 l.length k2) (.slice x3 ps.length k3)) (.inr (by omega))
        exact bodyPost_ret (v := .tuple #[.agg #[.slice x1 l.length k1, .slice x2 l.length k2, .slice x3 ps.length k3], .bool true]) (by simp [results, Try.results15, go_sem, z0, z1, z2]) rfl
          ⟨_, _, _, lo, hi, n1, h1, n2, h2, n3, h3, rfl, by omega, O6.top.2, O6, Z.below⟩

end Go.Proofs.Ytobdghabehbcjaa
