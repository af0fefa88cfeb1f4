/- What ApplySwaps of the reference returns (promise 3). Written by gen_aps.py. -/
import Derived.Test.YtobdghabehbcjaaCpI
import Derived.Test.YtobdghabehbcjaaApD
import Derived.Test.YtobdghabehbcjaaIn
namespace Go.Proofs.Ytobdghabehbcjaa
open Go.RowKit Go.ChangeShapes
set_option linter.unusedSimpArgs false
set_option linter.unusedVariables false
set_option maxRecDepth 100000

set_option maxHeartbeats 4000000 in
theorem sApply_eq (a1 a2 a3 : Option Addr) (c1 c2 c3 : Nat) (sv : Value) (l r : List Int) (ps sw : List Pv) (w : World) (B : Nat) (V : Hid (Ck w B (.agg #[.slice a1 l.length c1, .slice a2 l.length c2, .slice a3 ps.length c3]) l r ps)) (HR : Hid (r.length = l.length)) (hs : Pvs w B sv sw) (hB : B ≤ w.heap.size) (hl : l.length ≤ 1048576) (hp : ps.length ≤ 1048576) (t : Bool) (HT : Hid (t = sw.all (swOk l.length))) (LL RR : List Int) (HLL : Hid (LL = if t = true then swaps l sw else l)) (HRR : Hid (RR = if t = true then swaps r sw else r)) :
    Calls Try.prog 35 #[.agg #[.slice a1 l.length c1, .slice a2 l.length c2, .slice a3 ps.length c3], sv] w (RetOCB w LL RR ps t) := by
  have HC := hide hs
  obtain ⟨ad, cap, rfl, hlen, hwf, hcell⟩ := hs
  have HCC := hide hcell
  clear hcell hwf
  have X := hide (Kn.two w #[.slice a1 l.length c1, .slice a2 l.length c2, .slice a3 ps.length c3] #[.slice none 0 0, .slice none 0 0, .slice none 0 0] 32 32)
  obtain ⟨w1, hw1⟩ : ∃ w1, w1 = (w.alloc (.cells #[.slice a1 l.length c1, .slice a2 l.length c2, .slice a3 ps.length c3] 32)).alloc (.cells #[.slice none 0 0, .slice none 0 0, .slice none 0 0] 32) := ⟨_, rfl⟩
  have hz1 := hide (show w1.heap.size = w.heap.size + 1 + 1 by rw [hw1]; simp)
  rw [← hw1] at X
  have hq0 : ((l.length : Int) != (l.length : Int)) = false := by simp
  have C0 := hide (fun (W : World) (h : Below w.heap.size w W) => sCopy_any _ l r ps W B (V.out.below h hB) (Nat.le_trans hB h.size) hl (by rw [HR.out]; exact hl) hp)
  go_enter Try.func35, Try.ntmps35
  go_wp2_with fail
  rw [← hw1]
  clear hw1
  have c0 : w1.cell? ⟨w.heap.size, 0, none⟩ = some (.slice a1 l.length c1) := X.out.cell 0 0 rfl rfl
  have c1' : w1.cell? ⟨w.heap.size, 1, none⟩ = some (.slice a2 l.length c2) := X.out.cell 0 1 rfl rfl
  have c2' : w1.cell? ⟨w.heap.size, 2, none⟩ = some (.slice a3 ps.length c3) := X.out.cell 0 2 rfl rfl
  go_wp2_with fail
  go_at_call 63
  refine (C0.out _ X.out.below).mono ?_
  rintro e w2 ⟨x, y, z, lo, hi, n1, h1, n2, h2, n3, h3, rfl, q1, q2, O, hb⟩
  obtain ⟨x1, k1, rfl⟩ := O.x.form
  obtain ⟨x2, k2, hx2⟩ := O.y.form
  rw [HR.out] at hx2
  subst hx2
  obtain ⟨x3, k3, rfl⟩ := O.z.own.form
  have X2 := hide (X.out.up hb)
  have X3 := hide (X2.out.alloc #[.slice x1 l.length k1, .slice x2 l.length k2, .slice x3 ps.length k3] 32)
  have O3 := hide (O.below ((Below.refl w2.heap.size w2).alloc (Nat.le_refl _) (.cells #[.slice x1 l.length k1, .slice x2 l.length k2, .slice x3 ps.length k3] 32)))
  clear c0 c1' c2' O hb X X2
  obtain ⟨m, hm⟩ : ∃ m, m = w2.heap.size := ⟨_, rfl⟩
  obtain ⟨w3, hw3⟩ : ∃ w3, w3 = w2.alloc (.cells #[.slice x1 l.length k1, .slice x2 l.length k2, .slice x3 ps.length k3] 32) := ⟨_, rfl⟩
  rw [← hw3] at X3 O3
  rw [← hm] at X3 q2
  simp only [List.cons_append, List.nil_append] at X3
  have Q1 := hide q1
  have Q2 := hide q2
  have EL := hide HLL.out
  have ER := hide HRR.out
  clear HLL HRR
  go_wp2_with fail
  rw [← hw3]
  try rw [← hm]
  clear hw3 hm q1 q2
  go_loopw [7] (fun u wr => ∃ (k : Nat), k ≤ sw.length ∧ u = .int .i64 k ∧ Hid ((sw.take k).all (swOk l.length) = true) ∧ Hid (Kn w wr [(w.heap.size, #[.slice a1 l.length c1, .slice a2 l.length c2, .slice a3 ps.length c3], 32), (w.heap.size + 1, #[.slice none 0 0, .slice none 0 0, .slice none 0 0], 32), (m, #[.slice x1 l.length k1, .slice x2 l.length k2, .slice x3 ps.length k3], 32)]) ∧ Hid (OC wr (.slice x1 l.length k1) (.slice x2 l.length k2) (.slice x3 ps.length k3) (swaps l (sw.take k)) (swaps r (sw.take k)) ps lo hi n1 h1 n2 h2 n3 h3)) (fun u _ => sw.length - (intOf u).toNat)
  case atStart => exact ⟨0, by omega, rfl, by simp [Hid], X3.out, by simpa [Hid, swaps] using O3.out⟩
  case round =>
      clear X3 O3
      obtain ⟨k, hk, rfl, hall, K, O⟩ := hrel
      have e0 : wr.cell? ⟨m, 0, none⟩ = some (.slice x1 l.length k1) := K.out.cell 2 0 rfl rfl
      have e1 : wr.cell? ⟨m, 1, none⟩ = some (.slice x2 l.length k2) := K.out.cell 2 1 rfl rfl
      by_cases hlt : k < sw.length
      · have es1 := hide (swaps_take l sw k hlt)
        have es2 := hide (swaps_take r sw k hlt)
        have hat := hide (all_take (swOk l.length) sw k hlt)
        obtain ⟨b1, o1, rfl, hb1, hc1, hc2⟩ := HCC.out k hlt
        obtain ⟨x, hx⟩ : ∃ x, x = sw[k].1 := ⟨_, rfl⟩
        obtain ⟨y, hy⟩ : ∃ y, y = sw[k].2 := ⟨_, rfl⟩
        rw [← hx] at hc1
        rw [← hy] at hc2
        have d1 : wr.cell? ⟨b1, o1 + k * 2, none⟩ = some (.int .i64 x) := by rw [K.out.below.cell (p := ⟨b1, o1 + k * 2, none⟩) (Nat.lt_of_lt_of_le hb1 hB)]; exact hc1
        have d2 : wr.cell? ⟨b1, o1 + k * 2 + 1, none⟩ = some (.int .i64 y) := by rw [K.out.below.cell (p := ⟨b1, o1 + k * 2 + 1, none⟩) (Nat.lt_of_lt_of_le hb1 hB)]; exact hc2
        have HX := hide hx
        have HY := hide hy
        clear hc1 hc2 hx hy hb1
        by_cases p1 : 0 ≤ x ∧ x ≤ (l.length : Int) - 1
        · have C1 := hide (fun (W : World) => in_yes x 0 ((l.length : Int) - 1) W p1.1 p1.2)
          by_cases p2 : 0 ≤ y ∧ y ≤ (l.length : Int) - 1
          · have C2 := hide (fun (W : World) => in_yes y 0 ((l.length : Int) - 1) W p2.1 p2.2)
            have HA2 := hide (show (sw.take (k + 1)).all (swOk l.length) = true by rw [hat.out, hall.out]; unfold swOk; rw [← HX.out, ← HY.out]; simp; omega)
            obtain ⟨i, rfl⟩ := Int.eq_ofNat_of_zero_le p1.1
            obtain ⟨j, rfl⟩ := Int.eq_ofNat_of_zero_le p2.1
            have ES1 := hide (show swaps l (sw.take (k + 1)) = swapAt (swaps l (sw.take k)) i j by rw [es1.out, ← HX.out, ← HY.out]; rfl)
            have ES2 := hide (show swaps r (sw.take (k + 1)) = swapAt (swaps r (sw.take k)) i j by rw [es2.out, ← HX.out, ← HY.out]; rfl)
            have H1 := hide (show i < (swaps l (sw.take k)).length by rw [swaps_length]; omega)
            have H2 := hide (show j < (swaps l (sw.take k)).length by rw [swaps_length]; omega)
            have H3 := hide (show i < (swaps r (sw.take k)).length by rw [swaps_length, HR.out]; omega)
            have H4 := hide (show j < (swaps r (sw.take k)).length by rw [swaps_length, HR.out]; omega)
            clear p1 p2 hat es1 es2
            go_wp2_with fail
            go_at_call 48
            refine (C1.out _).mono ?_
            rintro e' wa ⟨rfl, rfl⟩
            go_wp2_with fail
            go_at_call 48
            refine (C2.out _).mono ?_
            rintro e' wa ⟨rfl, rfl⟩
            go_wp2_with fail
            go_at_call 73
            refine (sSwap_ow _ (swaps l (sw.take k)) n1 h1 i j wr O.out.x H1.out H2.out).mono ?_
            rintro e' w6 ⟨⟨u, rfl⟩, Ox, s1⟩
            obtain ⟨l1, l2, l3⟩ := O.out.low
            obtain ⟨g1, g2, g3⟩ := O.out.high
            obtain ⟨r1, r2, r3⟩ := O.out.apart
            have hz := hz1.out
            have hq1 := Q1.out
            have hq2 := Q2.out
            have hm := K.out.lt 2 rfl
            have hlo := O.out.x.le
            have K3 := hide (K.out.seg s1 (by omega) (by intro e he; simp at he; rcases he with rfl | rfl | rfl <;> simp <;> omega))
            have Oy := hide (O.out.y.seg s1 (by omega))
            have Oz := hide (O.out.z.seg s1 (by omega))
            have Ox := hide Ox
            have s1 := hide s1
            have e1 : w6.cell? ⟨m, 1, none⟩ = some (.slice x2 l.length k2) := K3.out.cell 2 1 rfl rfl
            have e0 : w6.cell? ⟨m, 0, none⟩ = some (.slice x1 l.length k1) := K3.out.cell 2 0 rfl rfl
            have L := hide (And.intro l1 (And.intro l2 l3))
            have G := hide (And.intro g1 (And.intro g2 g3))
            have A := hide (And.intro r1 (And.intro r2 r3))
            clear l1 l2 l3 g1 g2 g3 r1 r2 r3 hz hq1 hq2 hm hlo
            go_wp2_with fail
            go_at_call 73
            refine (sSwap_ow _ (swaps r (sw.take k)) n2 h2 i j w6 Oy.out H3.out H4.out).mono ?_
            rintro e' w7 ⟨⟨u', rfl⟩, Oy7, s2⟩
            obtain ⟨l1, l2, l3⟩ := L.out
            obtain ⟨g1, g2, g3⟩ := G.out
            obtain ⟨r1, r2, r3⟩ := A.out
            have hz := hz1.out
            have hq1 := Q1.out
            have hq2 := Q2.out
            have hm := K.out.lt 2 rfl
            have hlo := O.out.y.le
            have K4 := hide (K3.out.seg s2 (by omega) (by intro e he; simp at he; rcases he with rfl | rfl | rfl <;> simp <;> omega))
            have Ox7 := hide (Ox.out.seg s2 (by omega))
            have Oz7 := hide (Oz.out.seg s2 (by omega))
            have hsz := hide (Nat.le_trans O.out.top.2 (Nat.le_trans s1.out.below.size s2.below.size))
            have Oy7 := hide Oy7
            clear l1 l2 l3 g1 g2 g3 r1 r2 r3 hz hq1 hq2 hm hlo K3 s2 e0 e1
            go_wp2_with fail
            go_roundw
            case rel =>
              refine ⟨k + 1, by omega, by go_num, HA2.out, K4.out, ?_⟩
              show OC _ _ _ _ _ _ _ _ _ _ _ _ _ _ _
              rw [ES1.out, ES2.out]
              exact ⟨Ox7.out, Oy7.out, Oz7.out, L.out, G.out, A.out, O.out.top.1, hsz.out⟩
            case measure => simp [intOf]; omega
          · have C2 := hide (fun (W : World) => in_no y 0 ((l.length : Int) - 1) W (by omega))
            go_wp2_with fail
            go_at_call 48
            refine (C1.out _).mono ?_
            rintro e' wa ⟨rfl, rfl⟩
            go_wp2_with fail
            go_at_call 48
            refine (C2.out _).mono ?_
            rintro e' wa ⟨rfl, rfl⟩
            have tf : t = false := by
              rw [HT.out]
              exact List.all_eq_false.2 ⟨sw[k], List.getElem_mem hlt, by unfold swOk; rw [← HX.out, ← HY.out]; simp; omega⟩
            subst tf
            obtain rfl : LL = l := EL.out
            obtain rfl : RR = r := ER.out
            have b0 : wr.cell? ⟨w.heap.size, 0, none⟩ = some (.slice a1 LL.length c1) := K.out.cell 0 0 rfl rfl
            have b1 : wr.cell? ⟨w.heap.size, 1, none⟩ = some (.slice a2 LL.length c2) := K.out.cell 0 1 rfl rfl
            have b2 : wr.cell? ⟨w.heap.size, 2, none⟩ = some (.slice a3 ps.length c3) := K.out.cell 0 2 rfl rfl
            go_wp2_with fail
            go_at_call 63
            refine (C0.out _ K.out.below).mono ?_
            rintro e w5 ⟨y1, y2, y3, lo5, hi5, m1, j1, m2, j2, m3, j3, rfl, p3, p4, O5, hb5⟩
            obtain ⟨v1, d1', rfl⟩ := O5.x.form
            obtain ⟨v2, d2', hv2⟩ := O5.y.form
            rw [HR.out] at hv2
            subst hv2
            obtain ⟨v3, d3', rfl⟩ := O5.z.own.form
            have K5 := hide (K.out.up hb5)
            have O5 := hide O5
            have P3 := hide (Nat.le_trans K.out.below.size p3)
            have P5 := hide (Nat.lt_of_lt_of_le (K.out.lt 1 rfl) p3)
            clear b0 b1 b2 hb5 p3 p4 K O
            have g0 : w5.cell? ⟨w.heap.size + 1, 0, none⟩ = some (.slice none 0 0) := K5.out.cell 1 0 rfl rfl
            have g1 : w5.cell? ⟨w.heap.size + 1, 1, none⟩ = some (.slice none 0 0) := K5.out.cell 1 1 rfl rfl
            have g2 : w5.cell? ⟨w.heap.size + 1, 2, none⟩ = some (.slice none 0 0) := K5.out.cell 1 2 rfl rfl
            have f0 := K5.out.free 1 0 rfl
            have f1 := K5.out.free 1 1 rfl
            have f2 := K5.out.free 1 2 rfl
            go_wp2_with fail
            have Z := ((K5.out.set 1 0 rfl (.slice v1 LL.length d1')).set 1 1 rfl (.slice v2 LL.length d2')).set 1 2 rfl (.slice v3 ps.length d3')
            have z0 := Z.cell 1 0 rfl rfl
            have z1 := Z.cell 1 1 rfl rfl
            have z2 := Z.cell 1 2 rfl rfl
            have O6 := O5.out.seg (seg3 _ (w.heap.size + 1) (.slice v1 LL.length d1') (.slice v2 LL.length d2') (.slice v3 ps.length d3')) (.inr P5.out)
            exact bodyPost_ret (v := .tuple #[.agg #[.slice v1 LL.length d1', .slice v2 LL.length d2', .slice v3 ps.length d3'], .bool false]) (by simp [results, Try.results35, go_sem, z0, z1, z2]) rfl
              ⟨_, _, _, lo5, hi5, m1, j1, m2, j2, m3, j3, rfl, P3.out, O6.top.2, O6, Z.below⟩
        · have C1 := hide (fun (W : World) => in_no x 0 ((l.length : Int) - 1) W (by omega))
          have q := True.intro
          · skip
            go_wp2_with fail
            go_at_call 48
            refine (C1.out _).mono ?_
            rintro e' wa ⟨rfl, rfl⟩
            have tf : t = false := by
              rw [HT.out]
              exact List.all_eq_false.2 ⟨sw[k], List.getElem_mem hlt, by unfold swOk; rw [← HX.out, ← HY.out]; simp; omega⟩
            subst tf
            obtain rfl : LL = l := EL.out
            obtain rfl : RR = r := ER.out
            have b0 : wr.cell? ⟨w.heap.size, 0, none⟩ = some (.slice a1 LL.length c1) := K.out.cell 0 0 rfl rfl
            have b1 : wr.cell? ⟨w.heap.size, 1, none⟩ = some (.slice a2 LL.length c2) := K.out.cell 0 1 rfl rfl
            have b2 : wr.cell? ⟨w.heap.size, 2, none⟩ = some (.slice a3 ps.length c3) := K.out.cell 0 2 rfl rfl
            go_wp2_with fail
            go_at_call 63
            refine (C0.out _ K.out.below).mono ?_
            rintro e w5 ⟨y1, y2, y3, lo5, hi5, m1, j1, m2, j2, m3, j3, rfl, p3, p4, O5, hb5⟩
            obtain ⟨v1, d1', rfl⟩ := O5.x.form
            obtain ⟨v2, d2', hv2⟩ := O5.y.form
            rw [HR.out] at hv2
            subst hv2
            obtain ⟨v3, d3', rfl⟩ := O5.z.own.form
            have K5 := hide (K.out.up hb5)
            have O5 := hide O5
            have P3 := hide (Nat.le_trans K.out.below.size p3)
            have P5 := hide (Nat.lt_of_lt_of_le (K.out.lt 1 rfl) p3)
            clear b0 b1 b2 hb5 p3 p4 K O
            have g0 : w5.cell? ⟨w.heap.size + 1, 0, none⟩ = some (.slice none 0 0) := K5.out.cell 1 0 rfl rfl
            have g1 : w5.cell? ⟨w.heap.size + 1, 1, none⟩ = some (.slice none 0 0) := K5.out.cell 1 1 rfl rfl
            have g2 : w5.cell? ⟨w.heap.size + 1, 2, none⟩ = some (.slice none 0 0) := K5.out.cell 1 2 rfl rfl
            have f0 := K5.out.free 1 0 rfl
            have f1 := K5.out.free 1 1 rfl
            have f2 := K5.out.free 1 2 rfl
            go_wp2_with fail
            have Z := ((K5.out.set 1 0 rfl (.slice v1 LL.length d1')).set 1 1 rfl (.slice v2 LL.length d2')).set 1 2 rfl (.slice v3 ps.length d3')
            have z0 := Z.cell 1 0 rfl rfl
            have z1 := Z.cell 1 1 rfl rfl
            have z2 := Z.cell 1 2 rfl rfl
            have O6 := O5.out.seg (seg3 _ (w.heap.size + 1) (.slice v1 LL.length d1') (.slice v2 LL.length d2') (.slice v3 ps.length d3')) (.inr P5.out)
            exact bodyPost_ret (v := .tuple #[.agg #[.slice v1 LL.length d1', .slice v2 LL.length d2', .slice v3 ps.length d3'], .bool false]) (by simp [results, Try.results35, go_sem, z0, z1, z2]) rfl
              ⟨_, _, _, lo5, hi5, m1, j1, m2, j2, m3, j3, rfl, P3.out, O6.top.2, O6, Z.below⟩
      · have hke : k = sw.length := by omega
        subst hke
        rw [List.take_length] at O hall
        have tt : t = true := by rw [HT.out]; exact hall.out
        subst tt
        have EL : Hid (LL = swaps l sw) := EL.out
        have ER : Hid (RR = swaps r sw) := ER.out
        clear e0 e1
        rw [← EL.out, ← ER.out] at O
        have e0 : wr.cell? ⟨m, 0, none⟩ = some (.slice x1 l.length k1) := K.out.cell 2 0 rfl rfl
        have e1 : wr.cell? ⟨m, 1, none⟩ = some (.slice x2 l.length k2) := K.out.cell 2 1 rfl rfl
        have e2 : wr.cell? ⟨m, 2, none⟩ = some (.slice x3 ps.length k3) := K.out.cell 2 2 rfl rfl
        have g0 : wr.cell? ⟨w.heap.size + 1, 0, none⟩ = some (.slice none 0 0) := K.out.cell 1 0 rfl rfl
        have g1 : wr.cell? ⟨w.heap.size + 1, 1, none⟩ = some (.slice none 0 0) := K.out.cell 1 1 rfl rfl
        have g2 : wr.cell? ⟨w.heap.size + 1, 2, none⟩ = some (.slice none 0 0) := K.out.cell 1 2 rfl rfl
        have f0 := K.out.free 1 0 rfl
        have f1 := K.out.free 1 1 rfl
        have f2 := K.out.free 1 2 rfl
        go_wp2_with fail
        have Z := ((K.out.set 1 0 rfl (.slice x1 l.length k1)).set 1 1 rfl (.slice x2 l.length k2)).set 1 2 rfl (.slice x3 ps.length k3)
        have z0 := Z.cell 1 0 rfl rfl
        have z1 := Z.cell 1 1 rfl rfl
        have z2 := Z.cell 1 2 rfl rfl
        have q1 := Q1.out
        have hz := hz1.out
        have O6 := O.out.seg (seg3 _ (w.heap.size + 1) (.slice x1 l.length k1) (.slice x2 l.length k2) (.slice x3 ps.length k3)) (.inr (by omega))
        exact bodyPost_ret (v := .tuple #[.agg #[.slice x1 l.length k1, .slice x2 l.length k2, .slice x3 ps.length k3], .bool true]) (by simp [results, Try.results35, go_sem, z0, z1, z2]) rfl
          ⟨_, _, _, lo, hi, n1, h1, n2, h2, n3, h3, rfl, by omega, O6.top.2, O6, Z.below⟩

set_option maxHeartbeats 4000000 in
theorem sApply_ne (a1 a2 a3 : Option Addr) (c1 c2 c3 : Nat) (sv : Value) (l r : List Int) (ps sw : List Pv) (w : World) (B : Nat) (V : Hid (Ck w B (.agg #[.slice a1 l.length c1, .slice a2 r.length c2, .slice a3 ps.length c3]) l r ps)) (HR : ¬ (r.length = l.length)) (hs : Pvs w B sv sw) (hB : B ≤ w.heap.size) (hl : l.length ≤ 1048576) (hr : r.length ≤ 1048576) (hp : ps.length ≤ 1048576) :
    Calls Try.prog 35 #[.agg #[.slice a1 l.length c1, .slice a2 r.length c2, .slice a3 ps.length c3], sv] w (RetOCB w l r ps false) := by
  obtain ⟨ad, cap, rfl, -⟩ := hs
  have hq0 : ((r.length : Int) != (l.length : Int)) = true := by simp; omega
  have hq1 : (r.length == l.length) = false := by simp; omega
  have hq2 : decide (r.length = l.length) = false := by simp; omega
  clear HR
  have X := hide (Kn.two w #[.slice a1 l.length c1, .slice a2 r.length c2, .slice a3 ps.length c3] #[.slice none 0 0, .slice none 0 0, .slice none 0 0] 32 32)
  obtain ⟨w1, hw1⟩ : ∃ w1, w1 = (w.alloc (.cells #[.slice a1 l.length c1, .slice a2 r.length c2, .slice a3 ps.length c3] 32)).alloc (.cells #[.slice none 0 0, .slice none 0 0, .slice none 0 0] 32) := ⟨_, rfl⟩
  have hz1 := hide (show w1.heap.size = w.heap.size + 1 + 1 by rw [hw1]; simp)
  rw [← hw1] at X
  have C0 := hide (fun (W : World) (h : Below w.heap.size w W) => sCopy_any _ l r ps W B (V.out.below h hB) (Nat.le_trans hB h.size) hl hr hp)
  go_enter Try.func35, Try.ntmps35
  go_wp2_with fail
  rw [← hw1]
  clear hw1
  have c0 : w1.cell? ⟨w.heap.size, 0, none⟩ = some (.slice a1 l.length c1) := X.out.cell 0 0 rfl rfl
  have c1' : w1.cell? ⟨w.heap.size, 1, none⟩ = some (.slice a2 r.length c2) := X.out.cell 0 1 rfl rfl
  have c2' : w1.cell? ⟨w.heap.size, 2, none⟩ = some (.slice a3 ps.length c3) := X.out.cell 0 2 rfl rfl
  go_wp2_with fail
  go_at_call 63
  refine (C0.out _ X.out.below).mono ?_
  rintro e w2 ⟨x, y, z, lo, hi, n1, h1, n2, h2, n3, h3, rfl, q1, q2, O, hb⟩
  obtain ⟨x1, k1, rfl⟩ := O.x.form
  obtain ⟨x2, k2, rfl⟩ := O.y.form
  obtain ⟨x3, k3, rfl⟩ := O.z.own.form
  have X2 := hide (X.out.up hb)
  have X3 := hide (X2.out.alloc #[.slice x1 l.length k1, .slice x2 r.length k2, .slice x3 ps.length k3] 32)
  have O3 := hide (O.below ((Below.refl w2.heap.size w2).alloc (Nat.le_refl _) (.cells #[.slice x1 l.length k1, .slice x2 r.length k2, .slice x3 ps.length k3] 32)))
  clear c0 c1' c2' O hb X X2
  obtain ⟨m, hm⟩ : ∃ m, m = w2.heap.size := ⟨_, rfl⟩
  obtain ⟨w3, hw3⟩ : ∃ w3, w3 = w2.alloc (.cells #[.slice x1 l.length k1, .slice x2 r.length k2, .slice x3 ps.length k3] 32) := ⟨_, rfl⟩
  rw [← hw3] at X3 O3
  rw [← hm] at X3 q2
  simp only [List.cons_append, List.nil_append] at X3
  have b0 : w3.cell? ⟨w.heap.size, 0, none⟩ = some (.slice a1 l.length c1) := X3.out.cell 0 0 rfl rfl
  have b1 : w3.cell? ⟨w.heap.size, 1, none⟩ = some (.slice a2 r.length c2) := X3.out.cell 0 1 rfl rfl
  have g0 : w3.cell? ⟨w.heap.size + 1, 0, none⟩ = some (.slice none 0 0) := X3.out.cell 1 0 rfl rfl
  have g1 : w3.cell? ⟨w.heap.size + 1, 1, none⟩ = some (.slice none 0 0) := X3.out.cell 1 1 rfl rfl
  have g2 : w3.cell? ⟨w.heap.size + 1, 2, none⟩ = some (.slice none 0 0) := X3.out.cell 1 2 rfl rfl
  have f0 := X3.out.free 1 0 rfl
  have f1 := X3.out.free 1 1 rfl
  have f2 := X3.out.free 1 2 rfl
  have Q1 := hide q1
  have Q2 := hide q2
  rw [hw3] at b0 b1 g0 g1 g2 f0 f1 f2
  go_wp2_with fail
  have Z := ((X3.out.set 1 0 rfl (.slice x1 l.length k1)).set 1 1 rfl (.slice x2 r.length k2)).set 1 2 rfl (.slice x3 ps.length k3)
  have q1 := Q1.out
  have hz := hz1.out
  have O6 := O3.out.seg (seg3 _ (w.heap.size + 1) (.slice x1 l.length k1) (.slice x2 r.length k2) (.slice x3 ps.length k3)) (.inr (by omega))
  rw [hw3] at Z O6
  have z0 := Z.cell 1 0 rfl rfl
  have z1 := Z.cell 1 1 rfl rfl
  have z2 := Z.cell 1 2 rfl rfl
  exact bodyPost_ret (v := .tuple #[.agg #[.slice x1 l.length k1, .slice x2 r.length k2, .slice x3 ps.length k3], .bool false]) (by simp [results, Try.results35, go_sem, z0, z1, z2]) rfl
    ⟨_, _, _, lo, hi, n1, h1, n2, h2, n3, h3, rfl, by omega, O6.top.2, O6, Z.below⟩

theorem sApply_any (v sv : Value) (l r : List Int) (ps sw : List Pv) (w : World) (B : Nat) (hv : Ck w B v l r ps) (hs : Pvs w B sv sw) (hB : B ≤ w.heap.size) (hl : l.length ≤ 1048576) (hr : r.length ≤ 1048576) (hp : ps.length ≤ 1048576) :
    Calls Try.prog 35 #[v, sv] w (RetOCB w (apL l r sw) (apR l r sw) ps (canSwap l r sw)) := by
  obtain ⟨a1, c1, a2, c2, a3, c3, rfl, -⟩ := hv.form
  by_cases h : r.length = l.length
  · rw [h] at hv ⊢
    have e : canSwap l r sw = sw.all (swOk l.length) := by unfold canSwap; rw [decide_eq_true h]; rfl
    exact sApply_eq a1 a2 a3 c1 c2 c3 sv l r ps sw w B hv h hs hB hl hp _ e _ _ rfl rfl
  · have e : canSwap l r sw = false := by unfold canSwap; rw [decide_eq_false h]; rfl
    have e1 : apL l r sw = l := by unfold apL; rw [e]; rfl
    have e2 : apR l r sw = r := by unfold apR; rw [e]; rfl
    rw [e, e1, e2]
    exact sApply_ne a1 a2 a3 c1 c2 c3 sv l r ps sw w B hv h hs hB hl hr hp

end Go.Proofs.Ytobdghabehbcjaa
