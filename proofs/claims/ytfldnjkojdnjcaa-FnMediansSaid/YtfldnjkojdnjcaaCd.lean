/- Several texts in one: ApS, CrS. -/
import Derived.Test.YtfldnjkojdnjcaaCpI
import Derived.Test.YtfldnjkojdnjcaaApD
import Derived.Test.YtfldnjkojdnjcaaIn
import Derived.Test.YtfldnjkojdnjcaaCb
import Derived.Test.YtfldnjkojdnjcaaAdT
/- What ApplySwaps of the reference returns (promise 3). Written by gen_aps.py. -/
namespace Go.Proofs.Ytfldnjkojdnjcaa
open Go.RowKit Go.ChangeShapes
set_option linter.unusedSimpArgs false
set_option linter.unusedVariables false
set_option maxRecDepth 100000

set_option maxHeartbeats 4000000 in
theorem sApply_eq (a1 a2 a3 : Option Addr) (c1 c2 c3 : Nat) (sv : Value) (l r : List Int) (ps sw : List Pv) (w : World) (B : Nat) (V : Hid (Ck w B (.agg #[.slice a1 l.length c1, .slice a2 l.length c2, .slice a3 ps.length c3]) l r ps)) (HR : Hid (r.length = l.length)) (hs : Pvs w B sv sw) (hB : B ≤ w.heap.size) (hl : l.length ≤ 1048576) (hp : ps.length ≤ 1048576) (t : Bool) (HT : Hid (t = sw.all (swOk l.length))) (LL RR : List Int) (HLL : Hid (LL = if t = true then swaps l sw else l)) (HRR : Hid (RR = if t = true then swaps r sw else r)) :
    Calls Try.prog 112 #[.agg #[.slice a1 l.length c1, .slice a2 l.length c2, .slice a3 ps.length c3], sv] w (RetOCB w LL RR ps t) := by
  have HC := hide hs
  obtain ⟨ad, cap, rfl, hlen, hwf, hcell⟩ := hs
  have HCC := hide hcell
  clear hcell hwf
  have X := hide (Kn.two w #[.slice a1 l.length c1, .slice a2 l.length c2, .slice a3 ps.length c3] #[.slice none 0 0, .slice none 0 0, .slice none 0 0] 30 30)
  obtain ⟨w1, hw1⟩ : ∃ w1, w1 = (w.alloc (.cells #[.slice a1 l.length c1, .slice a2 l.length c2, .slice a3 ps.length c3] 30)).alloc (.cells #[.slice none 0 0, .slice none 0 0, .slice none 0 0] 30) := ⟨_, rfl⟩
  have hz1 := hide (show w1.heap.size = w.heap.size + 1 + 1 by rw [hw1]; simp)
  rw [← hw1] at X
  have hq0 : ((l.length : Int) != (l.length : Int)) = false := by simp
  have C0 := hide (fun (W : World) (h : Below w.heap.size w W) => sCopy_any _ l r ps W B (V.out.below h hB) (Nat.le_trans hB h.size) hl (by rw [HR.out]; exact hl) hp)
  go_enter Try.func112, Try.ntmps112
  go_wp2_with fail
  rw [← hw1]
  clear hw1
  have c0 : w1.cell? ⟨w.heap.size, 0, none⟩ = some (.slice a1 l.length c1) := X.out.cell 0 0 rfl rfl
  have c1' : w1.cell? ⟨w.heap.size, 1, none⟩ = some (.slice a2 l.length c2) := X.out.cell 0 1 rfl rfl
  have c2' : w1.cell? ⟨w.heap.size, 2, none⟩ = some (.slice a3 ps.length c3) := X.out.cell 0 2 rfl rfl
  go_wp2_with fail
  go_at_call 57
  refine (C0.out _ X.out.below).mono ?_
  rintro e w2 ⟨x, y, z, lo, hi, n1, h1, n2, h2, n3, h3, rfl, q1, q2, O, hb⟩
  obtain ⟨x1, k1, rfl⟩ := O.x.form
  obtain ⟨x2, k2, hx2⟩ := O.y.form
  rw [HR.out] at hx2
  subst hx2
  obtain ⟨x3, k3, rfl⟩ := O.z.own.form
  have X2 := hide (X.out.up hb)
  have X3 := hide (X2.out.alloc #[.slice x1 l.length k1, .slice x2 l.length k2, .slice x3 ps.length k3] 30)
  have O3 := hide (O.below ((Below.refl w2.heap.size w2).alloc (Nat.le_refl _) (.cells #[.slice x1 l.length k1, .slice x2 l.length k2, .slice x3 ps.length k3] 30)))
  clear c0 c1' c2' O hb X X2
  obtain ⟨m, hm⟩ : ∃ m, m = w2.heap.size := ⟨_, rfl⟩
  obtain ⟨w3, hw3⟩ : ∃ w3, w3 = w2.alloc (.cells #[.slice x1 l.length k1, .slice x2 l.length k2, .slice x3 ps.length k3] 30) := ⟨_, rfl⟩
  rw [← hw3] at X3 O3
  rw [← hm] at X3 q2
  simp only [List.cons_append, List.nil_append] at X3
  have Q1 := hide q1
  have Q2 := hide q2
  have EL := hide HLL.out
  have ER := hide HRR.out
  clear HLL HRR
  go_wp2_with fail
  rw [← hw3]
  try rw [← hm]
  clear hw3 hm q1 q2
  go_loopw [7] (fun u wr => ∃ (k : Nat), k ≤ sw.length ∧ u = .int .i64 k ∧ Hid ((sw.take k).all (swOk l.length) = true) ∧ Hid (Kn w wr [(w.heap.size, #[.slice a1 l.length c1, .slice a2 l.length c2, .slice a3 ps.length c3], 30), (w.heap.size + 1, #[.slice none 0 0, .slice none 0 0, .slice none 0 0], 30), (m, #[.slice x1 l.length k1, .slice x2 l.length k2, .slice x3 ps.length k3], 30)]) ∧ Hid (OC wr (.slice x1 l.length k1) (.slice x2 l.length k2) (.slice x3 ps.length k3) (swaps l (sw.take k)) (swaps r (sw.take k)) ps lo hi n1 h1 n2 h2 n3 h3)) (fun u _ => sw.length - (intOf u).toNat)
  case atStart => exact ⟨0, by omega, rfl, by simp [Hid], X3.out, by simpa [Hid, swaps] using O3.out⟩
  case round =>
      clear X3 O3
      obtain ⟨k, hk, rfl, hall, K, O⟩ := hrel
      have e0 : wr.cell? ⟨m, 0, none⟩ = some (.slice x1 l.length k1) := K.out.cell 2 0 rfl rfl
      have e1 : wr.cell? ⟨m, 1, none⟩ = some (.slice x2 l.length k2) := K.out.cell 2 1 rfl rfl
      by_cases hlt : k < sw.length
      · have es1 := hide (swaps_take l sw k hlt)
        have es2 := hide (swaps_take r sw k hlt)
        have hat := hide (all_take (swOk l.length) sw k hlt)
        obtain ⟨b1, o1, rfl, hb1, hc1, hc2⟩ := HCC.out k hlt
        obtain ⟨x, hx⟩ : ∃ x, x = sw[k].1 := ⟨_, rfl⟩
        obtain ⟨y, hy⟩ : ∃ y, y = sw[k].2 := ⟨_, rfl⟩
        rw [← hx] at hc1
        rw [← hy] at hc2
        have d1 : wr.cell? ⟨b1, o1 + k * 2, none⟩ = some (.int .i64 x) := by rw [K.out.below.cell (p := ⟨b1, o1 + k * 2, none⟩) (Nat.lt_of_lt_of_le hb1 hB)]; exact hc1
        have d2 : wr.cell? ⟨b1, o1 + k * 2 + 1, none⟩ = some (.int .i64 y) := by rw [K.out.below.cell (p := ⟨b1, o1 + k * 2 + 1, none⟩) (Nat.lt_of_lt_of_le hb1 hB)]; exact hc2
        have HX := hide hx
        have HY := hide hy
        clear hc1 hc2 hx hy hb1
        by_cases p1 : 0 ≤ x ∧ x ≤ (l.length : Int) - 1
        · have C1 := hide (fun (W : World) => in_yes x 0 ((l.length : Int) - 1) W p1.1 p1.2)
          by_cases p2 : 0 ≤ y ∧ y ≤ (l.length : Int) - 1
          · have C2 := hide (fun (W : World) => in_yes y 0 ((l.length : Int) - 1) W p2.1 p2.2)
            have HA2 := hide (show (sw.take (k + 1)).all (swOk l.length) = true by rw [hat.out, hall.out]; unfold swOk; rw [← HX.out, ← HY.out]; simp; omega)
            obtain ⟨i, rfl⟩ := Int.eq_ofNat_of_zero_le p1.1
            obtain ⟨j, rfl⟩ := Int.eq_ofNat_of_zero_le p2.1
            have ES1 := hide (show swaps l (sw.take (k + 1)) = swapAt (swaps l (sw.take k)) i j by rw [es1.out, ← HX.out, ← HY.out]; rfl)
            have ES2 := hide (show swaps r (sw.take (k + 1)) = swapAt (swaps r (sw.take k)) i j by rw [es2.out, ← HX.out, ← HY.out]; rfl)
            have H1 := hide (show i < (swaps l (sw.take k)).length by rw [swaps_length]; omega)
            have H2 := hide (show j < (swaps l (sw.take k)).length by rw [swaps_length]; omega)
            have H3 := hide (show i < (swaps r (sw.take k)).length by rw [swaps_length, HR.out]; omega)
            have H4 := hide (show j < (swaps r (sw.take k)).length by rw [swaps_length, HR.out]; omega)
            clear p1 p2 hat es1 es2
            go_wp2_with fail
            go_at_call 56
            refine (C1.out _).mono ?_
            rintro e' wa ⟨rfl, rfl⟩
            go_wp2_with fail
            go_at_call 56
            refine (C2.out _).mono ?_
            rintro e' wa ⟨rfl, rfl⟩
            go_wp2_with fail
            go_at_call 53
            refine (sSwap_ow _ (swaps l (sw.take k)) n1 h1 i j wr O.out.x H1.out H2.out).mono ?_
            rintro e' w6 ⟨⟨u, rfl⟩, Ox, s1⟩
            obtain ⟨l1, l2, l3⟩ := O.out.low
            obtain ⟨g1, g2, g3⟩ := O.out.high
            obtain ⟨r1, r2, r3⟩ := O.out.apart
            have hz := hz1.out
            have hq1 := Q1.out
            have hq2 := Q2.out
            have hm := K.out.lt 2 rfl
            have hlo := O.out.x.le
            have K3 := hide (K.out.seg s1 (by omega) (by intro e he; simp at he; rcases he with rfl | rfl | rfl <;> simp <;> omega))
            have Oy := hide (O.out.y.seg s1 (by omega))
            have Oz := hide (O.out.z.seg s1 (by omega))
            have Ox := hide Ox
            have s1 := hide s1
            have e1 : w6.cell? ⟨m, 1, none⟩ = some (.slice x2 l.length k2) := K3.out.cell 2 1 rfl rfl
            have e0 : w6.cell? ⟨m, 0, none⟩ = some (.slice x1 l.length k1) := K3.out.cell 2 0 rfl rfl
            have L := hide (And.intro l1 (And.intro l2 l3))
            have G := hide (And.intro g1 (And.intro g2 g3))
            have A := hide (And.intro r1 (And.intro r2 r3))
            clear l1 l2 l3 g1 g2 g3 r1 r2 r3 hz hq1 hq2 hm hlo
            go_wp2_with fail
            go_at_call 53
            refine (sSwap_ow _ (swaps r (sw.take k)) n2 h2 i j w6 Oy.out H3.out H4.out).mono ?_
            rintro e' w7 ⟨⟨u', rfl⟩, Oy7, s2⟩
            obtain ⟨l1, l2, l3⟩ := L.out
            obtain ⟨g1, g2, g3⟩ := G.out
            obtain ⟨r1, r2, r3⟩ := A.out
            have hz := hz1.out
            have hq1 := Q1.out
            have hq2 := Q2.out
            have hm := K.out.lt 2 rfl
            have hlo := O.out.y.le
            have K4 := hide (K3.out.seg s2 (by omega) (by intro e he; simp at he; rcases he with rfl | rfl | rfl <;> simp <;> omega))
            have Ox7 := hide (Ox.out.seg s2 (by omega))
            have Oz7 := hide (Oz.out.seg s2 (by omega))
            have hsz := hide (Nat.le_trans O.out.top.2 (Nat.le_trans s1.out.below.size s2.below.size))
            have Oy7 := hide Oy7
            clear l1 l2 l3 g1 g2 g3 r1 r2 r3 hz hq1 hq2 hm hlo K3 s2 e0 e1
            go_wp2_with fail
            go_roundw
            case rel =>
              refine ⟨k + 1, by omega, by go_num, HA2.out, K4.out, ?_⟩
              show OC _ _ _ _ _ _ _ _ _ _ _ _ _ _ _
              rw [ES1.out, ES2.out]
              exact ⟨Ox7.out, Oy7.out, Oz7.out, L.out, G.out, A.out, O.out.top.1, hsz.out⟩
            case measure => simp [intOf]; omega
          · have C2 := hide (fun (W : World) => in_no y 0 ((l.length : Int) - 1) W (by omega))
            go_wp2_with fail
            go_at_call 56
            refine (C1.out _).mono ?_
            rintro e' wa ⟨rfl, rfl⟩
            go_wp2_with fail
            go_at_call 56
            refine (C2.out _).mono ?_
            rintro e' wa ⟨rfl, rfl⟩
            have tf : t = false := by
              rw [HT.out]
              exact List.all_eq_false.2 ⟨sw[k], List.getElem_mem hlt, by unfold swOk; rw [← HX.out, ← HY.out]; simp; omega⟩
            subst tf
            obtain rfl : LL = l := EL.out
            obtain rfl : RR = r := ER.out
            have b0 : wr.cell? ⟨w.heap.size, 0, none⟩ = some (.slice a1 LL.length c1) := K.out.cell 0 0 rfl rfl
            have b1 : wr.cell? ⟨w.heap.size, 1, none⟩ = some (.slice a2 LL.length c2) := K.out.cell 0 1 rfl rfl
            have b2 : wr.cell? ⟨w.heap.size, 2, none⟩ = some (.slice a3 ps.length c3) := K.out.cell 0 2 rfl rfl
            go_wp2_with fail
            go_at_call 57
            refine (C0.out _ K.out.below).mono ?_
            rintro e w5 ⟨y1, y2, y3, lo5, hi5, m1, j1, m2, j2, m3, j3, rfl, p3, p4, O5, hb5⟩
            obtain ⟨v1, d1', rfl⟩ := O5.x.form
            obtain ⟨v2, d2', hv2⟩ := O5.y.form
            rw [HR.out] at hv2
            subst hv2
            obtain ⟨v3, d3', rfl⟩ := O5.z.own.form
            have K5 := hide (K.out.up hb5)
            have O5 := hide O5
            have P3 := hide (Nat.le_trans K.out.below.size p3)
            have P5 := hide (Nat.lt_of_lt_of_le (K.out.lt 1 rfl) p3)
            clear b0 b1 b2 hb5 p3 p4 K O
            have g0 : w5.cell? ⟨w.heap.size + 1, 0, none⟩ = some (.slice none 0 0) := K5.out.cell 1 0 rfl rfl
            have g1 : w5.cell? ⟨w.heap.size + 1, 1, none⟩ = some (.slice none 0 0) := K5.out.cell 1 1 rfl rfl
            have g2 : w5.cell? ⟨w.heap.size + 1, 2, none⟩ = some (.slice none 0 0) := K5.out.cell 1 2 rfl rfl
            have f0 := K5.out.free 1 0 rfl
            have f1 := K5.out.free 1 1 rfl
            have f2 := K5.out.free 1 2 rfl
            go_wp2_with fail
            have Z := ((K5.out.set 1 0 rfl (.slice v1 LL.length d1')).set 1 1 rfl (.slice v2 LL.length d2')).set 1 2 rfl (.slice v3 ps.length d3')
            have z0 := Z.cell 1 0 rfl rfl
            have z1 := Z.cell 1 1 rfl rfl
            have z2 := Z.cell 1 2 rfl rfl
            have O6 := O5.out.seg (seg3 _ (w.heap.size + 1) (.slice v1 LL.length d1') (.slice v2 LL.length d2') (.slice v3 ps.length d3')) (.inr P5.out)
            exact bodyPost_ret (v := .tuple #[.agg #[.slice v1 LL.length d1', .slice v2 LL.length d2', .slice v3 ps.length d3'], .bool false]) (by simp [results, Try.results112, go_sem, z0, z1, z2]) rfl
              ⟨_, _, _, lo5, hi5, m1, j1, m2, j2, m3, j3, rfl, P3.out, O6.top.2, O6, Z.below⟩
        · have C1 := hide (fun (W : World) => in_no x 0 ((l.length : Int) - 1) W (by omega))
          have q := True.intro
          · skip
            go_wp2_with fail
            go_at_call 56
            refine (C1.out _).mono ?_
            rintro e' wa ⟨rfl, rfl⟩
            have tf : t = false := by
              rw [HT.out]
              exact List.all_eq_false.2 ⟨sw[k], List.getElem_mem hlt, by unfold swOk; rw [← HX.out, ← HY.out]; simp; omega⟩
            subst tf
            obtain rfl : LL = l := EL.out
            obtain rfl : RR = r := ER.out
            have b0 : wr.cell? ⟨w.heap.size, 0, none⟩ = some (.slice a1 LL.length c1) := K.out.cell 0 0 rfl rfl
            have b1 : wr.cell? ⟨w.heap.size, 1, none⟩ = some (.slice a2 LL.length c2) := K.out.cell 0 1 rfl rfl
            have b2 : wr.cell? ⟨w.heap.size, 2, none⟩ = some (.slice a3 ps.length c3) := K.out.cell 0 2 rfl rfl
            go_wp2_with fail
            go_at_call 57
            refine (C0.out _ K.out.below).mono ?_
            rintro e w5 ⟨y1, y2, y3, lo5, hi5, m1, j1, m2, j2, m3, j3, rfl, p3, p4, O5, hb5⟩
            obtain ⟨v1, d1', rfl⟩ := O5.x.form
            obtain ⟨v2, d2', hv2⟩ := O5.y.form
            rw [HR.out] at hv2
            subst hv2
            obtain ⟨v3, d3', rfl⟩ := O5.z.own.form
            have K5 := hide (K.out.up hb5)
            have O5 := hide O5
            have P3 := hide (Nat.le_trans K.out.below.size p3)
            have P5 := hide (Nat.lt_of_lt_of_le (K.out.lt 1 rfl) p3)
            clear b0 b1 b2 hb5 p3 p4 K O
            have g0 : w5.cell? ⟨w.heap.size + 1, 0, none⟩ = some (.slice none 0 0) := K5.out.cell 1 0 rfl rfl
            have g1 : w5.cell? ⟨w.heap.size + 1, 1, none⟩ = some (.slice none 0 0) := K5.out.cell 1 1 rfl rfl
            have g2 : w5.cell? ⟨w.heap.size + 1, 2, none⟩ = some (.slice none 0 0) := K5.out.cell 1 2 rfl rfl
            have f0 := K5.out.free 1 0 rfl
            have f1 := K5.out.free 1 1 rfl
            have f2 := K5.out.free 1 2 rfl
            go_wp2_with fail
            have Z := ((K5.out.set 1 0 rfl (.slice v1 LL.length d1')).set 1 1 rfl (.slice v2 LL.length d2')).set 1 2 rfl (.slice v3 ps.length d3')
            have z0 := Z.cell 1 0 rfl rfl
            have z1 := Z.cell 1 1 rfl rfl
            have z2 := Z.cell 1 2 rfl rfl
            have O6 := O5.out.seg (seg3 _ (w.heap.size + 1) (.slice v1 LL.length d1') (.slice v2 LL.length d2') (.slice v3 ps.length d3')) (.inr P5.out)
            exact bodyPost_ret (v := .tuple #[.agg #[.slice v1 LL.length d1', .slice v2 LL.length d2', .slice v3 ps.length d3'], .bool false]) (by simp [results, Try.results112, go_sem, z0, z1, z2]) rfl
              ⟨_, _, _, lo5, hi5, m1, j1, m2, j2, m3, j3, rfl, P3.out, O6.top.2, O6, Z.below⟩
      · have hke : k = sw.length := by omega
        subst hke
        rw [List.take_length] at O hall
        have tt : t = true := by rw [HT.out]; exact hall.out
        subst tt
        have EL : Hid (LL = swaps l sw) := EL.out
        have ER : Hid (RR = swaps r sw) := ER.out
        clear e0 e1
        rw [← EL.out, ← ER.out] at O
        have e0 : wr.cell? ⟨m, 0, none⟩ = some (.slice x1 l.length k1) := K.out.cell 2 0 rfl rfl
        have e1 : wr.cell? ⟨m, 1, none⟩ = some (.slice x2 l.length k2) := K.out.cell 2 1 rfl rfl
        have e2 : wr.cell? ⟨m, 2, none⟩ = some (.slice x3 ps.length k3) := K.out.cell 2 2 rfl rfl
        have g0 : wr.cell? ⟨w.heap.size + 1, 0, none⟩ = some (.slice none 0 0) := K.out.cell 1 0 rfl rfl
        have g1 : wr.cell? ⟨w.heap.size + 1, 1, none⟩ = some (.slice none 0 0) := K.out.cell 1 1 rfl rfl
        have g2 : wr.cell? ⟨w.heap.size + 1, 2, none⟩ = some (.slice none 0 0) := K.out.cell 1 2 rfl rfl
        have f0 := K.out.free 1 0 rfl
        have f1 := K.out.free 1 1 rfl
        have f2 := K.out.free 1 2 rfl
        go_wp2_with fail
        have Z := ((K.out.set 1 0 rfl (.slice x1 l.length k1)).set 1 1 rfl (.slice x2 l.length k2)).set 1 2 rfl (.slice x3 ps.length k3)
        have z0 := Z.cell 1 0 rfl rfl
        have z1 := Z.cell 1 1 rfl rfl
        have z2 := Z.cell 1 2 rfl rfl
        have q1 := Q1.out
        have hz := hz1.out
        have O6 := O.out.seg (seg3 _ (w.heap.size + 1) (.slice x1 l.length k1) (.slice x2 l.length k2) (.slice x3 ps.length k3)) (.inr (by omega))
        exact bodyPost_ret (v := .tuple #[.agg #[.slice x1 l.length k1, .slice x2 l.length k2, .slice x3 ps.length k3], .bool true]) (by simp [results, Try.results112, go_sem, z0, z1, z2]) rfl
          ⟨_, _, _, lo, hi, n1, h1, n2, h2, n3, h3, rfl, by omega, O6.top.2, O6, Z.below⟩

set_option maxHeartbeats 4000000 in
theorem sApply_ne (a1 a2 a3 : Option Addr) (c1 c2 c3 : Nat) (sv : Value) (l r : List Int) (ps sw : List Pv) (w : World) (B : Nat) (V : Hid (Ck w B (.agg #[.slice a1 l.length c1, .slice a2 r.length c2, .slice a3 ps.length c3]) l r ps)) (HR : ¬ (r.length = l.length)) (hs : Pvs w B sv sw) (hB : B ≤ w.heap.size) (hl : l.length ≤ 1048576) (hr : r.length ≤ 1048576) (hp : ps.length ≤ 1048576) :
    Calls Try.prog 112 #[.agg #[.slice a1 l.length c1, .slice a2 r.length c2, .slice a3 ps.length c3], sv] w (RetOCB w l r ps false) := by
  obtain ⟨ad, cap, rfl, -⟩ := hs
  have hq0 : ((r.length : Int) != (l.length : Int)) = true := by simp; omega
  have hq1 : (r.length == l.length) = false := by simp; omega
  have hq2 : decide (r.length = l.length) = false := by simp; omega
  clear HR
  have X := hide (Kn.two w #[.slice a1 l.length c1, .slice a2 r.length c2, .slice a3 ps.length c3] #[.slice none 0 0, .slice none 0 0, .slice none 0 0] 30 30)
  obtain ⟨w1, hw1⟩ : ∃ w1, w1 = (w.alloc (.cells #[.slice a1 l.length c1, .slice a2 r.length c2, .slice a3 ps.length c3] 30)).alloc (.cells #[.slice none 0 0, .slice none 0 0, .slice none 0 0] 30) := ⟨_, rfl⟩
  have hz1 := hide (show w1.heap.size = w.heap.size + 1 + 1 by rw [hw1]; simp)
  rw [← hw1] at X
  have C0 := hide (fun (W : World) (h : Below w.heap.size w W) => sCopy_any _ l r ps W B (V.out.below h hB) (Nat.le_trans hB h.size) hl hr hp)
  go_enter Try.func112, Try.ntmps112
  go_wp2_with fail
  rw [← hw1]
  clear hw1
  have c0 : w1.cell? ⟨w.heap.size, 0, none⟩ = some (.slice a1 l.length c1) := X.out.cell 0 0 rfl rfl
  have c1' : w1.cell? ⟨w.heap.size, 1, none⟩ = some (.slice a2 r.length c2) := X.out.cell 0 1 rfl rfl
  have c2' : w1.cell? ⟨w.heap.size, 2, none⟩ = some (.slice a3 ps.length c3) := X.out.cell 0 2 rfl rfl
  go_wp2_with fail
  go_at_call 57
  refine (C0.out _ X.out.below).mono ?_
  rintro e w2 ⟨x, y, z, lo, hi, n1, h1, n2, h2, n3, h3, rfl, q1, q2, O, hb⟩
  obtain ⟨x1, k1, rfl⟩ := O.x.form
  obtain ⟨x2, k2, rfl⟩ := O.y.form
  obtain ⟨x3, k3, rfl⟩ := O.z.own.form
  have X2 := hide (X.out.up hb)
  have X3 := hide (X2.out.alloc #[.slice x1 l.length k1, .slice x2 r.length k2, .slice x3 ps.length k3] 30)
  have O3 := hide (O.below ((Below.refl w2.heap.size w2).alloc (Nat.le_refl _) (.cells #[.slice x1 l.length k1, .slice x2 r.length k2, .slice x3 ps.length k3] 30)))
  clear c0 c1' c2' O hb X X2
  obtain ⟨m, hm⟩ : ∃ m, m = w2.heap.size := ⟨_, rfl⟩
  obtain ⟨w3, hw3⟩ : ∃ w3, w3 = w2.alloc (.cells #[.slice x1 l.length k1, .slice x2 r.length k2, .slice x3 ps.length k3] 30) := ⟨_, rfl⟩
  rw [← hw3] at X3 O3
  rw [← hm] at X3 q2
  simp only [List.cons_append, List.nil_append] at X3
  have b0 : w3.cell? ⟨w.heap.size, 0, none⟩ = some (.slice a1 l.length c1) := X3.out.cell 0 0 rfl rfl
  have b1 : w3.cell? ⟨w.heap.size, 1, none⟩ = some (.slice a2 r.length c2) := X3.out.cell 0 1 rfl rfl
  have g0 : w3.cell? ⟨w.heap.size + 1, 0, none⟩ = some (.slice none 0 0) := X3.out.cell 1 0 rfl rfl
  have g1 : w3.cell? ⟨w.heap.size + 1, 1, none⟩ = some (.slice none 0 0) := X3.out.cell 1 1 rfl rfl
  have g2 : w3.cell? ⟨w.heap.size + 1, 2, none⟩ = some (.slice none 0 0) := X3.out.cell 1 2 rfl rfl
  have f0 := X3.out.free 1 0 rfl
  have f1 := X3.out.free 1 1 rfl
  have f2 := X3.out.free 1 2 rfl
  have Q1 := hide q1
  have Q2 := hide q2
  rw [hw3] at b0 b1 g0 g1 g2 f0 f1 f2
  go_wp2_with fail
  have Z := ((X3.out.set 1 0 rfl (.slice x1 l.length k1)).set 1 1 rfl (.slice x2 r.length k2)).set 1 2 rfl (.slice x3 ps.length k3)
  have q1 := Q1.out
  have hz := hz1.out
  have O6 := O3.out.seg (seg3 _ (w.heap.size + 1) (.slice x1 l.length k1) (.slice x2 r.length k2) (.slice x3 ps.length k3)) (.inr (by omega))
  rw [hw3] at Z O6
  have z0 := Z.cell 1 0 rfl rfl
  have z1 := Z.cell 1 1 rfl rfl
  have z2 := Z.cell 1 2 rfl rfl
  exact bodyPost_ret (v := .tuple #[.agg #[.slice x1 l.length k1, .slice x2 r.length k2, .slice x3 ps.length k3], .bool false]) (by simp [results, Try.results112, go_sem, z0, z1, z2]) rfl
    ⟨_, _, _, lo, hi, n1, h1, n2, h2, n3, h3, rfl, by omega, O6.top.2, O6, Z.below⟩

theorem sApply_any (v sv : Value) (l r : List Int) (ps sw : List Pv) (w : World) (B : Nat) (hv : Ck w B v l r ps) (hs : Pvs w B sv sw) (hB : B ≤ w.heap.size) (hl : l.length ≤ 1048576) (hr : r.length ≤ 1048576) (hp : ps.length ≤ 1048576) :
    Calls Try.prog 112 #[v, sv] w (RetOCB w (apL l r sw) (apR l r sw) ps (canSwap l r sw)) := by
  obtain ⟨a1, c1, a2, c2, a3, c3, rfl, -⟩ := hv.form
  by_cases h : r.length = l.length
  · rw [h] at hv ⊢
    have e : canSwap l r sw = sw.all (swOk l.length) := by unfold canSwap; rw [decide_eq_true h]; rfl
    exact sApply_eq a1 a2 a3 c1 c2 c3 sv l r ps sw w B hv h hs hB hl hp _ e _ _ rfl rfl
  · have e : canSwap l r sw = false := by unfold canSwap; rw [decide_eq_false h]; rfl
    have e1 : apL l r sw = l := by unfold apL; rw [e]; rfl
    have e2 : apR l r sw = r := by unfold apR; rw [e]; rfl
    rw [e, e1, e2]
    exact sApply_ne a1 a2 a3 c1 c2 c3 sv l r ps sw w B hv h hs hB hl hr hp

end Go.Proofs.Ytfldnjkojdnjcaa

/- What CrackAt of the reference returns (promise 3). Written by gen_crs.py. -/
namespace Go.Proofs.Ytfldnjkojdnjcaa
open Go.RowKit Go.ChangeShapes
set_option linter.unusedSimpArgs false
set_option linter.unusedVariables false
set_option maxRecDepth 100000

set_option maxHeartbeats 8000000 in
theorem sCrack_any (u : Value) (l r : List Int) (ps : List Pv) (v : Int) (w : World) (B : Nat) (hv : Ck w B u l r ps) (hB : B ≤ w.heap.size) (hl : l.length ≤ 1048576) (hr : r.length ≤ 1048576) (hp : ps.length ≤ 1048576) (hvw : I64 v) :
    Calls Try.prog 91 #[u, .int .i64 v] w (RetOCSB w (crL l r ps v) (crR l r ps v) (crP l r ps v) (crS l r ps v) (crOk l r ps v)) := by
  obtain ⟨a1, c1, a2, c2, a3, c3, rfl, i1, i2, i3⟩ := hv.form
  obtain ⟨wl, wr, wpl, wp⟩ := hv.wf
  have V := hide hv
  have I1 := hide i1
  clear hv i1 i2 i3
  obtain ⟨t0, ht0⟩ : ∃ t, t = isCk l r ps := ⟨_, rfl⟩
  obtain ⟨bd, hbd⟩ : ∃ t, t = decide (-1000 ≤ v ∧ v ≤ 1000) := ⟨_, rfl⟩
  obtain ⟨fd, hfd⟩ : ∃ p, p = fndP ps v := ⟨_, rfl⟩
  obtain ⟨pc, hpc⟩ : ∃ p, p = pieceP l r ps v := ⟨_, rfl⟩
  obtain ⟨pt, hpt⟩ : ∃ p, p = crPt l r ps v := ⟨_, rfl⟩
  obtain ⟨L1, hL1⟩ : ∃ p, p = apL l r pt.1 := ⟨_, rfl⟩
  obtain ⟨R1, hR1⟩ : ∃ p, p = apR l r pt.1 := ⟨_, rfl⟩
  obtain ⟨P1, hP1⟩ : ∃ p, p = adP L1 R1 ps (v, pt.2) := ⟨_, rfl⟩
  obtain ⟨nl, hnl⟩ : ∃ p, p = crL l r ps v := ⟨_, rfl⟩
  obtain ⟨nr, hnr⟩ : ∃ p, p = crR l r ps v := ⟨_, rfl⟩
  obtain ⟨np, hnp⟩ : ∃ p, p = crP l r ps v := ⟨_, rfl⟩
  obtain ⟨ns, hns⟩ : ∃ p, p = crS l r ps v := ⟨_, rfl⟩
  obtain ⟨ok, hok⟩ : ∃ p, p = crOk l r ps v := ⟨_, rfl⟩
  have HOK := hide (show ok = (t0 && bd) by rw [hok, ht0, hbd]; rfl)
  have HDV := hide (show crDiv l r ps v = ((t0 && bd) && !fd.2) by rw [ht0, hbd, hfd]; rfl)
  have HNL := hide (show nl = if ((t0 && bd) && !fd.2) = true then L1 else l by rw [← HDV.out, hnl, hL1, hpt]; rfl)
  have HNR := hide (show nr = if ((t0 && bd) && !fd.2) = true then R1 else r by rw [← HDV.out, hnr, hR1, hpt]; rfl)
  have HNP := hide (show np = if ((t0 && bd) && !fd.2) = true then P1 else ps by rw [← HDV.out, hnp, hP1, hL1, hR1, hpt]; rfl)
  have HNS := hide (show ns = if ((t0 && bd) && !fd.2) = true then pt.1 else [] by rw [← HDV.out, hns, hpt]; rfl)
  rw [← hnl, ← hnr, ← hnp, ← hns, ← hok]
  have HPT := hide (show pt = partP l pc.1 pc.2 v by rw [hpt, hpc]; rfl)
  have hnum := partP_nums l pc.1 pc.2 v hl
  have hpw := partP_wf l pc.1 pc.2 v hl
  rw [← HPT.out] at hnum hpw
  have HL1 := hide (show L1.length ≤ 1048576 ∧ (∀ x ∈ L1, I64 x) by rw [hL1]; exact ⟨by rw [apL_length]; exact hl, apL_wf wl⟩)
  have HR1 := hide (show R1.length ≤ 1048576 ∧ (∀ x ∈ R1, I64 x) by rw [hR1]; exact ⟨by rw [apR_length]; exact hr, apR_wf wr⟩)
  have HNM := hide hnum
  have HPW := hide hpw
  have HWP := hide wp
  have CK := hide (fun (W : World) (h : Below w.heap.size w W) => show Calls Try.prog 48 #[.agg #[.slice a1 l.length c1, .slice a2 r.length c2, .slice a3 ps.length c3]] W (RetB1 W t0) by rw [ht0]; exact sIsCk_any _ l r ps W B (V.out.below h hB) (Nat.le_trans hB h.size))
  have CF := hide (fun (W : World) (h : Below w.heap.size w W) => show Calls Try.prog 84 #[.agg #[.slice a1 l.length c1, .slice a2 r.length c2, .slice a3 ps.length c3], .int .i64 v] W (RetPB W fd) by rw [hfd]; exact sFindP_any _ l r ps v W B (V.out.below h hB) (Nat.le_trans hB h.size))
  have CC := hide (fun (W : World) (h : Below w.heap.size w W) => sCopy_any _ l r ps W B (V.out.below h hB) (Nat.le_trans hB h.size) hl hr hp)
  have CP := hide (fun (W : World) (h : Below w.heap.size w W) => show Calls Try.prog 83 #[.agg #[.slice a1 l.length c1, .slice a2 r.length c2, .slice a3 ps.length c3], .int .i64 v] W (RetII W pc) by rw [hpc]; exact sPieceOf_any _ l r ps v W B (V.out.below h hB) (Nat.le_trans hB h.size))
  have CT := hide (fun (W : World) (h : Below w.heap.size w W) => show Calls Try.prog 111 #[.slice a1 l.length c1, .int .i64 pc.1, .int .i64 pc.2, .int .i64 v] W (RetSI W pt) by rw [HPT.out]; exact sPart_any _ l pc.1 pc.2 v W B (I1.out.below h hB) (Nat.le_trans hB h.size) hl)
  have CAp := hide (fun (W : World) (sv : Value) (h : Below w.heap.size w W) (h2 : Pvs W W.heap.size sv pt.1) => show Calls Try.prog 112 #[.agg #[.slice a1 l.length c1, .slice a2 r.length c2, .slice a3 ps.length c3], sv] W (RetOCB W L1 R1 ps (canSwap l r pt.1)) by rw [hL1, hR1]; exact sApply_any _ sv l r ps pt.1 W W.heap.size ((V.out.below h hB).mono (Nat.le_trans hB h.size)) h2 (Nat.le_refl _) hl hr hp)
  have CAd := hide (fun (W : World) (x : Value) (h : Ck W W.heap.size x L1 R1 ps) => show Calls Try.prog 113 #[x, .agg #[.int .i64 v, .int .i64 pt.2]] W (RetOCB W L1 R1 P1 (adOk L1 R1 ps (v, pt.2))) by rw [hP1]; exact sAdd_any x L1 R1 ps v pt.2 W W.heap.size h ⟨hvw, ⟨by have := HNM.out; omega, by have := HNM.out; omega⟩⟩ (Nat.le_refl _) HL1.out.1 HR1.out.1 hp)
  have HBD := hide hbd
  clear ht0 hbd hfd hpc hpt hL1 hR1 hP1 hnl hnr hnp hns hok hnum hpw wl wr wpl wp
  obtain ⟨f0, f1⟩ := fd
  obtain ⟨pa, pb⟩ := pc
  obtain ⟨sw, at0⟩ := pt
  simp only at HDV HNL HNR HNP HNS CT CAp CAd HNM HPW CP HPT
  obtain ⟨cs, hcs⟩ : ∃ t, t = canSwap l r sw := ⟨_, rfl⟩
  obtain ⟨ad, had⟩ : ∃ t, t = adOk L1 R1 ps (v, at0) := ⟨_, rfl⟩
  rw [← hcs] at CAp
  rw [← had] at CAd
  clear hcs had
  have X := hide (Kn.two w #[.slice a1 l.length c1, .slice a2 r.length c2, .slice a3 ps.length c3] #[.slice none 0 0, .slice none 0 0, .slice none 0 0] 30 30)
  obtain ⟨w1, hw1⟩ : ∃ w1, w1 = (w.alloc (.cells #[.slice a1 l.length c1, .slice a2 r.length c2, .slice a3 ps.length c3] 30)).alloc (.cells #[.slice none 0 0, .slice none 0 0, .slice none 0 0] 30) := ⟨_, rfl⟩
  have hz1 := hide (show w1.heap.size = w.heap.size + 1 + 1 by rw [hw1]; simp)
  rw [← hw1] at X
  have d0 : w1.cell? ⟨w.heap.size, 0, none⟩ = some (.slice a1 l.length c1) := X.out.cell 0 0 rfl rfl
  have d1 : w1.cell? ⟨w.heap.size, 1, none⟩ = some (.slice a2 r.length c2) := X.out.cell 0 1 rfl rfl
  have d2 : w1.cell? ⟨w.heap.size, 2, none⟩ = some (.slice a3 ps.length c3) := X.out.cell 0 2 rfl rfl
  rw [hw1] at d0 d1 d2
  go_enter Try.func91, Try.ntmps91
  go_wp2_with fail
  rw [← hw1]
  clear hw1 d0 d1 d2
  go_at_call 48
  refine (CK.out _ X.out.below).mono ?_
  rintro e w2 ⟨rfl, hb⟩
  have X := hide (X.out.up hb)
  have N2 := hide (Nat.le_trans (Nat.le_of_eq hz1.out.symm) hb.size)
  clear hb
  cases t0 with
  | false =>
    have d0 : w2.cell? ⟨w.heap.size, 0, none⟩ = some (.slice a1 l.length c1) := X.out.cell 0 0 rfl rfl
    have d1 : w2.cell? ⟨w.heap.size, 1, none⟩ = some (.slice a2 r.length c2) := X.out.cell 0 1 rfl rfl
    have d2 : w2.cell? ⟨w.heap.size, 2, none⟩ = some (.slice a3 ps.length c3) := X.out.cell 0 2 rfl rfl
    cases f1 with
    | false =>
      obtain rfl : nl = l := by simpa [Hid] using HNL
      obtain rfl : nr = r := by simpa [Hid] using HNR
      obtain rfl : np = ps := by simpa [Hid] using HNP
      obtain rfl : ns = [] := by simpa [Hid] using HNS
      obtain rfl : ok = false := by simpa [Hid] using HOK
      go_wp2_with fail
      go_at_call 57
      refine (CC.out _ X.out.below).mono ?_
      rintro e w8 ⟨x', y', z', lo', hi', n1', h1', n2', h2', n4, h4, rfl, q1, q2, O8, hb⟩
      obtain ⟨v1, j1, rfl⟩ := O8.x.form
      obtain ⟨v2, j2, rfl⟩ := O8.y.form
      obtain ⟨v3, j4, rfl⟩ := O8.z.own.form
      have K8 := hide (X.out.up hb)
      have P3 := hide (Nat.le_trans X.out.below.size q1)
      have P5 := hide (Nat.lt_of_lt_of_le (X.out.lt 1 rfl) q1)
      have O8 := hide O8
      clear d0 d1 d2 hb q1 q2 X
      have KA := hide (K8.out.alloc #[] 147)
      have OA := hide (O8.out.below (below1 w8 (.cells #[] 147)))
      have OM := hide (Osw.of (OwS.made w8 w8.heap.size (Nat.le_refl _)) (by simp))
      have g0 : (w8.alloc (.cells #[] 147)).cell? ⟨w.heap.size + 1, 0, none⟩ = some (.slice none 0 0) := KA.out.cell 1 0 rfl rfl
      have g1 : (w8.alloc (.cells #[] 147)).cell? ⟨w.heap.size + 1, 1, none⟩ = some (.slice none 0 0) := KA.out.cell 1 1 rfl rfl
      have g2 : (w8.alloc (.cells #[] 147)).cell? ⟨w.heap.size + 1, 2, none⟩ = some (.slice none 0 0) := KA.out.cell 1 2 rfl rfl
      have f0' : (w8.alloc (.cells #[] 147)).frozen? ⟨w.heap.size + 1, 0, none⟩ = false := KA.out.free 1 0 rfl
      have f1' : (w8.alloc (.cells #[] 147)).frozen? ⟨w.heap.size + 1, 1, none⟩ = false := KA.out.free 1 1 rfl
      have f2' : (w8.alloc (.cells #[] 147)).frozen? ⟨w.heap.size + 1, 2, none⟩ = false := KA.out.free 1 2 rfl
      go_wp2_with fail
      have Z := ((KA.out.set 1 0 rfl (.slice v1 nl.length j1)).set 1 1 rfl (.slice v2 nr.length j2)).set 1 2 rfl (.slice v3 np.length j4)
      have z0 := Z.cell 1 0 rfl rfl
      have z1 := Z.cell 1 1 rfl rfl
      have z2 := Z.cell 1 2 rfl rfl
      have P6 := Nat.le_trans P3.out (Nat.le_trans O8.out.top.1 O8.out.top.2)
      have P7 : w.heap.size + 1 + 1 ≤ w8.heap.size := Nat.le_trans P5.out (Nat.le_trans O8.out.top.1 O8.out.top.2)
      have O9 := OA.out.seg (seg3 _ (w.heap.size + 1) (.slice v1 nl.length j1) (.slice v2 nr.length j2) (.slice v3 np.length j4)) (.inr P5.out)
      have M9 := OM.out.seg (seg3 _ (w.heap.size + 1) (.slice v1 nl.length j1) (.slice v2 nr.length j2) (.slice v3 np.length j4)) (.inr P7)
      exact bodyPost_ret (v := .tuple #[.agg #[.slice v1 nl.length j1, .slice v2 nr.length j2, .slice v3 np.length j4], .slice (some ⟨w8.heap.size, 0, none⟩) 0 0, .bool false]) (by simp [results, Try.results91, go_sem, z0, z1, z2]) rfl
        ⟨_, _, _, _, lo', hi', n1', h1', n2', h2', n4, h4, _, _, rfl, ⟨P3.out, P6⟩, ⟨O9.top.2, M9.top⟩, O9, M9, .inl O8.out.top.2, Z.below⟩
    | true =>
      obtain rfl : nl = l := by simpa [Hid] using HNL
      obtain rfl : nr = r := by simpa [Hid] using HNR
      obtain rfl : np = ps := by simpa [Hid] using HNP
      obtain rfl : ns = [] := by simpa [Hid] using HNS
      obtain rfl : ok = false := by simpa [Hid] using HOK
      go_wp2_with fail
      go_at_call 57
      refine (CC.out _ X.out.below).mono ?_
      rintro e w8 ⟨x', y', z', lo', hi', n1', h1', n2', h2', n4, h4, rfl, q1, q2, O8, hb⟩
      obtain ⟨v1, j1, rfl⟩ := O8.x.form
      obtain ⟨v2, j2, rfl⟩ := O8.y.form
      obtain ⟨v3, j4, rfl⟩ := O8.z.own.form
      have K8 := hide (X.out.up hb)
      have P3 := hide (Nat.le_trans X.out.below.size q1)
      have P5 := hide (Nat.lt_of_lt_of_le (X.out.lt 1 rfl) q1)
      have O8 := hide O8
      clear d0 d1 d2 hb q1 q2 X
      have KA := hide (K8.out.alloc #[] 147)
      have OA := hide (O8.out.below (below1 w8 (.cells #[] 147)))
      have OM := hide (Osw.of (OwS.made w8 w8.heap.size (Nat.le_refl _)) (by simp))
      have g0 : (w8.alloc (.cells #[] 147)).cell? ⟨w.heap.size + 1, 0, none⟩ = some (.slice none 0 0) := KA.out.cell 1 0 rfl rfl
      have g1 : (w8.alloc (.cells #[] 147)).cell? ⟨w.heap.size + 1, 1, none⟩ = some (.slice none 0 0) := KA.out.cell 1 1 rfl rfl
      have g2 : (w8.alloc (.cells #[] 147)).cell? ⟨w.heap.size + 1, 2, none⟩ = some (.slice none 0 0) := KA.out.cell 1 2 rfl rfl
      have f0' : (w8.alloc (.cells #[] 147)).frozen? ⟨w.heap.size + 1, 0, none⟩ = false := KA.out.free 1 0 rfl
      have f1' : (w8.alloc (.cells #[] 147)).frozen? ⟨w.heap.size + 1, 1, none⟩ = false := KA.out.free 1 1 rfl
      have f2' : (w8.alloc (.cells #[] 147)).frozen? ⟨w.heap.size + 1, 2, none⟩ = false := KA.out.free 1 2 rfl
      go_wp2_with fail
      have Z := ((KA.out.set 1 0 rfl (.slice v1 nl.length j1)).set 1 1 rfl (.slice v2 nr.length j2)).set 1 2 rfl (.slice v3 np.length j4)
      have z0 := Z.cell 1 0 rfl rfl
      have z1 := Z.cell 1 1 rfl rfl
      have z2 := Z.cell 1 2 rfl rfl
      have P6 := Nat.le_trans P3.out (Nat.le_trans O8.out.top.1 O8.out.top.2)
      have P7 : w.heap.size + 1 + 1 ≤ w8.heap.size := Nat.le_trans P5.out (Nat.le_trans O8.out.top.1 O8.out.top.2)
      have O9 := OA.out.seg (seg3 _ (w.heap.size + 1) (.slice v1 nl.length j1) (.slice v2 nr.length j2) (.slice v3 np.length j4)) (.inr P5.out)
      have M9 := OM.out.seg (seg3 _ (w.heap.size + 1) (.slice v1 nl.length j1) (.slice v2 nr.length j2) (.slice v3 np.length j4)) (.inr P7)
      exact bodyPost_ret (v := .tuple #[.agg #[.slice v1 nl.length j1, .slice v2 nr.length j2, .slice v3 np.length j4], .slice (some ⟨w8.heap.size, 0, none⟩) 0 0, .bool false]) (by simp [results, Try.results91, go_sem, z0, z1, z2]) rfl
        ⟨_, _, _, _, lo', hi', n1', h1', n2', h2', n4, h4, _, _, rfl, ⟨P3.out, P6⟩, ⟨O9.top.2, M9.top⟩, O9, M9, .inl O8.out.top.2, Z.below⟩
  | true =>
    cases bd with
    | false =>
      have d0 : w2.cell? ⟨w.heap.size, 0, none⟩ = some (.slice a1 l.length c1) := X.out.cell 0 0 rfl rfl
      have d1 : w2.cell? ⟨w.heap.size, 1, none⟩ = some (.slice a2 r.length c2) := X.out.cell 0 1 rfl rfl
      have d2 : w2.cell? ⟨w.heap.size, 2, none⟩ = some (.slice a3 ps.length c3) := X.out.cell 0 2 rfl rfl
      have hvb := of_decide_eq_false HBD.out.symm
      have CB := hide (fun (W : World) => in_no v (-1000) 1000 W (by omega))
      clear hvb
      go_wp2_with fail
      go_at_call 56
      refine (CB.out _).mono ?_
      rintro e wq ⟨rfl, rfl⟩
      cases f1 with
      | false =>
        obtain rfl : nl = l := by simpa [Hid] using HNL
        obtain rfl : nr = r := by simpa [Hid] using HNR
        obtain rfl : np = ps := by simpa [Hid] using HNP
        obtain rfl : ns = [] := by simpa [Hid] using HNS
        obtain rfl : ok = false := by simpa [Hid] using HOK
        go_wp2_with fail
        go_at_call 57
        refine (CC.out _ X.out.below).mono ?_
        rintro e w8 ⟨x', y', z', lo', hi', n1', h1', n2', h2', n4, h4, rfl, q1, q2, O8, hb⟩
        obtain ⟨v1, j1, rfl⟩ := O8.x.form
        obtain ⟨v2, j2, rfl⟩ := O8.y.form
        obtain ⟨v3, j4, rfl⟩ := O8.z.own.form
        have K8 := hide (X.out.up hb)
        have P3 := hide (Nat.le_trans X.out.below.size q1)
        have P5 := hide (Nat.lt_of_lt_of_le (X.out.lt 1 rfl) q1)
        have O8 := hide O8
        clear d0 d1 d2 hb q1 q2 X
        have KA := hide (K8.out.alloc #[] 147)
        have OA := hide (O8.out.below (below1 w8 (.cells #[] 147)))
        have OM := hide (Osw.of (OwS.made w8 w8.heap.size (Nat.le_refl _)) (by simp))
        have g0 : (w8.alloc (.cells #[] 147)).cell? ⟨w.heap.size + 1, 0, none⟩ = some (.slice none 0 0) := KA.out.cell 1 0 rfl rfl
        have g1 : (w8.alloc (.cells #[] 147)).cell? ⟨w.heap.size + 1, 1, none⟩ = some (.slice none 0 0) := KA.out.cell 1 1 rfl rfl
        have g2 : (w8.alloc (.cells #[] 147)).cell? ⟨w.heap.size + 1, 2, none⟩ = some (.slice none 0 0) := KA.out.cell 1 2 rfl rfl
        have f0' : (w8.alloc (.cells #[] 147)).frozen? ⟨w.heap.size + 1, 0, none⟩ = false := KA.out.free 1 0 rfl
        have f1' : (w8.alloc (.cells #[] 147)).frozen? ⟨w.heap.size + 1, 1, none⟩ = false := KA.out.free 1 1 rfl
        have f2' : (w8.alloc (.cells #[] 147)).frozen? ⟨w.heap.size + 1, 2, none⟩ = false := KA.out.free 1 2 rfl
        go_wp2_with fail
        have Z := ((KA.out.set 1 0 rfl (.slice v1 nl.length j1)).set 1 1 rfl (.slice v2 nr.length j2)).set 1 2 rfl (.slice v3 np.length j4)
        have z0 := Z.cell 1 0 rfl rfl
        have z1 := Z.cell 1 1 rfl rfl
        have z2 := Z.cell 1 2 rfl rfl
        have P6 := Nat.le_trans P3.out (Nat.le_trans O8.out.top.1 O8.out.top.2)
        have P7 : w.heap.size + 1 + 1 ≤ w8.heap.size := Nat.le_trans P5.out (Nat.le_trans O8.out.top.1 O8.out.top.2)
        have O9 := OA.out.seg (seg3 _ (w.heap.size + 1) (.slice v1 nl.length j1) (.slice v2 nr.length j2) (.slice v3 np.length j4)) (.inr P5.out)
        have M9 := OM.out.seg (seg3 _ (w.heap.size + 1) (.slice v1 nl.length j1) (.slice v2 nr.length j2) (.slice v3 np.length j4)) (.inr P7)
        exact bodyPost_ret (v := .tuple #[.agg #[.slice v1 nl.length j1, .slice v2 nr.length j2, .slice v3 np.length j4], .slice (some ⟨w8.heap.size, 0, none⟩) 0 0, .bool false]) (by simp [results, Try.results91, go_sem, z0, z1, z2]) rfl
          ⟨_, _, _, _, lo', hi', n1', h1', n2', h2', n4, h4, _, _, rfl, ⟨P3.out, P6⟩, ⟨O9.top.2, M9.top⟩, O9, M9, .inl O8.out.top.2, Z.below⟩
      | true =>
        obtain rfl : nl = l := by simpa [Hid] using HNL
        obtain rfl : nr = r := by simpa [Hid] using HNR
        obtain rfl : np = ps := by simpa [Hid] using HNP
        obtain rfl : ns = [] := by simpa [Hid] using HNS
        obtain rfl : ok = false := by simpa [Hid] using HOK
        go_wp2_with fail
        go_at_call 57
        refine (CC.out _ X.out.below).mono ?_
        rintro e w8 ⟨x', y', z', lo', hi', n1', h1', n2', h2', n4, h4, rfl, q1, q2, O8, hb⟩
        obtain ⟨v1, j1, rfl⟩ := O8.x.form
        obtain ⟨v2, j2, rfl⟩ := O8.y.form
        obtain ⟨v3, j4, rfl⟩ := O8.z.own.form
        have K8 := hide (X.out.up hb)
        have P3 := hide (Nat.le_trans X.out.below.size q1)
        have P5 := hide (Nat.lt_of_lt_of_le (X.out.lt 1 rfl) q1)
        have O8 := hide O8
        clear d0 d1 d2 hb q1 q2 X
        have KA := hide (K8.out.alloc #[] 147)
        have OA := hide (O8.out.below (below1 w8 (.cells #[] 147)))
        have OM := hide (Osw.of (OwS.made w8 w8.heap.size (Nat.le_refl _)) (by simp))
        have g0 : (w8.alloc (.cells #[] 147)).cell? ⟨w.heap.size + 1, 0, none⟩ = some (.slice none 0 0) := KA.out.cell 1 0 rfl rfl
        have g1 : (w8.alloc (.cells #[] 147)).cell? ⟨w.heap.size + 1, 1, none⟩ = some (.slice none 0 0) := KA.out.cell 1 1 rfl rfl
        have g2 : (w8.alloc (.cells #[] 147)).cell? ⟨w.heap.size + 1, 2, none⟩ = some (.slice none 0 0) := KA.out.cell 1 2 rfl rfl
        have f0' : (w8.alloc (.cells #[] 147)).frozen? ⟨w.heap.size + 1, 0, none⟩ = false := KA.out.free 1 0 rfl
        have f1' : (w8.alloc (.cells #[] 147)).frozen? ⟨w.heap.size + 1, 1, none⟩ = false := KA.out.free 1 1 rfl
        have f2' : (w8.alloc (.cells #[] 147)).frozen? ⟨w.heap.size + 1, 2, none⟩ = false := KA.out.free 1 2 rfl
        go_wp2_with fail
        have Z := ((KA.out.set 1 0 rfl (.slice v1 nl.length j1)).set 1 1 rfl (.slice v2 nr.length j2)).set 1 2 rfl (.slice v3 np.length j4)
        have z0 := Z.cell 1 0 rfl rfl
        have z1 := Z.cell 1 1 rfl rfl
        have z2 := Z.cell 1 2 rfl rfl
        have P6 := Nat.le_trans P3.out (Nat.le_trans O8.out.top.1 O8.out.top.2)
        have P7 : w.heap.size + 1 + 1 ≤ w8.heap.size := Nat.le_trans P5.out (Nat.le_trans O8.out.top.1 O8.out.top.2)
        have O9 := OA.out.seg (seg3 _ (w.heap.size + 1) (.slice v1 nl.length j1) (.slice v2 nr.length j2) (.slice v3 np.length j4)) (.inr P5.out)
        have M9 := OM.out.seg (seg3 _ (w.heap.size + 1) (.slice v1 nl.length j1) (.slice v2 nr.length j2) (.slice v3 np.length j4)) (.inr P7)
        exact bodyPost_ret (v := .tuple #[.agg #[.slice v1 nl.length j1, .slice v2 nr.length j2, .slice v3 np.length j4], .slice (some ⟨w8.heap.size, 0, none⟩) 0 0, .bool false]) (by simp [results, Try.results91, go_sem, z0, z1, z2]) rfl
          ⟨_, _, _, _, lo', hi', n1', h1', n2', h2', n4, h4, _, _, rfl, ⟨P3.out, P6⟩, ⟨O9.top.2, M9.top⟩, O9, M9, .inl O8.out.top.2, Z.below⟩
    | true =>
      have d0 : w2.cell? ⟨w.heap.size, 0, none⟩ = some (.slice a1 l.length c1) := X.out.cell 0 0 rfl rfl
      have d1 : w2.cell? ⟨w.heap.size, 1, none⟩ = some (.slice a2 r.length c2) := X.out.cell 0 1 rfl rfl
      have d2 : w2.cell? ⟨w.heap.size, 2, none⟩ = some (.slice a3 ps.length c3) := X.out.cell 0 2 rfl rfl
      have hvb := of_decide_eq_true HBD.out.symm
      have CB := hide (fun (W : World) => in_yes v (-1000) 1000 W hvb.1 hvb.2)
      clear hvb
      go_wp2_with fail
      go_at_call 56
      refine (CB.out _).mono ?_
      rintro e wq ⟨rfl, rfl⟩
      go_wp2_with fail
      go_at_call 84
      refine (CF.out _ X.out.below).mono ?_
      rintro e w3 ⟨rfl, hb⟩
      have X := hide (X.out.up hb)
      have N3 := hide (Nat.le_trans N2.out hb.size)
      clear hb d0 d1 d2
      have d0 : w3.cell? ⟨w.heap.size, 0, none⟩ = some (.slice a1 l.length c1) := X.out.cell 0 0 rfl rfl
      have d1 : w3.cell? ⟨w.heap.size, 1, none⟩ = some (.slice a2 r.length c2) := X.out.cell 0 1 rfl rfl
      have d2 : w3.cell? ⟨w.heap.size, 2, none⟩ = some (.slice a3 ps.length c3) := X.out.cell 0 2 rfl rfl
      cases f1 with
      | true =>
        obtain rfl : nl = l := by simpa [Hid] using HNL
        obtain rfl : nr = r := by simpa [Hid] using HNR
        obtain rfl : np = ps := by simpa [Hid] using HNP
        obtain rfl : ns = [] := by simpa [Hid] using HNS
        obtain rfl : ok = true := by simpa [Hid] using HOK
        go_wp2_with fail
        go_at_call 57
        refine (CC.out _ X.out.below).mono ?_
        rintro e w8 ⟨x', y', z', lo', hi', n1', h1', n2', h2', n4, h4, rfl, q1, q2, O8, hb⟩
        obtain ⟨v1, j1, rfl⟩ := O8.x.form
        obtain ⟨v2, j2, rfl⟩ := O8.y.form
        obtain ⟨v3, j4, rfl⟩ := O8.z.own.form
        have K8 := hide (X.out.up hb)
        have P3 := hide (Nat.le_trans X.out.below.size q1)
        have P5 := hide (Nat.lt_of_lt_of_le (X.out.lt 1 rfl) q1)
        have O8 := hide O8
        clear d0 d1 d2 hb q1 q2 X
        have KA := hide (K8.out.alloc #[] 147)
        have OA := hide (O8.out.below (below1 w8 (.cells #[] 147)))
        have OM := hide (Osw.of (OwS.made w8 w8.heap.size (Nat.le_refl _)) (by simp))
        have g0 : (w8.alloc (.cells #[] 147)).cell? ⟨w.heap.size + 1, 0, none⟩ = some (.slice none 0 0) := KA.out.cell 1 0 rfl rfl
        have g1 : (w8.alloc (.cells #[] 147)).cell? ⟨w.heap.size + 1, 1, none⟩ = some (.slice none 0 0) := KA.out.cell 1 1 rfl rfl
        have g2 : (w8.alloc (.cells #[] 147)).cell? ⟨w.heap.size + 1, 2, none⟩ = some (.slice none 0 0) := KA.out.cell 1 2 rfl rfl
        have f0' : (w8.alloc (.cells #[] 147)).frozen? ⟨w.heap.size + 1, 0, none⟩ = false := KA.out.free 1 0 rfl
        have f1' : (w8.alloc (.cells #[] 147)).frozen? ⟨w.heap.size + 1, 1, none⟩ = false := KA.out.free 1 1 rfl
        have f2' : (w8.alloc (.cells #[] 147)).frozen? ⟨w.heap.size + 1, 2, none⟩ = false := KA.out.free 1 2 rfl
        go_wp2_with fail
        have Z := ((KA.out.set 1 0 rfl (.slice v1 nl.length j1)).set 1 1 rfl (.slice v2 nr.length j2)).set 1 2 rfl (.slice v3 np.length j4)
        have z0 := Z.cell 1 0 rfl rfl
        have z1 := Z.cell 1 1 rfl rfl
        have z2 := Z.cell 1 2 rfl rfl
        have P6 := Nat.le_trans P3.out (Nat.le_trans O8.out.top.1 O8.out.top.2)
        have P7 : w.heap.size + 1 + 1 ≤ w8.heap.size := Nat.le_trans P5.out (Nat.le_trans O8.out.top.1 O8.out.top.2)
        have O9 := OA.out.seg (seg3 _ (w.heap.size + 1) (.slice v1 nl.length j1) (.slice v2 nr.length j2) (.slice v3 np.length j4)) (.inr P5.out)
        have M9 := OM.out.seg (seg3 _ (w.heap.size + 1) (.slice v1 nl.length j1) (.slice v2 nr.length j2) (.slice v3 np.length j4)) (.inr P7)
        exact bodyPost_ret (v := .tuple #[.agg #[.slice v1 nl.length j1, .slice v2 nr.length j2, .slice v3 np.length j4], .slice (some ⟨w8.heap.size, 0, none⟩) 0 0, .bool true]) (by simp [results, Try.results91, go_sem, z0, z1, z2]) rfl
          ⟨_, _, _, _, lo', hi', n1', h1', n2', h2', n4, h4, _, _, rfl, ⟨P3.out, P6⟩, ⟨O9.top.2, M9.top⟩, O9, M9, .inl O8.out.top.2, Z.below⟩
      | false =>
        obtain rfl : nl = L1 := by simpa [Hid] using HNL
        obtain rfl : nr = R1 := by simpa [Hid] using HNR
        obtain rfl : np = P1 := by simpa [Hid] using HNP
        obtain rfl : ns = sw := by simpa [Hid] using HNS
        obtain rfl : ok = true := by simpa [Hid] using HOK
        go_wp2_with fail
        go_at_call 83
        refine (CP.out _ X.out.below).mono ?_
        rintro e w4 ⟨rfl, hb⟩
        have X := hide (X.out.up hb)
        have N4 := hide (Nat.le_trans N3.out hb.size)
        clear hb d0 d1 d2
        have d0 : w4.cell? ⟨w.heap.size, 0, none⟩ = some (.slice a1 l.length c1) := X.out.cell 0 0 rfl rfl
        have d1 : w4.cell? ⟨w.heap.size, 1, none⟩ = some (.slice a2 r.length c2) := X.out.cell 0 1 rfl rfl
        have d2 : w4.cell? ⟨w.heap.size, 2, none⟩ = some (.slice a3 ps.length c3) := X.out.cell 0 2 rfl rfl
        go_wp2_with fail
        go_at_call 111
        refine (CT.out _ X.out.below).mono ?_
        rintro e w5 ⟨sv, rfl, OS, hb⟩
        obtain ⟨sg, sk, rfl⟩ := OS.form
        have X := hide (X.out.up hb)
        have OS := hide (Osw.of OS hb.size)
        have N5 := hide hb.size
        clear hb d0 d1 d2
        have d0 : w5.cell? ⟨w.heap.size, 0, none⟩ = some (.slice a1 l.length c1) := X.out.cell 0 0 rfl rfl
        have d1 : w5.cell? ⟨w.heap.size, 1, none⟩ = some (.slice a2 r.length c2) := X.out.cell 0 1 rfl rfl
        have d2 : w5.cell? ⟨w.heap.size, 2, none⟩ = some (.slice a3 ps.length c3) := X.out.cell 0 2 rfl rfl
        go_wp2_with fail
        go_at_call 112
        refine (CAp.out _ _ X.out.below (OS.out.own.pvs (Nat.le_refl _) (by have := HNM.out.2.1; omega) HPW.out)).mono ?_
        rintro e w6 ⟨x, y, z, lo, hi, n1, h1, n2, h2, n3, h3, rfl, q1, q2, O, hb⟩
        obtain ⟨x1, k1, rfl⟩ := O.x.form
        obtain ⟨x2, k2, rfl⟩ := O.y.form
        obtain ⟨x3, k3, rfl⟩ := O.z.own.form
        have X := hide (X.out.up hb)
        have OS := hide (OS.out.below hb)
        have HC := hide (O.ck HL1.out.2 HR1.out.2 (by omega) HWP.out)
        clear d0 d1 d2 O q1 q2
        have hs6 := hide hb.size
        clear hb
        have bl := below1 w6 (.cells #[.slice x1 nl.length k1, .slice x2 nr.length k2, .slice x3 ps.length k3] 30)
        have X := hide (X.out.alloc #[.slice x1 nl.length k1, .slice x2 nr.length k2, .slice x3 ps.length k3] 30)
        have OS := hide (OS.out.below bl)
        have HC := hide (HC.out.up bl)
        clear bl
        obtain ⟨m, hm⟩ : ∃ m, m = w6.heap.size := ⟨_, rfl⟩
        obtain ⟨w7, hw7⟩ : ∃ q, q = w6.alloc (.cells #[.slice x1 nl.length k1, .slice x2 nr.length k2, .slice x3 ps.length k3] 30) := ⟨_, rfl⟩
        have hs7 := hide (show w7.heap.size = m + 1 by rw [hw7, hm]; simp)
        rw [← hw7] at X OS HC
        rw [← hm] at X
        have hs6 := hide (show w5.heap.size ≤ m by rw [hm]; exact hs6.out)
        simp only [List.cons_append, List.nil_append] at X
        go_wp2_with fail
        rw [← hw7]
        try rw [← hm]
        clear hw7 hm
        go_at_call 113
        refine (CAd.out _ _ HC.out).mono ?_
        rintro e w8 ⟨x', y', z', lo, hi, n1, h1, n2, h2, n3, h3, rfl, q1, q2, O, hb⟩
        obtain ⟨v1, j1, rfl⟩ := O.x.form
        obtain ⟨v2, j2, rfl⟩ := O.y.form
        obtain ⟨v3, j3, rfl⟩ := O.z.own.form
        have K8 := hide (X.out.up hb)
        have OS := hide (OS.out.below hb)
        have Q1 := hide (show m + 1 ≤ lo by rw [← hs7.out]; exact q1)
        have O := hide O
        clear hb q1 q2 X HC
        have KA := hide (K8.out.alloc #[.slice v1 nl.length j1, .slice v2 nr.length j2, .slice v3 np.length j3] 30)
        have bl := below1 w8 (.cells #[.slice v1 nl.length j1, .slice v2 nr.length j2, .slice v3 np.length j3] 30)
        have O := hide (O.out.below bl)
        have OS := hide (OS.out.below bl)
        clear bl
        have g0 : (w8.alloc (.cells #[.slice v1 nl.length j1, .slice v2 nr.length j2, .slice v3 np.length j3] 30)).cell? ⟨w.heap.size + 1, 0, none⟩ = some (.slice none 0 0) := KA.out.cell 1 0 rfl rfl
        have g1 : (w8.alloc (.cells #[.slice v1 nl.length j1, .slice v2 nr.length j2, .slice v3 np.length j3] 30)).cell? ⟨w.heap.size + 1, 1, none⟩ = some (.slice none 0 0) := KA.out.cell 1 1 rfl rfl
        have g2 : (w8.alloc (.cells #[.slice v1 nl.length j1, .slice v2 nr.length j2, .slice v3 np.length j3] 30)).cell? ⟨w.heap.size + 1, 2, none⟩ = some (.slice none 0 0) := KA.out.cell 1 2 rfl rfl
        have f0' : (w8.alloc (.cells #[.slice v1 nl.length j1, .slice v2 nr.length j2, .slice v3 np.length j3] 30)).frozen? ⟨w.heap.size + 1, 0, none⟩ = false := KA.out.free 1 0 rfl
        have f1' : (w8.alloc (.cells #[.slice v1 nl.length j1, .slice v2 nr.length j2, .slice v3 np.length j3] 30)).frozen? ⟨w.heap.size + 1, 1, none⟩ = false := KA.out.free 1 1 rfl
        have f2' : (w8.alloc (.cells #[.slice v1 nl.length j1, .slice v2 nr.length j2, .slice v3 np.length j3] 30)).frozen? ⟨w.heap.size + 1, 2, none⟩ = false := KA.out.free 1 2 rfl
        have Z := ((KA.out.set 1 0 rfl (.slice v1 nl.length j1)).set 1 1 rfl (.slice v2 nr.length j2)).set 1 2 rfl (.slice v3 np.length j3)
        have z0 := Z.cell 1 0 rfl rfl
        have z1 := Z.cell 1 1 rfl rfl
        have z2 := Z.cell 1 2 rfl rfl
        have HZ := hide Z
        have Q0 := hide (show w.heap.size + 1 + 1 ≤ lo by have := N4.out; have := N5.out; have := hs6.out; have := Q1.out; omega)
        have Q2 := hide (show w.heap.size + 1 + 1 ≤ w4.heap.size from N4.out)
        have hs56 := hide (show w5.heap.size ≤ m from hs6.out)
        clear Z
        go_wp2_with fail
        have O2 := hide (O.out.seg (seg3 _ (w.heap.size + 1) (.slice v1 nl.length j1) (.slice v2 nr.length j2) (.slice v3 np.length j3)) (.inr Q0.out))
        have T2 := hide (OS.out.seg (seg3 _ (w.heap.size + 1) (.slice v1 nl.length j1) (.slice v2 nr.length j2) (.slice v3 np.length j3)) (.inr Q2.out))
        exact bodyPost_ret (v := .tuple #[.agg #[.slice v1 nl.length j1, .slice v2 nr.length j2, .slice v3 np.length j3], .slice sg ns.length sk, .bool true]) (by simp [results, Try.results91, go_sem, z0, z1, z2]) rfl
          ⟨_, _, _, _, lo, hi, n1, h1, n2, h2, n3, h3, _, _, rfl, ⟨by have := Q0.out; omega, by have := Q2.out; omega⟩, ⟨O2.out.top.2, T2.out.top⟩, O2.out, T2.out, .inr (by have := Q1.out; have := hs56.out; omega), HZ.out.below⟩

end Go.Proofs.Ytfldnjkojdnjcaa
