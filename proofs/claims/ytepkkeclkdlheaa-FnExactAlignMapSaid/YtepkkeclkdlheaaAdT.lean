/- What AddPivot of the reference returns, whole (promise 3). Written by gen_ads.py. -/
import Derived.Test.YtepkkeclkdlheaaAdS
namespace Go.Proofs.Ytepkkeclkdlheaa
open Go.RowKit Go.ChangeShapes
set_option linter.unusedSimpArgs false
set_option linter.unusedVariables false
set_option maxRecDepth 100000

set_option maxHeartbeats 8000000 in
theorem sAdd_any (v : Value) (l r : List Int) (ps : List Pv) (pv pa : Int) (w : World) (B : Nat) (hv : Ck w B v l r ps) (hwf : I64 pv ∧ I64 pa) (hB : B ≤ w.heap.size) (hl : l.length ≤ 1048576) (hr : r.length ≤ 1048576) (hp : ps.length ≤ 1048576) :
    Calls Try.prog 127 #[v, .agg #[.int .i64 pv, .int .i64 pa]] w (RetOCB w l r (adP l r ps (pv, pa)) (adOk l r ps (pv, pa))) := by
  obtain ⟨a1, c1, a2, c2, a3, c3, rfl, i1, i2, i3⟩ := hv.form
  obtain ⟨wl, wr, wpl, wp⟩ := hv.wf
  obtain ⟨_, _, e3, -, -, hcell⟩ := i3
  simp only [Value.slice.injEq] at e3
  obtain ⟨rfl, -, rfl⟩ := e3
  have HCC := hide hcell
  have V := hide hv
  clear hv i1 i2 hcell
  obtain ⟨t, ht⟩ : ∃ t, t = adOk l r ps (pv, pa) := ⟨_, rfl⟩
  obtain ⟨t0, ht0⟩ : ∃ t0, t0 = isCk l r ps := ⟨_, rfl⟩
  obtain ⟨PP, hPP⟩ : ∃ PP, PP = adP l r ps (pv, pa) := ⟨_, rfl⟩
  obtain ⟨NN, hNN⟩ : ∃ NN, NN = adIn ps (pv, pa) := ⟨_, rfl⟩
  have HTT := hide (show t = true → t0 = true by rw [ht, ht0]; exact adOk_ck)
  have HT := hide (show t = isCk l r NN by rw [ht, hNN]; rfl)
  have HP := hide (show PP = if t = true then NN else ps by rw [hPP, ht, hNN]; rfl)
  have HNL := hide (show NN.length = ps.length + 1 by rw [hNN]; exact adIn_length _ _)
  have HNW := hide (show ∀ q ∈ NN, I64 q.1 ∧ I64 q.2 by rw [hNN]; exact adIn_wf wp hwf)
  rw [← ht, ← hPP]
  obtain ⟨b, hb⟩ : ∃ b, b = behind ps pv := ⟨_, rfl⟩
  have HNN := hide (show insAt ps b (pv, pa) = NN by rw [hb, hNN]; rfl)
  have hble := behind_le ps pv
  have HB1 := hide (fun (k : Nat) (hk : k < ps.length) => behind_before ps pv k hk)
  have HB2 := hide (behind_at ps pv)
  rw [← hb] at hble
  have HBE := hide hb
  have HWL := hide wl
  have HWR := hide wr
  have HT0 := hide ht0
  clear ht hPP hNN hb wl wr wpl wp ht0
  have C0 := hide (fun (W : World) (h : Below w.heap.size w W) => sCopy_any _ l r ps W B (V.out.below h hB) (Nat.le_trans hB h.size) hl hr hp)
  have CA := hide (fun (W : World) (h : Below w.heap.size w W) => show Calls Try.prog 80 #[.agg #[.slice a1 l.length c1, .slice a2 r.length c2, .slice a3 ps.length c3]] W (RetB1 W t0) by rw [HT0.out]; exact sIsCk_any _ l r ps W B (V.out.below h hB) (Nat.le_trans hB h.size))
  have CI := hide (fun (W : World) (x y z : Value) (lo hi p1 q1 p2 q2 p3 q3 : Nat) (h : OC W x y z l r NN lo hi p1 q1 p2 q2 p3 q3) => show Calls Try.prog 80 #[.agg #[x, y, z]] W (RetB1 W t) by rw [HT.out]; exact sIsCk_any _ l r NN W W.heap.size (h.ck HWL.out HWR.out (by rw [HNL.out]; omega) HNW.out) (Nat.le_refl _))
  have X := hide (Kn.three w #[.slice a1 l.length c1, .slice a2 r.length c2, .slice a3 ps.length c3] #[.int .i64 pv, .int .i64 pa] #[.slice none 0 0, .slice none 0 0, .slice none 0 0] 25 147 25)
  obtain ⟨w1, hw1⟩ : ∃ w1, w1 = ((w.alloc (.cells #[.slice a1 l.length c1, .slice a2 r.length c2, .slice a3 ps.length c3] 25)).alloc (.cells #[.int .i64 pv, .int .i64 pa] 147)).alloc (.cells #[.slice none 0 0, .slice none 0 0, .slice none 0 0] 25) := ⟨_, rfl⟩
  have hz1 := hide (show w1.heap.size = w.heap.size + 1 + 1 + 1 by rw [hw1]; simp)
  rw [← hw1] at X
  have d0 : w1.cell? ⟨w.heap.size, 0, none⟩ = some (.slice a1 l.length c1) := X.out.cell 0 0 rfl rfl
  have d1 : w1.cell? ⟨w.heap.size, 1, none⟩ = some (.slice a2 r.length c2) := X.out.cell 0 1 rfl rfl
  have d2 : w1.cell? ⟨w.heap.size, 2, none⟩ = some (.slice a3 ps.length c3) := X.out.cell 0 2 rfl rfl
  rw [hw1] at d0 d1 d2
  go_enter Try.func127, Try.ntmps127
  go_wp2_with fail
  rw [← hw1]
  clear hw1 d0 d1 d2
  go_at_call 94
  refine (C0.out _ X.out.below).mono ?_
  rintro e w2 ⟨x, y, z, lo, hi, n1, h1, n2, h2, n3, h3, rfl, q1, q2, O, hb⟩
  obtain ⟨x1, k1, rfl⟩ := O.x.form
  obtain ⟨x2, k2, rfl⟩ := O.y.form
  obtain ⟨x3, k3, rfl⟩ := O.z.own.form
  have X2 := hide (X.out.up hb)
  have X3 := hide (X2.out.alloc #[.slice x1 l.length k1, .slice x2 r.length k2, .slice (some ⟨w2.heap.size + 1, 0, none⟩) 0 0] 25)
  have hbl := below1 w2 (.cells #[.slice x1 l.length k1, .slice x2 r.length k2, .slice (some ⟨w2.heap.size + 1, 0, none⟩) 0 0] 25)
  have OX := hide (O.x.below hbl)
  have OY := hide (O.y.below hbl)
  obtain ⟨g1, g2, g3⟩ := O.high
  obtain ⟨l1, l2, l3⟩ := O.low
  have Q1 := hide (show w.heap.size + 1 + 1 + 1 ≤ lo by have := hz1.out; omega)
  have AP := hide O.apart.1
  have L := hide (And.intro l1 l2)
  obtain ⟨m, hm⟩ : ∃ m, m = w2.heap.size := ⟨_, rfl⟩
  have G := hide (show h1 ≤ m ∧ h2 ≤ m ∧ lo ≤ m by have := O.top.1; omega)
  obtain ⟨w3, hw3⟩ : ∃ w3, w3 = w2.alloc (.cells #[.slice x1 l.length k1, .slice x2 r.length k2, .slice (some ⟨w2.heap.size + 1, 0, none⟩) 0 0] 25) := ⟨_, rfl⟩
  have S3 := hide (show w3.heap.size = m + 1 by rw [hw3, hm]; simp)
  rw [← hw3] at X3 OX OY
  rw [← hm] at X3
  simp only [List.cons_append, List.nil_append] at X3
  have O5 := hide (Op.made w3 (m + 1) (by rw [S3.out]; exact Nat.le_refl _))
  have hbl := below1 w3 (.cells #[] 147)
  have X5 := hide (X3.out.up hbl)
  have OX := hide (OX.out.below hbl)
  have OY := hide (OY.out.below hbl)
  obtain ⟨w5, hw5⟩ : ∃ w5, w5 = w3.alloc (.cells #[] 147) := ⟨_, rfl⟩
  rw [← hw5] at O5 X5 OX OY
  rw [S3.out] at O5
  have S5 := hide (show w5.heap.size = m + 2 by rw [hw5]; have := S3.out; simp; omega)
  clear O hb X X2 X3 q1 q2 g1 g2 g3 l1 l2 l3 hbl
  go_wp2_with fail
  rw [← hw3, ← hw5]
  try rw [← hm]
  clear hw3 hw5 hm
  have X5 : Hid (Kn w w5 [(w.heap.size, #[.slice a1 l.length c1, .slice a2 r.length c2, .slice a3 ps.length c3], 25), (w.heap.size + 1, #[.int .i64 pv, .int .i64 pa], 147), (w.heap.size + 1 + 1, #[.slice none 0 0, .slice none 0 0, .slice none 0 0], 25), (m, #[.slice x1 l.length k1, .slice x2 r.length k2, .slice (some ⟨m + 1, 0, none⟩) 0 0], 25)]) := X5.out
  go_loopw [7, 8] (fun p q wr => ∃ (k : Nat) (ua : Option Addr) (ul uc : Nat), k ≤ ps.length ∧ p = .bool (decide (b < k)) ∧ q = .int .i64 k ∧ Hid (Kn w wr [(w.heap.size, #[.slice a1 l.length c1, .slice a2 r.length c2, .slice a3 ps.length c3], 25), (w.heap.size + 1, #[.int .i64 pv, .int .i64 pa], 147), (w.heap.size + 1 + 1, #[.slice none 0 0, .slice none 0 0, .slice none 0 0], 25), (m, #[.slice x1 l.length k1, .slice x2 r.length k2, .slice ua ul uc], 25)]) ∧ Hid (Op wr (m + 1) (.slice ua ul uc) (outK ps b (pv, pa) k)) ∧ Hid (Ow wr (.slice x1 l.length k1) l n1 h1) ∧ Hid (Ow wr (.slice x2 r.length k2) r n2 h2) ∧ Hid (m + 2 ≤ wr.heap.size)) (fun _ q _ => ps.length - (intOf q).toNat)
  case atStart => exact ⟨0, _, _, _, by omega, by simp, rfl, X5.out, by simpa [Hid, outK_zero] using O5.out, OX.out, OY.out, by rw [S5.out]; exact Nat.le_refl _⟩
  case round =>
    clear X5 OX OY O5 S5
    obtain ⟨k, ua, ul, uc, hk, rfl, rfl, K, O, OX, OY, S⟩ := hrel
    have d2 : wr.cell? ⟨w.heap.size, 2, none⟩ = some (.slice a3 ps.length c3) := K.out.cell 0 2 rfl rfl
    have f0 : wr.cell? ⟨w.heap.size + 1, 0, none⟩ = some (.int .i64 pv) := K.out.cell 1 0 rfl rfl
    have f1 : wr.cell? ⟨w.heap.size + 1, 1, none⟩ = some (.int .i64 pa) := K.out.cell 1 1 rfl rfl
    have m2 : wr.cell? ⟨m, 2, none⟩ = some (.slice ua ul uc) := K.out.cell 3 2 rfl rfl
    have mf := K.out.free 3 2 rfl
    by_cases hlt : k < ps.length
    · have t0' : decide (k < ps.length) = true := by simp; omega
      obtain ⟨b1, o1, rfl, hb1, hc1, hc2⟩ := HCC.out k hlt
      obtain ⟨x, hx⟩ : ∃ x, x = ps[k].1 := ⟨_, rfl⟩
      obtain ⟨y, hy⟩ : ∃ y, y = ps[k].2 := ⟨_, rfl⟩
      have hxy := hide (show ps[k] = (x, y) by rw [hx, hy])
      rw [← hx] at hc1
      rw [← hy] at hc2
      have e1 : wr.cell? ⟨b1, o1 + k * 2, none⟩ = some (.int .i64 x) := by rw [K.out.below.cell (p := ⟨b1, o1 + k * 2, none⟩) (Nat.lt_of_lt_of_le hb1 hB)]; exact hc1
      have e2 : wr.cell? ⟨b1, o1 + k * 2 + 1, none⟩ = some (.int .i64 y) := by rw [K.out.below.cell (p := ⟨b1, o1 + k * 2 + 1, none⟩) (Nat.lt_of_lt_of_le hb1 hB)]; exact hc2
      have HE := hide (fun (W : World) (h : Below w.heap.size w W) => And.intro (show W.cell? ⟨b1, o1 + k * 2, none⟩ = some (.int .i64 x) by rw [h.cell (p := ⟨b1, o1 + k * 2, none⟩) (Nat.lt_of_lt_of_le hb1 hB)]; exact hc1) (show W.cell? ⟨b1, o1 + k * 2 + 1, none⟩ = some (.int .i64 y) by rw [h.cell (p := ⟨b1, o1 + k * 2 + 1, none⟩) (Nat.lt_of_lt_of_le hb1 hB)]; exact hc2))
      have t3 : (k : Int) < (ps.length : Int) := by omega
      have hxb : (k < b → x ≤ pv) ∧ (k = b → pv < x) := by
        refine ⟨fun h => by rw [hx]; exact HB1.out k hlt (by rw [← HBE.out]; exact h), fun h => ?_⟩
        have h2 := HB2.out (by rw [← HBE.out, ← h]; exact hlt)
        simp only [← HBE.out, ← h] at h2
        rw [hx]
        exact h2
      have HLN := hide (outK_length ps b (pv, pa) k hble (by omega))
      clear hc1 hc2 hb1 hx hy
      by_cases hbk : b < k
      · have t1 : decide (b < k) = true := by simp; omega
        have hst := hide (show outK ps b (pv, pa) (k + 1) = outK ps b (pv, pa) k ++ [(x, y)] by rw [outK_plain ps b (pv, pa) k hlt (by omega), hxy.out])
        have t5 : decide (b < k + 1) = true := by simp; omega
        go_wp2_with fail
        go_quiet (fail)
        go_wp2_with fail
        have K0 := hide (K.out.drewN nq)
        have O0 := hide (O.out.below (below_drewN (Below.refl _ _) nq))
        have OX0 := hide (OX.out.below (below_drewN (Below.refl _ _) nq))
        have OY0 := hide (OY.out.below (below_drewN (Below.refl _ _) nq))
        have S0 := hide (show m + 2 ≤ (wr.drewN nq).heap.size from S.out)
        obtain ⟨W0, hW0⟩ : ∃ W0, W0 = wr.drewN nq := ⟨_, rfl⟩
        have E1 : W0.cell? ⟨b1, o1 + k * 2, none⟩ = some (.int .i64 x) := by rw [hW0]; exact e1
        have E2 : W0.cell? ⟨b1, o1 + k * 2 + 1, none⟩ = some (.int .i64 y) := by rw [hW0]; exact e2
        rw [← hW0] at K0 O0 OX0 OY0 S0
        rw [← hW0]
        clear hW0 K O OX OY S d2 f0 f1 m2 mf e1 e2
        have d2 : W0.cell? ⟨w.heap.size, 2, none⟩ = some (.slice (some ⟨b1, o1, none⟩) ps.length c3) := K0.out.cell 0 2 rfl rfl
        have m2 : W0.cell? ⟨m, 2, none⟩ = some (.slice ua ul uc) := K0.out.cell 3 2 rfl rfl
        have m2' : (W0.alloc (.cells #[.int .i64 x, .int .i64 y] 147)).cell? ⟨m, 2, none⟩ = some (.slice ua ul uc) := (K0.out.alloc #[.int .i64 x, .int .i64 y] 147).cell 3 2 rfl rfl
        have HOf := hide (fun (W : World) (h : Below W0.heap.size W0 W) => O0.out.below h)
        have HKf := hide (fun (W : World) (h : Below W0.heap.size W0 W) => K0.out.up h)
        have HXf := hide (fun (W : World) (h : Below W0.heap.size W0 W) => OX0.out.below h)
        have HYf := hide (fun (W : World) (h : Below W0.heap.size W0 W) => OY0.out.below h)
        go_region_law (refine op_append_step rfl _ _ rfl (m + 1) (.slice ua ul uc) _ (HOf.out _ (by first | exact (below1 _ _).drew | exact (Below.refl _ _).drew.alloc (Nat.le_refl _) _ | exact below1 _ _)) (by simp [Act.eval, Act.put]) x y 1 W0.heap.size (by simp [Act.eval, Act.put]) (by exact heap_alloc_new _ _) (by have := HLN.out; simp; omega) (by have := S0.out; simp; omega) ?_; intro v5 w5' hown hb hq; obtain ⟨ub, uc', rfl⟩ := hown.form; have h5 := hb.size; have SS := hide (show m + 2 ≤ w5'.heap.size by have := S0.out; simp at h5; omega); clear h5; have hb := hide hb; have KK := hide ((HKf.out _ (by first | exact (below1 _ _).drew | exact (Below.refl _ _).drew.alloc (Nat.le_refl _) _ | exact below1 _ _)).seg (Seg.of_low hb.out) (by have := G.out; have := Q1.out; omega) (by have := G.out; have := Q1.out; simp; omega)); have XX := hide ((HXf.out _ (by first | exact (below1 _ _).drew | exact (Below.refl _ _).drew.alloc (Nat.le_refl _) _ | exact below1 _ _)).seg (Seg.of_low hb.out) (.inl (by have := G.out; omega))); have YY := hide ((HYf.out _ (by first | exact (below1 _ _).drew | exact (Below.refl _ _).drew.alloc (Nat.le_refl _) _ | exact below1 _ _)).seg (Seg.of_low hb.out) (.inl (by have := G.out; omega))); have OO := hide hown; have cm2 : w5'.cell? ⟨m, 2, none⟩ = some (.slice ua ul uc) := KK.out.cell 3 2 rfl rfl; have cf := KK.out.free 3 2 rfl)
        go_wp2_with fail
        all_goals have OO : Op w5' (m + 1) (.slice ub ((outK ps b (pv, pa) k).length + 1) uc') (outK ps b (pv, pa) (k + 1)) := (by rw [hst.out, show (outK ps b (pv, pa) k).length + 1 = ((outK ps b (pv, pa) k) ++ [(x, y)]).length by simp]; exact OO.out)
        all_goals exact ⟨⟨k + 1, ub, _, uc', by omega, by rw [t5], by go_num, KK.out.set 3 2 rfl _, OO.poke (by omega) _ _, XX.out.seg (Seg.setCell _ _ _ _) (.inl G.out.1), YY.out.seg (Seg.setCell _ _ _ _) (.inl G.out.2.1), by simpa [Hid] using SS.out⟩, by simp [intOf]; omega⟩
      · have t1 : decide (b < k) = false := by simp; omega
        by_cases hkb : k < b
        · have t2 : decide (x > pv) = false := by have := hxb.1 hkb; simp; omega
          have t2' : decide (pv < x) = false := by have := hxb.1 hkb; simp; omega
          have hst := hide (show outK ps b (pv, pa) (k + 1) = outK ps b (pv, pa) k ++ [(x, y)] by rw [outK_plain ps b (pv, pa) k hlt (by omega), hxy.out])
          have t5 : decide (b < k + 1) = false := by simp; omega
          go_wp2_with fail
          go_quiet (fail)
          go_wp2_with fail
          have K0 := hide (K.out.drewN nq)
          have O0 := hide (O.out.below (below_drewN (Below.refl _ _) nq))
          have OX0 := hide (OX.out.below (below_drewN (Below.refl _ _) nq))
          have OY0 := hide (OY.out.below (below_drewN (Below.refl _ _) nq))
          have S0 := hide (show m + 2 ≤ (wr.drewN nq).heap.size from S.out)
          obtain ⟨W0, hW0⟩ : ∃ W0, W0 = wr.drewN nq := ⟨_, rfl⟩
          have E1 : W0.cell? ⟨b1, o1 + k * 2, none⟩ = some (.int .i64 x) := by rw [hW0]; exact e1
          have E2 : W0.cell? ⟨b1, o1 + k * 2 + 1, none⟩ = some (.int .i64 y) := by rw [hW0]; exact e2
          rw [← hW0] at K0 O0 OX0 OY0 S0
          rw [← hW0]
          clear hW0 K O OX OY S d2 f0 f1 m2 mf e1 e2
          have d2 : W0.cell? ⟨w.heap.size, 2, none⟩ = some (.slice (some ⟨b1, o1, none⟩) ps.length c3) := K0.out.cell 0 2 rfl rfl
          have m2 : W0.cell? ⟨m, 2, none⟩ = some (.slice ua ul uc) := K0.out.cell 3 2 rfl rfl
          have m2' : (W0.alloc (.cells #[.int .i64 x, .int .i64 y] 147)).cell? ⟨m, 2, none⟩ = some (.slice ua ul uc) := (K0.out.alloc #[.int .i64 x, .int .i64 y] 147).cell 3 2 rfl rfl
          have HOf := hide (fun (W : World) (h : Below W0.heap.size W0 W) => O0.out.below h)
          have HKf := hide (fun (W : World) (h : Below W0.heap.size W0 W) => K0.out.up h)
          have HXf := hide (fun (W : World) (h : Below W0.heap.size W0 W) => OX0.out.below h)
          have HYf := hide (fun (W : World) (h : Below W0.heap.size W0 W) => OY0.out.below h)
          go_region_law (refine op_append_step rfl _ _ rfl (m + 1) (.slice ua ul uc) _ (HOf.out _ (by first | exact (below1 _ _).drew | exact (Below.refl _ _).drew.alloc (Nat.le_refl _) _ | exact below1 _ _)) (by simp [Act.eval, Act.put]) x y 1 W0.heap.size (by simp [Act.eval, Act.put]) (by exact heap_alloc_new _ _) (by have := HLN.out; simp; omega) (by have := S0.out; simp; omega) ?_; intro v5 w5' hown hb hq; obtain ⟨ub, uc', rfl⟩ := hown.form; have h5 := hb.size; have SS := hide (show m + 2 ≤ w5'.heap.size by have := S0.out; simp at h5; omega); clear h5; have hb := hide hb; have KK := hide ((HKf.out _ (by first | exact (below1 _ _).drew | exact (Below.refl _ _).drew.alloc (Nat.le_refl _) _ | exact below1 _ _)).seg (Seg.of_low hb.out) (by have := G.out; have := Q1.out; omega) (by have := G.out; have := Q1.out; simp; omega)); have XX := hide ((HXf.out _ (by first | exact (below1 _ _).drew | exact (Below.refl _ _).drew.alloc (Nat.le_refl _) _ | exact below1 _ _)).seg (Seg.of_low hb.out) (.inl (by have := G.out; omega))); have YY := hide ((HYf.out _ (by first | exact (below1 _ _).drew | exact (Below.refl _ _).drew.alloc (Nat.le_refl _) _ | exact below1 _ _)).seg (Seg.of_low hb.out) (.inl (by have := G.out; omega))); have OO := hide hown; have cm2 : w5'.cell? ⟨m, 2, none⟩ = some (.slice ua ul uc) := KK.out.cell 3 2 rfl rfl; have cf := KK.out.free 3 2 rfl)
          go_wp2_with fail
          all_goals have OO : Op w5' (m + 1) (.slice ub ((outK ps b (pv, pa) k).length + 1) uc') (outK ps b (pv, pa) (k + 1)) := (by rw [hst.out, show (outK ps b (pv, pa) k).length + 1 = ((outK ps b (pv, pa) k) ++ [(x, y)]).length by simp]; exact OO.out)
          all_goals exact ⟨⟨k + 1, ub, _, uc', by omega, by rw [t5], by go_num, KK.out.set 3 2 rfl _, OO.poke (by omega) _ _, XX.out.seg (Seg.setCell _ _ _ _) (.inl G.out.1), YY.out.seg (Seg.setCell _ _ _ _) (.inl G.out.2.1), by simpa [Hid] using SS.out⟩, by simp [intOf]; omega⟩
        · obtain rfl : k = b := by omega
          have t2 : decide (x > pv) = true := by have := hxb.2 rfl; simp; omega
          have t2' : decide (pv < x) = true := by have := hxb.2 rfl; simp; omega
          have hst := hide (show outK ps k (pv, pa) (k + 1) = (outK ps k (pv, pa) k ++ [(pv, pa)]) ++ [(x, y)] by rw [outK_at ps k (pv, pa) hlt, hxy.out])
          have t5 : decide (k < k + 1) = true := by simp
          go_wp2_with fail
          go_quiet (fail)
          have K1 := hide (K.out.drewN nq)
          have O1 := hide (O.out.below (below_drewN (Below.refl _ _) nq))
          have OX1 := hide (OX.out.below (below_drewN (Below.refl _ _) nq))
          have OY1 := hide (OY.out.below (below_drewN (Below.refl _ _) nq))
          have S1 := hide (show m + 2 ≤ (wr.drewN nq).heap.size from S.out)
          obtain ⟨W1, hW1⟩ : ∃ W1, W1 = wr.drewN nq := ⟨_, rfl⟩
          rw [← hW1] at K1 O1 OX1 OY1 S1
          rw [← hW1]
          clear hW1 K O OX OY S d2 f0 f1 m2 mf e1 e2
          have f0 : W1.cell? ⟨w.heap.size + 1, 0, none⟩ = some (.int .i64 pv) := K1.out.cell 1 0 rfl rfl
          have f1 : W1.cell? ⟨w.heap.size + 1, 1, none⟩ = some (.int .i64 pa) := K1.out.cell 1 1 rfl rfl
          have m2 : W1.cell? ⟨m, 2, none⟩ = some (.slice ua ul uc) := K1.out.cell 3 2 rfl rfl
          have HOf := hide (fun (W : World) (h : Below W1.heap.size W1 W) => O1.out.below h)
          have HKf := hide (fun (W : World) (h : Below W1.heap.size W1 W) => K1.out.up h)
          have HXf := hide (fun (W : World) (h : Below W1.heap.size W1 W) => OX1.out.below h)
          have HYf := hide (fun (W : World) (h : Below W1.heap.size W1 W) => OY1.out.below h)
          go_wp2_with (first | (at_builtin; refine op_append_list _ rfl _ _ rfl (m + 1) (.slice ua ul uc) _ (HOf.out _ (by first | exact (below1 _ _).drew | exact (Below.refl _ _).drew.alloc (Nat.le_refl _) _ | exact below1 _ _)) rfl pv pa 1 W1.heap.size rfl (by exact heap_alloc_new _ _) (by have := HLN.out; omega) (by have := S1.out; simp; omega) ?_; intro v8 w8 hown hb hq; obtain ⟨ua8, uc8, rfl⟩ := hown.form; have h5 := hb.size; have SS := hide (show m + 2 ≤ w8.heap.size by have := S1.out; simp at h5; omega); clear h5; have hb := hide hb; have KK := hide ((HKf.out _ (by first | exact (below1 _ _).drew | exact (Below.refl _ _).drew.alloc (Nat.le_refl _) _ | exact below1 _ _)).seg (Seg.of_low hb.out) (by have := G.out; have := Q1.out; omega) (by have := G.out; have := Q1.out; simp; omega)); have XX := hide ((HXf.out _ (by first | exact (below1 _ _).drew | exact (Below.refl _ _).drew.alloc (Nat.le_refl _) _ | exact below1 _ _)).seg (Seg.of_low hb.out) (.inl (by have := G.out; omega))); have YY := hide ((HYf.out _ (by first | exact (below1 _ _).drew | exact (Below.refl _ _).drew.alloc (Nat.le_refl _) _ | exact below1 _ _)).seg (Seg.of_low hb.out) (.inl (by have := G.out; omega))); have OO := hide hown; have cm2 : w8.cell? ⟨m, 2, none⟩ = some (.slice ua ul uc) := KK.out.cell 3 2 rfl rfl; have cf := KK.out.free 3 2 rfl) | fail)
          have OO : Hid (Op w8 (m + 1) (.slice ua8 ((outK ps k (pv, pa) k).length + 1) uc8) (outK ps k (pv, pa) k ++ [(pv, pa)])) := by have h := OO.out; rw [List.length_append] at h; exact h
          have K0 := hide (KK.out.set 3 2 rfl (.slice ua8 ((outK ps k (pv, pa) k).length + 1) uc8))
          have O0 := hide (OO.out.poke (m := m) (by omega) 2 (.slice ua8 ((outK ps k (pv, pa) k).length + 1) uc8))
          have OX0 := hide (XX.out.seg (Seg.setCell _ m 2 (.slice ua8 ((outK ps k (pv, pa) k).length + 1) uc8)) (.inl G.out.1))
          have OY0 := hide (YY.out.seg (Seg.setCell _ m 2 (.slice ua8 ((outK ps k (pv, pa) k).length + 1) uc8)) (.inl G.out.2.1))
          have S0 := hide (show m + 2 ≤ (w8.setCell ⟨m, 2, none⟩ (.slice ua8 ((outK ps k (pv, pa) k).length + 1) uc8)).heap.size by simpa [Hid] using SS.out)
          obtain ⟨W0, hW0⟩ : ∃ W0, W0 = w8.setCell ⟨m, 2, none⟩ (.slice ua8 ((outK ps k (pv, pa) k).length + 1) uc8) := ⟨_, rfl⟩
          rw [← hW0] at K0 O0 OX0 OY0 S0
          rw [← hW0]
          clear hW0 KK OO XX YY SS hb hq cm2 cf f0 f1 m2 HOf HKf HXf HYf K1 O1 OX1 OY1 S1 hown
          have E1 := (HE.out W0 K0.out.below).1
          have E2 := (HE.out W0 K0.out.below).2
          have d2 : W0.cell? ⟨w.heap.size, 2, none⟩ = some (.slice (some ⟨b1, o1, none⟩) ps.length c3) := K0.out.cell 0 2 rfl rfl
          have m2 : W0.cell? ⟨m, 2, none⟩ = some (.slice ua8 ((outK ps k (pv, pa) k).length + 1) uc8) := K0.out.cell 3 2 rfl rfl
          have m2' : (W0.alloc (.cells #[.int .i64 x, .int .i64 y] 147)).cell? ⟨m, 2, none⟩ = some (.slice ua8 ((outK ps k (pv, pa) k).length + 1) uc8) := (K0.out.alloc #[.int .i64 x, .int .i64 y] 147).cell 3 2 rfl rfl
          have HOf := hide (fun (W : World) (h : Below W0.heap.size W0 W) => O0.out.below h)
          have HKf := hide (fun (W : World) (h : Below W0.heap.size W0 W) => K0.out.up h)
          have HXf := hide (fun (W : World) (h : Below W0.heap.size W0 W) => OX0.out.below h)
          have HYf := hide (fun (W : World) (h : Below W0.heap.size W0 W) => OY0.out.below h)
          go_region_law (refine op_append_step rfl _ _ rfl (m + 1) (.slice ua8 ((outK ps k (pv, pa) k).length + 1) uc8) _ (HOf.out _ (by first | exact (below1 _ _).drew | exact (Below.refl _ _).drew.alloc (Nat.le_refl _) _ | exact below1 _ _)) (by simp [Act.eval, Act.put]) x y 1 W0.heap.size (by simp [Act.eval, Act.put]) (by exact heap_alloc_new _ _) (by have := HLN.out; simp; omega) (by have := S0.out; simp; omega) ?_; intro v5 w5' hown hb hq; obtain ⟨ub, uc', rfl⟩ := hown.form; have h5 := hb.size; have SS := hide (show m + 2 ≤ w5'.heap.size by have := S0.out; simp at h5; omega); clear h5; have hb := hide hb; have KK := hide ((HKf.out _ (by first | exact (below1 _ _).drew | exact (Below.refl _ _).drew.alloc (Nat.le_refl _) _ | exact below1 _ _)).seg (Seg.of_low hb.out) (by have := G.out; have := Q1.out; omega) (by have := G.out; have := Q1.out; simp; omega)); have XX := hide ((HXf.out _ (by first | exact (below1 _ _).drew | exact (Below.refl _ _).drew.alloc (Nat.le_refl _) _ | exact below1 _ _)).seg (Seg.of_low hb.out) (.inl (by have := G.out; omega))); have YY := hide ((HYf.out _ (by first | exact (below1 _ _).drew | exact (Below.refl _ _).drew.alloc (Nat.le_refl _) _ | exact below1 _ _)).seg (Seg.of_low hb.out) (.inl (by have := G.out; omega))); have OO := hide hown; have cm2 : w5'.cell? ⟨m, 2, none⟩ = some (.slice ua8 ((outK ps k (pv, pa) k).length + 1) uc8) := KK.out.cell 3 2 rfl rfl; have cf := KK.out.free 3 2 rfl)
          go_wp2_with fail
          all_goals have OO : Op w5' (m + 1) (.slice ub ((outK ps k (pv, pa) k).length + 2) uc') (outK ps k (pv, pa) (k + 1)) := (by rw [hst.out, show (outK ps k (pv, pa) k).length + 2 = ((outK ps k (pv, pa) k ++ [(pv, pa)]) ++ [(x, y)]).length by simp]; exact OO.out)
          all_goals exact ⟨⟨k + 1, ub, _, uc', by omega, by rw [t5], by go_num, KK.out.set 3 2 rfl _, OO.poke (by omega) _ _, XX.out.seg (Seg.setCell _ _ _ _) (.inl G.out.1), YY.out.seg (Seg.setCell _ _ _ _) (.inl G.out.2.1), by simpa [Hid] using SS.out⟩, by simp [intOf]; omega⟩
    · obtain rfl : k = ps.length := by omega
      have t0' : decide (ps.length < ps.length) = false := by simp
      by_cases hbn : b < ps.length
      · have t1 : decide (b < ps.length) = true := by simp; omega
        have hO : outK ps b (pv, pa) ps.length = NN := by rw [outK_done ps b (pv, pa) hbn]; exact HNN.out
        rw [hO] at O
        have d0 : wr.cell? ⟨w.heap.size, 0, none⟩ = some (.slice a1 l.length c1) := K.out.cell 0 0 rfl rfl
        have d1 : wr.cell? ⟨w.heap.size, 1, none⟩ = some (.slice a2 r.length c2) := K.out.cell 0 1 rfl rfl
        have S8 := hide (show m + 1 ≤ wr.heap.size by have := S.out; omega)
        go_wp2_with fail
        clear d0 d1 d2 f0 f1 m2 mf hO
        go_at_call 80
        refine (CA.out _ K.out.below).mono ?_
        rintro e w9 ⟨rfl, hb⟩
        have K9 := hide (K.out.up hb)
        have O9 := hide (O.out.below hb)
        have OX9 := hide (OX.out.below hb)
        have OY9 := hide (OY.out.below hb)
        have S9 := hide (Nat.le_trans S8.out hb.size)
        obtain ⟨gz, cz, hzf⟩ := O9.out.form
        simp only [Value.slice.injEq] at hzf
        obtain ⟨hz1', hz2', hz3'⟩ := hzf
        subst hz1' hz3'
        try subst hz2'
        have OC9 := hide (show OC w9 (.slice x1 l.length k1) (.slice x2 r.length k2) (.slice ua NN.length uc) l r NN lo w9.heap.size n1 h1 n2 h2 (m + 1) w9.heap.size by
          have hg := G.out
          have hL := L.out
          have hs := S9.out
          exact ⟨OX9.out, OY9.out, Owp.of O9.out hs, ⟨hL.1, hL.2, by omega⟩, ⟨by omega, by omega, Nat.le_refl _⟩, ⟨AP.out, .inl (by omega), .inl (by omega)⟩, by omega, Nat.le_refl _⟩)
        clear hb K O OX OY O9 OX9 OY9 S8
        have HF := hide (show t0 = false → t = false from fun h => by cases ht : t with | false => rfl | true => exact absurd (HTT.out ht) (by rw [h]; decide))
        cases t0 with
        | false =>
          obtain rfl : t = false := HF.out rfl
          obtain rfl : PP = ps := by simpa [Hid] using HP
          have d0 : w9.cell? ⟨w.heap.size, 0, none⟩ = some (.slice a1 l.length c1) := K9.out.cell 0 0 rfl rfl
          have d1 : w9.cell? ⟨w.heap.size, 1, none⟩ = some (.slice a2 r.length c2) := K9.out.cell 0 1 rfl rfl
          have d2 : w9.cell? ⟨w.heap.size, 2, none⟩ = some (.slice a3 PP.length c3) := K9.out.cell 0 2 rfl rfl
          go_wp2_with fail
          go_at_call 94
          refine (C0.out _ K9.out.below).mono ?_
          rintro e w8' ⟨x', y', z', lo', hi', n1', h1', n2', h2', n4, h4, rfl, q1, q2, O8, hb⟩
          obtain ⟨v1, j1, rfl⟩ := O8.x.form
          obtain ⟨v2, j2, rfl⟩ := O8.y.form
          obtain ⟨v3, j4, rfl⟩ := O8.z.own.form
          have K8 := hide (K9.out.up hb)
          have P3 := hide (Nat.le_trans K9.out.below.size q1)
          have P5 := hide (Nat.lt_of_lt_of_le (K9.out.lt 2 rfl) q1)
          have O8 := hide O8
          clear d0 d1 d2 hb q1 q2 K9
          have g0 : w8'.cell? ⟨w.heap.size + 1 + 1, 0, none⟩ = some (.slice none 0 0) := K8.out.cell 2 0 rfl rfl
          have g1 : w8'.cell? ⟨w.heap.size + 1 + 1, 1, none⟩ = some (.slice none 0 0) := K8.out.cell 2 1 rfl rfl
          have g2 : w8'.cell? ⟨w.heap.size + 1 + 1, 2, none⟩ = some (.slice none 0 0) := K8.out.cell 2 2 rfl rfl
          have f0 := K8.out.free 2 0 rfl
          have f1 := K8.out.free 2 1 rfl
          have f2 := K8.out.free 2 2 rfl
          go_wp2_with fail
          have Z := ((K8.out.set 2 0 rfl (.slice v1 l.length j1)).set 2 1 rfl (.slice v2 r.length j2)).set 2 2 rfl (.slice v3 PP.length j4)
          have z0 := Z.cell 2 0 rfl rfl
          have z1 := Z.cell 2 1 rfl rfl
          have z2 := Z.cell 2 2 rfl rfl
          have O9 := O8.out.seg (seg3 _ (w.heap.size + 1 + 1) (.slice v1 l.length j1) (.slice v2 r.length j2) (.slice v3 PP.length j4)) (.inr P5.out)
          exact bodyPost_ret (v := .tuple #[.agg #[.slice v1 l.length j1, .slice v2 r.length j2, .slice v3 PP.length j4], .bool false]) (by simp [results, Try.results127, go_sem, z0, z1, z2]) rfl
            ⟨_, _, _, lo', hi', n1', h1', n2', h2', n4, h4, rfl, P3.out, O9.top.2, O9, Z.below⟩
        | true =>
          have b0 : w9.cell? ⟨m, 0, none⟩ = some (.slice x1 l.length k1) := K9.out.cell 3 0 rfl rfl
          have b1 : w9.cell? ⟨m, 1, none⟩ = some (.slice x2 r.length k2) := K9.out.cell 3 1 rfl rfl
          have b3 : w9.cell? ⟨m, 2, none⟩ = some (.slice ua NN.length uc) := K9.out.cell 3 2 rfl rfl
          go_wp2_with fail
          go_at_call 80
          refine (CI.out _ _ _ _ _ _ _ _ _ _ _ _ OC9.out).mono ?_
          rintro e w10 ⟨rfl, hb⟩
          have K10 := hide (K9.out.up hb)
          have O10 := hide (OC9.out.below hb)
          have hs10 := hide (Nat.le_refl w9.heap.size)
          clear hb K9 OC9 b0 b1 b3
          cases t with
          | true =>
            obtain rfl : PP = NN := by simpa [Hid] using HP
            have g0 : w10.cell? ⟨w.heap.size + 1 + 1, 0, none⟩ = some (.slice none 0 0) := K10.out.cell 2 0 rfl rfl
            have g1 : w10.cell? ⟨w.heap.size + 1 + 1, 1, none⟩ = some (.slice none 0 0) := K10.out.cell 2 1 rfl rfl
            have g2 : w10.cell? ⟨w.heap.size + 1 + 1, 2, none⟩ = some (.slice none 0 0) := K10.out.cell 2 2 rfl rfl
            have f0 := K10.out.free 2 0 rfl
            have f1 := K10.out.free 2 1 rfl
            have f2 := K10.out.free 2 2 rfl
            have b0 : w10.cell? ⟨m, 0, none⟩ = some (.slice x1 l.length k1) := K10.out.cell 3 0 rfl rfl
            have b1 : w10.cell? ⟨m, 1, none⟩ = some (.slice x2 r.length k2) := K10.out.cell 3 1 rfl rfl
            have b3 : w10.cell? ⟨m, 2, none⟩ = some (.slice ua PP.length uc) := K10.out.cell 3 2 rfl rfl
            go_wp2_with fail
            have Z := ((K10.out.set 2 0 rfl (.slice x1 l.length k1)).set 2 1 rfl (.slice x2 r.length k2)).set 2 2 rfl (.slice ua PP.length uc)
            have z0 := Z.cell 2 0 rfl rfl
            have z1 := Z.cell 2 1 rfl rfl
            have z2 := Z.cell 2 2 rfl rfl
            have hq1 := Q1.out
            have O8 := O10.out.seg (seg3 _ (w.heap.size + 1 + 1) (.slice x1 l.length k1) (.slice x2 r.length k2) (.slice ua PP.length uc)) (.inr (by omega))
            exact bodyPost_ret (v := .tuple #[.agg #[.slice x1 l.length k1, .slice x2 r.length k2, .slice ua PP.length uc], .bool true]) (by simp [results, Try.results127, go_sem, z0, z1, z2]) rfl
              ⟨_, _, _, lo, w9.heap.size, n1, h1, n2, h2, _, _, rfl, by omega, O8.top.2, O8, Z.below⟩
          | false =>
            obtain rfl : PP = ps := by simpa [Hid] using HP
            have d0 : w10.cell? ⟨w.heap.size, 0, none⟩ = some (.slice a1 l.length c1) := K10.out.cell 0 0 rfl rfl
            have d1 : w10.cell? ⟨w.heap.size, 1, none⟩ = some (.slice a2 r.length c2) := K10.out.cell 0 1 rfl rfl
            have d2 : w10.cell? ⟨w.heap.size, 2, none⟩ = some (.slice a3 PP.length c3) := K10.out.cell 0 2 rfl rfl
            go_wp2_with fail
            go_at_call 94
            refine (C0.out _ K10.out.below).mono ?_
            rintro e w8' ⟨x', y', z', lo', hi', n1', h1', n2', h2', n4, h4, rfl, q1, q2, O8, hb⟩
            obtain ⟨v1, j1, rfl⟩ := O8.x.form
            obtain ⟨v2, j2, rfl⟩ := O8.y.form
            obtain ⟨v3, j4, rfl⟩ := O8.z.own.form
            have K8 := hide (K10.out.up hb)
            have P3 := hide (Nat.le_trans K10.out.below.size q1)
            have P5 := hide (Nat.lt_of_lt_of_le (K10.out.lt 2 rfl) q1)
            have O8 := hide O8
            clear d0 d1 d2 hb q1 q2 K10
            have g0 : w8'.cell? ⟨w.heap.size + 1 + 1, 0, none⟩ = some (.slice none 0 0) := K8.out.cell 2 0 rfl rfl
            have g1 : w8'.cell? ⟨w.heap.size + 1 + 1, 1, none⟩ = some (.slice none 0 0) := K8.out.cell 2 1 rfl rfl
            have g2 : w8'.cell? ⟨w.heap.size + 1 + 1, 2, none⟩ = some (.slice none 0 0) := K8.out.cell 2 2 rfl rfl
            have f0 := K8.out.free 2 0 rfl
            have f1 := K8.out.free 2 1 rfl
            have f2 := K8.out.free 2 2 rfl
            go_wp2_with fail
            have Z := ((K8.out.set 2 0 rfl (.slice v1 l.length j1)).set 2 1 rfl (.slice v2 r.length j2)).set 2 2 rfl (.slice v3 PP.length j4)
            have z0 := Z.cell 2 0 rfl rfl
            have z1 := Z.cell 2 1 rfl rfl
            have z2 := Z.cell 2 2 rfl rfl
            have O9 := O8.out.seg (seg3 _ (w.heap.size + 1 + 1) (.slice v1 l.length j1) (.slice v2 r.length j2) (.slice v3 PP.length j4)) (.inr P5.out)
            exact bodyPost_ret (v := .tuple #[.agg #[.slice v1 l.length j1, .slice v2 r.length j2, .slice v3 PP.length j4], .bool false]) (by simp [results, Try.results127, go_sem, z0, z1, z2]) rfl
              ⟨_, _, _, lo', hi', n1', h1', n2', h2', n4, h4, rfl, P3.out, O9.top.2, O9, Z.below⟩
      · obtain rfl : b = ps.length := by omega
        have hO : outK ps ps.length (pv, pa) ps.length ++ [(pv, pa)] = NN := by rw [outK_end ps (pv, pa)]; exact HNN.out
        have t1 : decide (ps.length < ps.length) = false := by simp
        have HLN := hide (outK_length ps ps.length (pv, pa) ps.length (Nat.le_refl _) (Nat.le_refl _))
        have HOf := hide (fun (W : World) (h : Below wr.heap.size wr W) => O.out.below h)
        have HKf := hide (fun (W : World) (h : Below wr.heap.size wr W) => K.out.up h)
        have HXf := hide (fun (W : World) (h : Below wr.heap.size wr W) => OX.out.below h)
        have HYf := hide (fun (W : World) (h : Below wr.heap.size wr W) => OY.out.below h)
        have m2' : (wr.alloc (.cells #[.int .i64 pv, .int .i64 pa] 147)).cell? ⟨m, 2, none⟩ = some (.slice ua ul uc) := (K.out.alloc #[.int .i64 pv, .int .i64 pa] 147).cell 3 2 rfl rfl
        go_wp2_with (first | (at_builtin; refine op_append_list _ rfl _ _ rfl (m + 1) (.slice ua ul uc) _ (HOf.out _ (by first | exact (below1 _ _).drew | exact (Below.refl _ _).drew.alloc (Nat.le_refl _) _ | exact below1 _ _)) rfl pv pa 1 wr.heap.size rfl (by exact heap_alloc_new _ _) (by have := HLN.out; omega) (by have := S.out; simp; omega) ?_; intro v8 w8 hown hb hq; obtain ⟨ub, uc', rfl⟩ := hown.form; have h5 := hb.size; have SS := hide (show m + 2 ≤ w8.heap.size by have := S.out; simp at h5; omega); clear h5; have hb := hide hb; have KK := hide ((HKf.out _ (by first | exact (below1 _ _).drew | exact (Below.refl _ _).drew.alloc (Nat.le_refl _) _ | exact below1 _ _)).seg (Seg.of_low hb.out) (by have := G.out; have := Q1.out; omega) (by have := G.out; have := Q1.out; simp; omega)); have XX := hide ((HXf.out _ (by first | exact (below1 _ _).drew | exact (Below.refl _ _).drew.alloc (Nat.le_refl _) _ | exact below1 _ _)).seg (Seg.of_low hb.out) (.inl (by have := G.out; omega))); have YY := hide ((HYf.out _ (by first | exact (below1 _ _).drew | exact (Below.refl _ _).drew.alloc (Nat.le_refl _) _ | exact below1 _ _)).seg (Seg.of_low hb.out) (.inl (by have := G.out; omega))); have OO := hide hown; have cm2 : w8.cell? ⟨m, 2, none⟩ = some (.slice ua ul uc) := KK.out.cell 3 2 rfl rfl; have cf := KK.out.free 3 2 rfl; have K9 := hide (KK.out.set 3 2 rfl (.slice ub NN.length uc')); have d0 : (w8.setCell ⟨m, 2, none⟩ (.slice ub NN.length uc')).cell? ⟨w.heap.size, 0, none⟩ = some (.slice a1 l.length c1) := K9.out.cell 0 0 rfl rfl; have d1 : (w8.setCell ⟨m, 2, none⟩ (.slice ub NN.length uc')).cell? ⟨w.heap.size, 1, none⟩ = some (.slice a2 r.length c2) := K9.out.cell 0 1 rfl rfl; have d2 : (w8.setCell ⟨m, 2, none⟩ (.slice ub NN.length uc')).cell? ⟨w.heap.size, 2, none⟩ = some (.slice a3 ps.length c3) := K9.out.cell 0 2 rfl rfl) | fail)
        have OO : Hid (Op w8 (m + 1) (.slice ub NN.length uc') NN) := by have h := OO.out; rw [hO] at h; exact h
        have O := hide (OO.out.poke (m := m) (by omega) 2 (.slice ub NN.length uc'))
        have OX := hide (XX.out.seg (Seg.setCell _ m 2 (.slice ub NN.length uc')) (.inl G.out.1))
        have OY := hide (YY.out.seg (Seg.setCell _ m 2 (.slice ub NN.length uc')) (.inl G.out.2.1))
        have S8 := hide (show m + 1 ≤ (w8.setCell ⟨m, 2, none⟩ (.slice ub NN.length uc')).heap.size by have := SS.out; simp; omega)
        have K : Hid (Kn w (w8.setCell ⟨m, 2, none⟩ (.slice ub NN.length uc')) [(w.heap.size, #[.slice a1 l.length c1, .slice a2 r.length c2, .slice a3 ps.length c3], 25), (w.heap.size + 1, #[.int .i64 pv, .int .i64 pa], 147), (w.heap.size + 1 + 1, #[.slice none 0 0, .slice none 0 0, .slice none 0 0], 25), (m, #[.slice x1 l.length k1, .slice x2 r.length k2, .slice ub NN.length uc'], 25)]) := K9.out
        obtain ⟨W0, hW0⟩ : ∃ W0, W0 = w8.setCell ⟨m, 2, none⟩ (.slice ub NN.length uc') := ⟨_, rfl⟩
        rw [← hW0] at K O OX OY S8
        rw [← hW0]
        clear hW0 KK OO XX YY SS hb hq cm2 cf f0 f1 m2 m2' mf HOf HKf HXf HYf hown hO d0 d1 d2 K9
        go_at_call 80
        refine (CA.out _ K.out.below).mono ?_
        rintro e w9 ⟨rfl, hb⟩
        have K9 := hide (K.out.up hb)
        have O9 := hide (O.out.below hb)
        have OX9 := hide (OX.out.below hb)
        have OY9 := hide (OY.out.below hb)
        have S9 := hide (Nat.le_trans S8.out hb.size)
        obtain ⟨gz, cz, hzf⟩ := O9.out.form
        simp only [Value.slice.injEq] at hzf
        obtain ⟨hz1', hz2', hz3'⟩ := hzf
        subst hz1' hz3'
        try subst hz2'
        have OC9 := hide (show OC w9 (.slice x1 l.length k1) (.slice x2 r.length k2) (.slice ub NN.length uc') l r NN lo w9.heap.size n1 h1 n2 h2 (m + 1) w9.heap.size by
          have hg := G.out
          have hL := L.out
          have hs := S9.out
          exact ⟨OX9.out, OY9.out, Owp.of O9.out hs, ⟨hL.1, hL.2, by omega⟩, ⟨by omega, by omega, Nat.le_refl _⟩, ⟨AP.out, .inl (by omega), .inl (by omega)⟩, by omega, Nat.le_refl _⟩)
        clear hb K O OX OY O9 OX9 OY9 S8
        have HF := hide (show t0 = false → t = false from fun h => by cases ht : t with | false => rfl | true => exact absurd (HTT.out ht) (by rw [h]; decide))
        cases t0 with
        | false =>
          obtain rfl : t = false := HF.out rfl
          obtain rfl : PP = ps := by simpa [Hid] using HP
          have d0 : w9.cell? ⟨w.heap.size, 0, none⟩ = some (.slice a1 l.length c1) := K9.out.cell 0 0 rfl rfl
          have d1 : w9.cell? ⟨w.heap.size, 1, none⟩ = some (.slice a2 r.length c2) := K9.out.cell 0 1 rfl rfl
          have d2 : w9.cell? ⟨w.heap.size, 2, none⟩ = some (.slice a3 PP.length c3) := K9.out.cell 0 2 rfl rfl
          go_wp2_with fail
          go_at_call 94
          refine (C0.out _ K9.out.below).mono ?_
          rintro e w8' ⟨x', y', z', lo', hi', n1', h1', n2', h2', n4, h4, rfl, q1, q2, O8, hb⟩
          obtain ⟨v1, j1, rfl⟩ := O8.x.form
          obtain ⟨v2, j2, rfl⟩ := O8.y.form
          obtain ⟨v3, j4, rfl⟩ := O8.z.own.form
          have K8 := hide (K9.out.up hb)
          have P3 := hide (Nat.le_trans K9.out.below.size q1)
          have P5 := hide (Nat.lt_of_lt_of_le (K9.out.lt 2 rfl) q1)
          have O8 := hide O8
          clear d0 d1 d2 hb q1 q2 K9
          have g0 : w8'.cell? ⟨w.heap.size + 1 + 1, 0, none⟩ = some (.slice none 0 0) := K8.out.cell 2 0 rfl rfl
          have g1 : w8'.cell? ⟨w.heap.size + 1 + 1, 1, none⟩ = some (.slice none 0 0) := K8.out.cell 2 1 rfl rfl
          have g2 : w8'.cell? ⟨w.heap.size + 1 + 1, 2, none⟩ = some (.slice none 0 0) := K8.out.cell 2 2 rfl rfl
          have f0 := K8.out.free 2 0 rfl
          have f1 := K8.out.free 2 1 rfl
          have f2 := K8.out.free 2 2 rfl
          go_wp2_with fail
          have Z := ((K8.out.set 2 0 rfl (.slice v1 l.length j1)).set 2 1 rfl (.slice v2 r.length j2)).set 2 2 rfl (.slice v3 PP.length j4)
          have z0 := Z.cell 2 0 rfl rfl
          have z1 := Z.cell 2 1 rfl rfl
          have z2 := Z.cell 2 2 rfl rfl
          have O9 := O8.out.seg (seg3 _ (w.heap.size + 1 + 1) (.slice v1 l.length j1) (.slice v2 r.length j2) (.slice v3 PP.length j4)) (.inr P5.out)
          exact bodyPost_ret (v := .tuple #[.agg #[.slice v1 l.length j1, .slice v2 r.length j2, .slice v3 PP.length j4], .bool false]) (by simp [results, Try.results127, go_sem, z0, z1, z2]) rfl
            ⟨_, _, _, lo', hi', n1', h1', n2', h2', n4, h4, rfl, P3.out, O9.top.2, O9, Z.below⟩
        | true =>
          have b0 : w9.cell? ⟨m, 0, none⟩ = some (.slice x1 l.length k1) := K9.out.cell 3 0 rfl rfl
          have b1 : w9.cell? ⟨m, 1, none⟩ = some (.slice x2 r.length k2) := K9.out.cell 3 1 rfl rfl
          have b3 : w9.cell? ⟨m, 2, none⟩ = some (.slice ub NN.length uc') := K9.out.cell 3 2 rfl rfl
          go_wp2_with fail
          go_at_call 80
          refine (CI.out _ _ _ _ _ _ _ _ _ _ _ _ OC9.out).mono ?_
          rintro e w10 ⟨rfl, hb⟩
          have K10 := hide (K9.out.up hb)
          have O10 := hide (OC9.out.below hb)
          have hs10 := hide (Nat.le_refl w9.heap.size)
          clear hb K9 OC9 b0 b1 b3
          cases t with
          | true =>
            obtain rfl : PP = NN := by simpa [Hid] using HP
            have g0 : w10.cell? ⟨w.heap.size + 1 + 1, 0, none⟩ = some (.slice none 0 0) := K10.out.cell 2 0 rfl rfl
            have g1 : w10.cell? ⟨w.heap.size + 1 + 1, 1, none⟩ = some (.slice none 0 0) := K10.out.cell 2 1 rfl rfl
            have g2 : w10.cell? ⟨w.heap.size + 1 + 1, 2, none⟩ = some (.slice none 0 0) := K10.out.cell 2 2 rfl rfl
            have f0 := K10.out.free 2 0 rfl
            have f1 := K10.out.free 2 1 rfl
            have f2 := K10.out.free 2 2 rfl
            have b0 : w10.cell? ⟨m, 0, none⟩ = some (.slice x1 l.length k1) := K10.out.cell 3 0 rfl rfl
            have b1 : w10.cell? ⟨m, 1, none⟩ = some (.slice x2 r.length k2) := K10.out.cell 3 1 rfl rfl
            have b3 : w10.cell? ⟨m, 2, none⟩ = some (.slice ub PP.length uc') := K10.out.cell 3 2 rfl rfl
            go_wp2_with fail
            have Z := ((K10.out.set 2 0 rfl (.slice x1 l.length k1)).set 2 1 rfl (.slice x2 r.length k2)).set 2 2 rfl (.slice ub PP.length uc')
            have z0 := Z.cell 2 0 rfl rfl
            have z1 := Z.cell 2 1 rfl rfl
            have z2 := Z.cell 2 2 rfl rfl
            have hq1 := Q1.out
            have O8 := O10.out.seg (seg3 _ (w.heap.size + 1 + 1) (.slice x1 l.length k1) (.slice x2 r.length k2) (.slice ub PP.length uc')) (.inr (by omega))
            exact bodyPost_ret (v := .tuple #[.agg #[.slice x1 l.length k1, .slice x2 r.length k2, .slice ub PP.length uc'], .bool true]) (by simp [results, Try.results127, go_sem, z0, z1, z2]) rfl
              ⟨_, _, _, lo, w9.heap.size, n1, h1, n2, h2, _, _, rfl, by omega, O8.top.2, O8, Z.below⟩
          | false =>
            obtain rfl : PP = ps := by simpa [Hid] using HP
            have d0 : w10.cell? ⟨w.heap.size, 0, none⟩ = some (.slice a1 l.length c1) := K10.out.cell 0 0 rfl rfl
            have d1 : w10.cell? ⟨w.heap.size, 1, none⟩ = some (.slice a2 r.length c2) := K10.out.cell 0 1 rfl rfl
            have d2 : w10.cell? ⟨w.heap.size, 2, none⟩ = some (.slice a3 PP.length c3) := K10.out.cell 0 2 rfl rfl
            go_wp2_with fail
            go_at_call 94
            refine (C0.out _ K10.out.below).mono ?_
            rintro e w8' ⟨x', y', z', lo', hi', n1', h1', n2', h2', n4, h4, rfl, q1, q2, O8, hb⟩
            obtain ⟨v1, j1, rfl⟩ := O8.x.form
            obtain ⟨v2, j2, rfl⟩ := O8.y.form
            obtain ⟨v3, j4, rfl⟩ := O8.z.own.form
            have K8 := hide (K10.out.up hb)
            have P3 := hide (Nat.le_trans K10.out.below.size q1)
            have P5 := hide (Nat.lt_of_lt_of_le (K10.out.lt 2 rfl) q1)
            have O8 := hide O8
            clear d0 d1 d2 hb q1 q2 K10
            have g0 : w8'.cell? ⟨w.heap.size + 1 + 1, 0, none⟩ = some (.slice none 0 0) := K8.out.cell 2 0 rfl rfl
            have g1 : w8'.cell? ⟨w.heap.size + 1 + 1, 1, none⟩ = some (.slice none 0 0) := K8.out.cell 2 1 rfl rfl
            have g2 : w8'.cell? ⟨w.heap.size + 1 + 1, 2, none⟩ = some (.slice none 0 0) := K8.out.cell 2 2 rfl rfl
            have f0 := K8.out.free 2 0 rfl
            have f1 := K8.out.free 2 1 rfl
            have f2 := K8.out.free 2 2 rfl
            go_wp2_with fail
            have Z := ((K8.out.set 2 0 rfl (.slice v1 l.length j1)).set 2 1 rfl (.slice v2 r.length j2)).set 2 2 rfl (.slice v3 PP.length j4)
            have z0 := Z.cell 2 0 rfl rfl
            have z1 := Z.cell 2 1 rfl rfl
            have z2 := Z.cell 2 2 rfl rfl
            have O9 := O8.out.seg (seg3 _ (w.heap.size + 1 + 1) (.slice v1 l.length j1) (.slice v2 r.length j2) (.slice v3 PP.length j4)) (.inr P5.out)
            exact bodyPost_ret (v := .tuple #[.agg #[.slice v1 l.length j1, .slice v2 r.length j2, .slice v3 PP.length j4], .bool false]) (by simp [results, Try.results127, go_sem, z0, z1, z2]) rfl
              ⟨_, _, _, lo', hi', n1', h1', n2', h2', n4, h4, rfl, P3.out, O9.top.2, O9, Z.below⟩

end Go.Proofs.Ytepkkeclkdlheaa
