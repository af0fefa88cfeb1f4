/- What AddPivot of the program returns (promise 3). Written by gen_adi.py. -/
import Derived.Test.YtajfhalalnlejaaGreatAdC
import Derived.Test.YtajfhalalnlejaaGreatInsG
import Derived.Test.YtajfhalalnlejaaGreatCkQ
import Derived.BigQuiet
namespace Go.Proofs.YtajfhalalnlejaaGreat
open Go.RowKit Go.ChangeShapes
set_option linter.unusedSimpArgs false
set_option linter.unusedVariables false
set_option maxRecDepth 100000

set_option maxHeartbeats 8000000 in
theorem iAdd_any (v : Value) (l r : List Int) (ps : List Pv) (pv pa : Int) (w : World) (B : Nat) (hv : Ck w B v l r ps) (hwf : I64 pv ∧ I64 pa) (hB : B ≤ w.heap.size) (hl : l.length ≤ 1048576) (hr : r.length ≤ 1048576) (hp : ps.length ≤ 1048576) :
    Calls Tryz.prog 139 #[v, .agg #[.int .i64 pv, .int .i64 pa]] w (RetOCB w l r (adP l r ps (pv, pa)) (adOk l r ps (pv, pa))) := by
  obtain ⟨a1, c1, a2, c2, a3, c3, rfl, i1, i2, i3⟩ := hv.form
  obtain ⟨wl, wr, wpl, wp⟩ := hv.wf
  obtain ⟨_, _, e3, -, -, hcell⟩ := i3
  simp only [Value.slice.injEq] at e3
  obtain ⟨rfl, -, rfl⟩ := e3
  have HCC := hide hcell
  have V := hide hv
  clear hv i1 i2 hcell
  obtain ⟨t, ht⟩ : ∃ t, t = adOk l r ps (pv, pa) := ⟨_, rfl⟩
  obtain ⟨PP, hPP⟩ : ∃ PP, PP = adP l r ps (pv, pa) := ⟨_, rfl⟩
  obtain ⟨NN, hNN⟩ : ∃ NN, NN = adIn ps (pv, pa) := ⟨_, rfl⟩
  have HT := hide (show t = isCk l r NN by rw [ht, hNN]; rfl)
  have HP := hide (show PP = if t = true then NN else ps by rw [hPP, ht, hNN]; rfl)
  have HNL := hide (show NN.length = ps.length + 1 by rw [hNN]; exact adIn_length _ _)
  have HNW := hide (show ∀ q ∈ NN, I64 q.1 ∧ I64 q.2 by rw [hNN]; exact adIn_wf wp hwf)
  rw [← ht, ← hPP]
  obtain ⟨b, hb⟩ : ∃ b, b = behind ps pv := ⟨_, rfl⟩
  have HNN := hide (show insAt ps b (pv, pa) = NN by rw [hb, hNN]; rfl)
  have hble := behind_le ps pv
  have HB1 := hide (fun (k : Nat) (hk : k < ps.length) => behind_before ps pv k hk)
  have HB2 := hide (behind_at ps pv)
  rw [← hb] at hble
  have HBE := hide hb
  have HWL := hide wl
  have HWR := hide wr
  clear ht hPP hNN hb wl wr wpl wp
  have C0 := hide (fun (W : World) (h : Below w.heap.size w W) => iCopy_any _ l r ps W B (V.out.below h hB) (Nat.le_trans hB h.size) hl hr hp)
  have CI := hide (fun (W : World) (x y z : Value) (lo hi p1 q1 p2 q2 p3 q3 : Nat) (h : OC W x y z l r NN lo hi p1 q1 p2 q2 p3 q3) => show Calls Tryz.prog 33 #[.agg #[x, y, z]] W (RetB1 W t) by rw [HT.out]; exact iIsCk_any _ l r NN W W.heap.size (h.ck HWL.out HWR.out (by rw [HNL.out]; omega) HNW.out) (Nat.le_refl _))
  have X := hide (Kn.three w #[.slice a1 l.length c1, .slice a2 r.length c2, .slice a3 ps.length c3] #[.int .i64 pv, .int .i64 pa] #[.slice none 0 0, .slice none 0 0, .slice none 0 0] 33 133 33)
  obtain ⟨w1, hw1⟩ : ∃ w1, w1 = ((w.alloc (.cells #[.slice a1 l.length c1, .slice a2 r.length c2, .slice a3 ps.length c3] 33)).alloc (.cells #[.int .i64 pv, .int .i64 pa] 133)).alloc (.cells #[.slice none 0 0, .slice none 0 0, .slice none 0 0] 33) := ⟨_, rfl⟩
  have hz1 := hide (show w1.heap.size = w.heap.size + 1 + 1 + 1 by rw [hw1]; simp)
  rw [← hw1] at X
  go_enter Tryz.func139, Tryz.ntmps139
  go_wp2_with fail
  rw [← hw1]
  clear hw1
  go_loopw [6] (fun u wr => ∃ (k : Nat), k ≤ b ∧ u = .int .i64 k ∧ Hid (Kn w wr [(w.heap.size, #[.slice a1 l.length c1, .slice a2 r.length c2, .slice a3 ps.length c3], 33), (w.heap.size + 1, #[.int .i64 pv, .int .i64 pa], 133), (w.heap.size + 1 + 1, #[.slice none 0 0, .slice none 0 0, .slice none 0 0], 33)]) ∧ Hid (w1.heap.size ≤ wr.heap.size)) (fun u _ => ps.length + 1 - (intOf u).toNat)
  case atStart => exact ⟨0, by omega, rfl, X.out, Nat.le_refl _⟩
  case round =>
    clear X
    obtain ⟨k, hk, rfl, K, S0⟩ := hrel
    have d0 : wr.cell? ⟨w.heap.size, 0, none⟩ = some (.slice a1 l.length c1) := K.out.cell 0 0 rfl rfl
    have d1 : wr.cell? ⟨w.heap.size, 1, none⟩ = some (.slice a2 r.length c2) := K.out.cell 0 1 rfl rfl
    have d2 : wr.cell? ⟨w.heap.size, 2, none⟩ = some (.slice a3 ps.length c3) := K.out.cell 0 2 rfl rfl
    have f0 : wr.cell? ⟨w.heap.size + 1, 0, none⟩ = some (.int .i64 pv) := K.out.cell 1 0 rfl rfl
    have f1 : wr.cell? ⟨w.heap.size + 1, 1, none⟩ = some (.int .i64 pa) := K.out.cell 1 1 rfl rfl
    by_cases hlt : k < b
    · have hkn : k < ps.length := by omega
      obtain ⟨b1, o1, rfl, hb1, hc1, hc2⟩ := HCC.out k hkn
      obtain ⟨x, hx⟩ : ∃ x, x = ps[k].1 := ⟨_, rfl⟩
      rw [← hx] at hc1
      have hxv : x ≤ pv := by rw [hx]; exact HB1.out k hkn (by rw [← HBE.out]; exact hlt)
      have e1 : wr.cell? ⟨b1, o1 + k * 2, none⟩ = some (.int .i64 x) := by rw [K.out.below.cell (p := ⟨b1, o1 + k * 2, none⟩) (Nat.lt_of_lt_of_le hb1 hB)]; exact hc1
      have t1 : decide (k < ps.length) = true := by simp; omega
      have t2 : decide (x ≤ pv) = true := by simp; omega
      have t3 : (k : Int) < (ps.length : Int) := by omega
      have S1 := hide S0.out
      clear hc1 hc2 hb1 hx
      go_wp2_with fail
      go_quiet (fail)
      go_wp2_with fail
      go_roundw
      case rel => exact ⟨k + 1, by omega, by go_num, K.out.drewN _, S1.out⟩
      case measure => simp [intOf]; omega
    · obtain rfl : k = b := by omega
      have hq : (k < ps.length ∧ ∃ x b1 o1, a3 = some ⟨b1, o1, none⟩ ∧ wr.cell? ⟨b1, o1 + k * 2, none⟩ = some (.int .i64 x) ∧ pv < x) ∨ k = ps.length := by
        by_cases hkn : k < ps.length
        · refine .inl ⟨hkn, ?_⟩
          obtain ⟨b1, o1, ha, hb1, hc1, -⟩ := HCC.out k hkn
          refine ⟨ps[k].1, b1, o1, ha, by rw [K.out.below.cell (p := ⟨b1, o1 + k * 2, none⟩) (Nat.lt_of_lt_of_le hb1 hB)]; exact hc1, ?_⟩
          have := HB2.out (by rw [← HBE.out]; exact hkn)
          simp only [← HBE.out] at this
          exact this
        · exact .inr (by omega)
      rcases hq with ⟨hkn, x, b1, o1, rfl, e1, hxv⟩ | hkn
      · have t1 : decide (k < ps.length) = true := by simp; omega
        have t2 : decide (x ≤ pv) = false := by simp; omega
        have t3 : (k : Int) < (ps.length : Int) := by omega
        go_wp2_with fail
        go_quiet (fail)
        go_wp2_with fail
        clear e1 t1 t2 t3 hxv hkn
        go_at_call 66
        have K0 := hide (K.out.drewN nq)
        have hS0 : w1.heap.size ≤ (wr.drewN nq).heap.size := S0.out
        refine (C0.out _ K0.out.below).mono ?_
        rintro e w2 ⟨x, y, z, lo, hi, n1, h1, n2, h2, n3, h3, rfl, q1, q2, O, hb⟩
        obtain ⟨x1, k1, rfl⟩ := O.x.form
        obtain ⟨x2, k2, rfl⟩ := O.y.form
        obtain ⟨x3, k3, rfl⟩ := O.z.own.form
        have Q1 := hide (show w.heap.size + 1 + 1 + 1 ≤ lo by have := hz1.out; omega)
        have X2 := hide (K0.out.up hb)
        have X3 := hide (X2.out.alloc #[.slice x1 l.length k1, .slice x2 r.length k2, .slice x3 ps.length k3] 33)
        have O3 := hide (O.below (below1 w2 (.cells #[.slice x1 l.length k1, .slice x2 r.length k2, .slice x3 ps.length k3] 33)))
        obtain ⟨m, hm⟩ : ∃ m, m = w2.heap.size := ⟨_, rfl⟩
        obtain ⟨w3, hw3⟩ : ∃ w3, w3 = w2.alloc (.cells #[.slice x1 l.length k1, .slice x2 r.length k2, .slice x3 ps.length k3] 33) := ⟨_, rfl⟩
        have S3 := hide (show w3.heap.size = m + 1 by rw [hw3, hm]; simp)
        rw [← hw3] at X3 O3
        rw [← hm] at X3 q2
        have Q2 := hide q2
        simp only [List.cons_append, List.nil_append] at X3
        have X4 := hide (X3.out.alloc #[.int .i64 pv, .int .i64 pa] 133)
        have O4 := hide (O3.out.below (below1 w3 (.cells #[.int .i64 pv, .int .i64 pa] 133)))
        obtain ⟨w4, hw4⟩ : ∃ w4, w4 = w3.alloc (.cells #[.int .i64 pv, .int .i64 pa] 133) := ⟨_, rfl⟩
        have S4 := hide (show w4.heap.size = m + 2 by rw [hw4]; have := S3.out; simp; omega)
        have b2 : w3.cell? ⟨m, 2, none⟩ = some (.slice x3 ps.length k3) := X3.out.cell 3 2 rfl rfl
        have p0 : w3.cell? ⟨w.heap.size + 1, 0, none⟩ = some (.int .i64 pv) := X3.out.cell 1 0 rfl rfl
        have p1 : w3.cell? ⟨w.heap.size + 1, 1, none⟩ = some (.int .i64 pa) := X3.out.cell 1 1 rfl rfl
        rw [← hw4] at X4 O4
        rw [S3.out] at X4
        simp only [List.cons_append, List.nil_append] at X4
        rw [hw3] at b2 p0 p1
        rw [hm] at b2
        clear O hb X2 X3 O3 q1 q2 d0 d1 d2 f0 f1 K K0 S0 hS0
        go_wp2_with fail
        rw [← hw3]
        try rw [← hw4]
        try rw [← hm]
        clear b2 p0 p1 hw3 hw4 hm
        go_at_call 153
        refine (ins_any x3 k3 k (m + 1) 1 pv pa ps n3 h3 w4 O4.out.z hble (X4.out.mem 4 rfl) (by have := O4.out.high; have := Q2.out; omega) hp).mono ?_
        rintro e w5 ⟨z', rfl, hz, s⟩
        obtain ⟨L5a, L5b, L5c⟩ := O4.out.low
        obtain ⟨G5a, G5b, G5c⟩ := O4.out.high
        have hq1 := Q1.out
        have hq2 := Q2.out
        have hs4 := S4.out
        have hle := O4.out.z.le
        have K5 := hide (X4.out.seg s (by omega) (by simp; omega))
        obtain ⟨n3', h3', O5, hd⟩ := O4.out.ins s hz
        rw [HNN.out] at O5
        obtain ⟨y3, j3, rfl⟩ := O5.z.own.form
        have O6 := hide (O5.seg' (Seg.setCell w5 m 2 (.slice y3 NN.length j3)) (by omega) (by omega) (by omega))
        clear L5a L5b L5c G5a G5b G5c hq1 hq2 hs4 hle hd
        have K6 := hide (K5.out.set 3 2 rfl (.slice y3 NN.length j3))
        have b2 : w5.cell? ⟨m, 2, none⟩ = some (.slice x3 ps.length k3) := K5.out.cell 3 2 rfl rfl
        have bf := K5.out.free 3 2 rfl
        obtain ⟨w6, hw6⟩ : ∃ w6, w6 = w5.setCell ⟨m, 2, none⟩ (.slice y3 NN.length j3) := ⟨_, rfl⟩
        rw [← hw6] at O6 K6
        have b0 : w6.cell? ⟨m, 0, none⟩ = some (.slice x1 l.length k1) := K6.out.cell 3 0 rfl rfl
        have b1 : w6.cell? ⟨m, 1, none⟩ = some (.slice x2 r.length k2) := K6.out.cell 3 1 rfl rfl
        have b3 : w6.cell? ⟨m, 2, none⟩ = some (.slice y3 NN.length j3) := K6.out.cell 3 2 rfl rfl
        rw [hw6] at b0 b1 b3
        clear s hz O5 X4 O4 K5
        go_wp2_with fail
        rw [← hw6]
        clear b0 b1 b2 b3 bf hw6
        go_at_call 33
        refine (CI.out _ _ _ _ _ _ _ _ _ _ _ _ O6.out).mono ?_
        rintro e w7 ⟨rfl, hb⟩
        have K7 := hide (K6.out.up hb)
        have O7 := hide (O6.out.below hb)
        clear hb K6 O6
        have g0 : w7.cell? ⟨w.heap.size + 1 + 1, 0, none⟩ = some (.slice none 0 0) := K7.out.cell 2 0 rfl rfl
        have g1 : w7.cell? ⟨w.heap.size + 1 + 1, 1, none⟩ = some (.slice none 0 0) := K7.out.cell 2 1 rfl rfl
        have g2 : w7.cell? ⟨w.heap.size + 1 + 1, 2, none⟩ = some (.slice none 0 0) := K7.out.cell 2 2 rfl rfl
        have f0 := K7.out.free 2 0 rfl
        have f1 := K7.out.free 2 1 rfl
        have f2 := K7.out.free 2 2 rfl
        cases t with
        | true =>
          obtain rfl : PP = NN := by simpa [Hid] using HP
          have b0 : w7.cell? ⟨m, 0, none⟩ = some (.slice x1 l.length k1) := K7.out.cell 3 0 rfl rfl
          have b1 : w7.cell? ⟨m, 1, none⟩ = some (.slice x2 r.length k2) := K7.out.cell 3 1 rfl rfl
          have b3 : w7.cell? ⟨m, 2, none⟩ = some (.slice y3 PP.length j3) := K7.out.cell 3 2 rfl rfl
          go_wp2_with fail
          have Z := ((K7.out.set 2 0 rfl (.slice x1 l.length k1)).set 2 1 rfl (.slice x2 r.length k2)).set 2 2 rfl (.slice y3 PP.length j3)
          have z0 := Z.cell 2 0 rfl rfl
          have z1 := Z.cell 2 1 rfl rfl
          have z2 := Z.cell 2 2 rfl rfl
          have hq1 := Q1.out
          have O8 := O7.out.seg (seg3 _ (w.heap.size + 1 + 1) (.slice x1 l.length k1) (.slice x2 r.length k2) (.slice y3 PP.length j3)) (.inr (by omega))
          exact bodyPost_ret (v := .tuple #[.agg #[.slice x1 l.length k1, .slice x2 r.length k2, .slice y3 PP.length j3], .bool true]) (by simp [results, Tryz.results139, go_sem, z0, z1, z2]) rfl
            ⟨_, _, _, lo, w5.heap.size, n1, h1, n2, h2, n3', h3', rfl, by omega, O8.top.2, O8, Z.below⟩
        | false =>
          obtain rfl : PP = ps := by simpa [Hid] using HP
          have d0 : w7.cell? ⟨w.heap.size, 0, none⟩ = some (.slice a1 l.length c1) := K7.out.cell 0 0 rfl rfl
          have d1 : w7.cell? ⟨w.heap.size, 1, none⟩ = some (.slice a2 r.length c2) := K7.out.cell 0 1 rfl rfl
          have d2 : w7.cell? ⟨w.heap.size, 2, none⟩ = some (.slice (some ⟨b1, o1, none⟩) PP.length c3) := K7.out.cell 0 2 rfl rfl
          clear g0 g1 g2 f0 f1 f2
          go_wp2_with fail
          go_at_call 66
          refine (C0.out _ K7.out.below).mono ?_
          rintro e w8 ⟨x', y', z', lo', hi', n1', h1', n2', h2', n4, h4, rfl, q1, q2, O8, hb⟩
          obtain ⟨v1, j1, rfl⟩ := O8.x.form
          obtain ⟨v2, j2, rfl⟩ := O8.y.form
          obtain ⟨v3, j4, rfl⟩ := O8.z.own.form
          have K8 := hide (K7.out.up hb)
          have P3 := hide (Nat.le_trans K7.out.below.size q1)
          have P5 := hide (Nat.lt_of_lt_of_le (K7.out.lt 2 rfl) q1)
          have O8 := hide O8
          clear d0 d1 d2 hb q1 q2 K7 O7
          have g0 : w8.cell? ⟨w.heap.size + 1 + 1, 0, none⟩ = some (.slice none 0 0) := K8.out.cell 2 0 rfl rfl
          have g1 : w8.cell? ⟨w.heap.size + 1 + 1, 1, none⟩ = some (.slice none 0 0) := K8.out.cell 2 1 rfl rfl
          have g2 : w8.cell? ⟨w.heap.size + 1 + 1, 2, none⟩ = some (.slice none 0 0) := K8.out.cell 2 2 rfl rfl
          have f0 := K8.out.free 2 0 rfl
          have f1 := K8.out.free 2 1 rfl
          have f2 := K8.out.free 2 2 rfl
          go_wp2_with fail
          have Z := ((K8.out.set 2 0 rfl (.slice v1 l.length j1)).set 2 1 rfl (.slice v2 r.length j2)).set 2 2 rfl (.slice v3 PP.length j4)
          have z0 := Z.cell 2 0 rfl rfl
          have z1 := Z.cell 2 1 rfl rfl
          have z2 := Z.cell 2 2 rfl rfl
          have O9 := O8.out.seg (seg3 _ (w.heap.size + 1 + 1) (.slice v1 l.length j1) (.slice v2 r.length j2) (.slice v3 PP.length j4)) (.inr P5.out)
          exact bodyPost_ret (v := .tuple #[.agg #[.slice v1 l.length j1, .slice v2 r.length j2, .slice v3 PP.length j4], .bool false]) (by simp [results, Tryz.results139, go_sem, z0, z1, z2]) rfl
            ⟨_, _, _, lo', hi', n1', h1', n2', h2', n4, h4, rfl, P3.out, O9.top.2, O9, Z.below⟩
      · have t1 : decide (k < ps.length) = false := by simp; omega
        go_wp2_with fail
        go_quiet (fail)
        go_wp2_with fail
        clear t1 hkn
        go_at_call 66
        have K0 := hide (K.out.drewN nq)
        have hS0 : w1.heap.size ≤ (wr.drewN nq).heap.size := S0.out
        refine (C0.out _ K0.out.below).mono ?_
        rintro e w2 ⟨x, y, z, lo, hi, n1, h1, n2, h2, n3, h3, rfl, q1, q2, O, hb⟩
        obtain ⟨x1, k1, rfl⟩ := O.x.form
        obtain ⟨x2, k2, rfl⟩ := O.y.form
        obtain ⟨x3, k3, rfl⟩ := O.z.own.form
        have Q1 := hide (show w.heap.size + 1 + 1 + 1 ≤ lo by have := hz1.out; omega)
        have X2 := hide (K0.out.up hb)
        have X3 := hide (X2.out.alloc #[.slice x1 l.length k1, .slice x2 r.length k2, .slice x3 ps.length k3] 33)
        have O3 := hide (O.below (below1 w2 (.cells #[.slice x1 l.length k1, .slice x2 r.length k2, .slice x3 ps.length k3] 33)))
        obtain ⟨m, hm⟩ : ∃ m, m = w2.heap.size := ⟨_, rfl⟩
        obtain ⟨w3, hw3⟩ : ∃ w3, w3 = w2.alloc (.cells #[.slice x1 l.length k1, .slice x2 r.length k2, .slice x3 ps.length k3] 33) := ⟨_, rfl⟩
        have S3 := hide (show w3.heap.size = m + 1 by rw [hw3, hm]; simp)
        rw [← hw3] at X3 O3
        rw [← hm] at X3 q2
        have Q2 := hide q2
        simp only [List.cons_append, List.nil_append] at X3
        have X4 := hide (X3.out.alloc #[.int .i64 pv, .int .i64 pa] 133)
        have O4 := hide (O3.out.below (below1 w3 (.cells #[.int .i64 pv, .int .i64 pa] 133)))
        obtain ⟨w4, hw4⟩ : ∃ w4, w4 = w3.alloc (.cells #[.int .i64 pv, .int .i64 pa] 133) := ⟨_, rfl⟩
        have S4 := hide (show w4.heap.size = m + 2 by rw [hw4]; have := S3.out; simp; omega)
        have b2 : w3.cell? ⟨m, 2, none⟩ = some (.slice x3 ps.length k3) := X3.out.cell 3 2 rfl rfl
        have p0 : w3.cell? ⟨w.heap.size + 1, 0, none⟩ = some (.int .i64 pv) := X3.out.cell 1 0 rfl rfl
        have p1 : w3.cell? ⟨w.heap.size + 1, 1, none⟩ = some (.int .i64 pa) := X3.out.cell 1 1 rfl rfl
        rw [← hw4] at X4 O4
        rw [S3.out] at X4
        simp only [List.cons_append, List.nil_append] at X4
        rw [hw3] at b2 p0 p1
        rw [hm] at b2
        clear O hb X2 X3 O3 q1 q2 d0 d1 d2 f0 f1 K K0 S0 hS0
        go_wp2_with fail
        rw [← hw3]
        try rw [← hw4]
        try rw [← hm]
        clear b2 p0 p1 hw3 hw4 hm
        go_at_call 153
        refine (ins_any x3 k3 k (m + 1) 1 pv pa ps n3 h3 w4 O4.out.z hble (X4.out.mem 4 rfl) (by have := O4.out.high; have := Q2.out; omega) hp).mono ?_
        rintro e w5 ⟨z', rfl, hz, s⟩
        obtain ⟨L5a, L5b, L5c⟩ := O4.out.low
        obtain ⟨G5a, G5b, G5c⟩ := O4.out.high
        have hq1 := Q1.out
        have hq2 := Q2.out
        have hs4 := S4.out
        have hle := O4.out.z.le
        have K5 := hide (X4.out.seg s (by omega) (by simp; omega))
        obtain ⟨n3', h3', O5, hd⟩ := O4.out.ins s hz
        rw [HNN.out] at O5
        obtain ⟨y3, j3, rfl⟩ := O5.z.own.form
        have O6 := hide (O5.seg' (Seg.setCell w5 m 2 (.slice y3 NN.length j3)) (by omega) (by omega) (by omega))
        clear L5a L5b L5c G5a G5b G5c hq1 hq2 hs4 hle hd
        have K6 := hide (K5.out.set 3 2 rfl (.slice y3 NN.length j3))
        have b2 : w5.cell? ⟨m, 2, none⟩ = some (.slice x3 ps.length k3) := K5.out.cell 3 2 rfl rfl
        have bf := K5.out.free 3 2 rfl
        obtain ⟨w6, hw6⟩ : ∃ w6, w6 = w5.setCell ⟨m, 2, none⟩ (.slice y3 NN.length j3) := ⟨_, rfl⟩
        rw [← hw6] at O6 K6
        have b0 : w6.cell? ⟨m, 0, none⟩ = some (.slice x1 l.length k1) := K6.out.cell 3 0 rfl rfl
        have b1 : w6.cell? ⟨m, 1, none⟩ = some (.slice x2 r.length k2) := K6.out.cell 3 1 rfl rfl
        have b3 : w6.cell? ⟨m, 2, none⟩ = some (.slice y3 NN.length j3) := K6.out.cell 3 2 rfl rfl
        rw [hw6] at b0 b1 b3
        clear s hz O5 X4 O4 K5
        go_wp2_with fail
        rw [← hw6]
        clear b0 b1 b2 b3 bf hw6
        go_at_call 33
        refine (CI.out _ _ _ _ _ _ _ _ _ _ _ _ O6.out).mono ?_
        rintro e w7 ⟨rfl, hb⟩
        have K7 := hide (K6.out.up hb)
        have O7 := hide (O6.out.below hb)
        clear hb K6 O6
        have g0 : w7.cell? ⟨w.heap.size + 1 + 1, 0, none⟩ = some (.slice none 0 0) := K7.out.cell 2 0 rfl rfl
        have g1 : w7.cell? ⟨w.heap.size + 1 + 1, 1, none⟩ = some (.slice none 0 0) := K7.out.cell 2 1 rfl rfl
        have g2 : w7.cell? ⟨w.heap.size + 1 + 1, 2, none⟩ = some (.slice none 0 0) := K7.out.cell 2 2 rfl rfl
        have f0 := K7.out.free 2 0 rfl
        have f1 := K7.out.free 2 1 rfl
        have f2 := K7.out.free 2 2 rfl
        cases t with
        | true =>
          obtain rfl : PP = NN := by simpa [Hid] using HP
          have b0 : w7.cell? ⟨m, 0, none⟩ = some (.slice x1 l.length k1) := K7.out.cell 3 0 rfl rfl
          have b1 : w7.cell? ⟨m, 1, none⟩ = some (.slice x2 r.length k2) := K7.out.cell 3 1 rfl rfl
          have b3 : w7.cell? ⟨m, 2, none⟩ = some (.slice y3 PP.length j3) := K7.out.cell 3 2 rfl rfl
          go_wp2_with fail
          have Z := ((K7.out.set 2 0 rfl (.slice x1 l.length k1)).set 2 1 rfl (.slice x2 r.length k2)).set 2 2 rfl (.slice y3 PP.length j3)
          have z0 := Z.cell 2 0 rfl rfl
          have z1 := Z.cell 2 1 rfl rfl
          have z2 := Z.cell 2 2 rfl rfl
          have hq1 := Q1.out
          have O8 := O7.out.seg (seg3 _ (w.heap.size + 1 + 1) (.slice x1 l.length k1) (.slice x2 r.length k2) (.slice y3 PP.length j3)) (.inr (by omega))
          exact bodyPost_ret (v := .tuple #[.agg #[.slice x1 l.length k1, .slice x2 r.length k2, .slice y3 PP.length j3], .bool true]) (by simp [results, Tryz.results139, go_sem, z0, z1, z2]) rfl
            ⟨_, _, _, lo, w5.heap.size, n1, h1, n2, h2, n3', h3', rfl, by omega, O8.top.2, O8, Z.below⟩
        | false =>
          obtain rfl : PP = ps := by simpa [Hid] using HP
          have d0 : w7.cell? ⟨w.heap.size, 0, none⟩ = some (.slice a1 l.length c1) := K7.out.cell 0 0 rfl rfl
          have d1 : w7.cell? ⟨w.heap.size, 1, none⟩ = some (.slice a2 r.length c2) := K7.out.cell 0 1 rfl rfl
          have d2 : w7.cell? ⟨w.heap.size, 2, none⟩ = some (.slice a3 PP.length c3) := K7.out.cell 0 2 rfl rfl
          clear g0 g1 g2 f0 f1 f2
          go_wp2_with fail
          go_at_call 66
          refine (C0.out _ K7.out.below).mono ?_
          rintro e w8 ⟨x', y', z', lo', hi', n1', h1', n2', h2', n4, h4, rfl, q1, q2, O8, hb⟩
          obtain ⟨v1, j1, rfl⟩ := O8.x.form
          obtain ⟨v2, j2, rfl⟩ := O8.y.form
          obtain ⟨v3, j4, rfl⟩ := O8.z.own.form
          have K8 := hide (K7.out.up hb)
          have P3 := hide (Nat.le_trans K7.out.below.size q1)
          have P5 := hide (Nat.lt_of_lt_of_le (K7.out.lt 2 rfl) q1)
          have O8 := hide O8
          clear d0 d1 d2 hb q1 q2 K7 O7
          have g0 : w8.cell? ⟨w.heap.size + 1 + 1, 0, none⟩ = some (.slice none 0 0) := K8.out.cell 2 0 rfl rfl
          have g1 : w8.cell? ⟨w.heap.size + 1 + 1, 1, none⟩ = some (.slice none 0 0) := K8.out.cell 2 1 rfl rfl
          have g2 : w8.cell? ⟨w.heap.size + 1 + 1, 2, none⟩ = some (.slice none 0 0) := K8.out.cell 2 2 rfl rfl
          have f0 := K8.out.free 2 0 rfl
          have f1 := K8.out.free 2 1 rfl
          have f2 := K8.out.free 2 2 rfl
          go_wp2_with fail
          have Z := ((K8.out.set 2 0 rfl (.slice v1 l.length j1)).set 2 1 rfl (.slice v2 r.length j2)).set 2 2 rfl (.slice v3 PP.length j4)
          have z0 := Z.cell 2 0 rfl rfl
          have z1 := Z.cell 2 1 rfl rfl
          have z2 := Z.cell 2 2 rfl rfl
          have O9 := O8.out.seg (seg3 _ (w.heap.size + 1 + 1) (.slice v1 l.length j1) (.slice v2 r.length j2) (.slice v3 PP.length j4)) (.inr P5.out)
          exact bodyPost_ret (v := .tuple #[.agg #[.slice v1 l.length j1, .slice v2 r.length j2, .slice v3 PP.length j4], .bool false]) (by simp [results, Tryz.results139, go_sem, z0, z1, z2]) rfl
            ⟨_, _, _, lo', hi', n1', h1', n2', h2', n4, h4, rfl, P3.out, O9.top.2, O9, Z.below⟩

end Go.Proofs.YtajfhalalnlejaaGreat

