/- Several texts in one: CwS, Lw. -/
import Derived.Test.YtdjhnamofmcmjaaZb
import Derived.Test.YtdjhnamofmcmjaaIn
import Derived.Test.YtdjhnamofmcmjaaKw
import Derived.Test.YtdjhnamofmcmjaaZa
/- What CrackWith of the reference returns (promise 4). Written by gen_cws.py. -/
namespace Go.Proofs.Ytdjhnamofmcmjaa
open Go.RowKit Go.ChangeShapes
set_option linter.unusedSimpArgs false
set_option linter.unusedVariables false
set_option maxRecDepth 100000

set_option maxHeartbeats 20000000 in
theorem sCw_any (u : Value) (l r : List Int) (ps : List Pv) (p t s v : Int) (w : World) (hv : CU w u l r ps) (hwf : Wf l r ps 1048576) (hvw : I64 v) :
    Calls Try.prog 9 #[u, .agg #[.int .i64 p, .int .i64 t, .int .i64 s], .int .i64 v] w (RetCW w (cwF l r ps p t s v) p t) := by
  obtain ⟨a1, c1, a2, c2, a3, c3, rfl, -⟩ := Ck.form hv
  have X := hide ((((Kn.two w #[.slice a1 l.length c1, .slice a2 r.length c2, .slice a3 ps.length c3] #[.int .i64 p, .int .i64 t, .int .i64 s] 31 32).alloc #[.slice none 0 0, .slice none 0 0, .slice none 0 0] 31).alloc #[.int .i64 0, .int .i64 0, .int .i64 0] 32))
  obtain ⟨w1, hw1⟩ : ∃ w1, w1 = (((w.alloc (.cells #[.slice a1 l.length c1, .slice a2 r.length c2, .slice a3 ps.length c3] 31)).alloc (.cells #[.int .i64 p, .int .i64 t, .int .i64 s] 32)).alloc (.cells #[.slice none 0 0, .slice none 0 0, .slice none 0 0] 31)).alloc (.cells #[.int .i64 0, .int .i64 0, .int .i64 0] 32) := ⟨_, rfl⟩
  rw [← hw1] at X
  simp only [List.cons_append, List.nil_append, World.size_alloc] at X
  have V := hide (hv.below X.out.below)
  have hz := hide (show w1.heap.size = w.heap.size + 1 + 1 + 1 + 1 by rw [hw1]; simp)
  clear hv
  have CC := hide (fun (W : World) (h : CU W (.agg #[.slice a1 l.length c1, .slice a2 r.length c2, .slice a3 ps.length c3]) l r ps) => sCopy_any _ l r ps W W.heap.size h (Nat.le_refl _) hwf.1 hwf.2.1 (by have := hwf.2.2.1; omega))
  obtain ⟨q, hq⟩ : ∃ q, q = isCk l r ps := ⟨_, rfl⟩
  obtain ⟨z0, hzz⟩ : ∃ q, q = isSet p t s := ⟨_, rfl⟩
  have HQ := hide (fun (h : q = true) => show isCk l r ps = true from hq.symm.trans h)
  have HZ := hide (fun (h : z0 = true) => show 0 ≤ p ∧ p ≤ 2 ∧ 1 ≤ t ∧ t ≤ 64 ∧ 0 ≤ s ∧ s ≤ 10006 from of_decide_eq_true (hzz.symm.trans h))
  have HCK := hide (fun (W : World) (h : CU W (.agg #[.slice a1 l.length c1, .slice a2 r.length c2, .slice a3 ps.length c3]) l r ps) => show Calls Try.prog 34 #[.agg #[.slice a1 l.length c1, .slice a2 r.length c2, .slice a3 ps.length c3]] W (RetB1 W q) by rw [hq]; exact sIsCk_any _ l r ps W W.heap.size h (Nat.le_refl _))
  have HCS := hide (fun (W : World) => show Calls Try.prog 35 #[.agg #[.int .i64 p, .int .i64 t, .int .i64 s]] W (RetB1 W z0) by rw [hzz]; exact sIsSet_any p t s W)
  obtain ⟨S9, hS9⟩ : ∃ q, q = cwF l r ps p t s v := ⟨_, rfl⟩
  have NO := hide (fun (h : ¬(q = true ∧ z0 = true ∧ -1000 ≤ v ∧ v ≤ 1000)) => show S9 = ⟨l, r, ps, s, 0⟩ by
    rw [hS9]
    unfold cwF
    rw [if_neg]
    unfold cwOk
    simp only [Bool.and_eq_true, decide_eq_true_eq, ← hq, ← hzz]
    exact fun h2 => h ⟨h2.1.1, h2.1.2, h2.2⟩)
  obtain ⟨RS, hRS⟩ : ∃ q, q = PS.run p t v 64 ⟨l, r, ps, s, 0⟩ := ⟨_, rfl⟩
  have YES := hide (fun (h1 : q = true) (h2 : z0 = true) (h3 : -1000 ≤ v ∧ v ≤ 1000) => show S9 = RS.crack v by
    rw [hS9, hRS]
    unfold cwF
    rw [if_pos]
    unfold cwOk
    rw [← hq, ← hzz, h1, h2, decide_eq_true h3]
    rfl)
  have HRS := hide hRS
  rw [← hS9]
  have HWF := hide hwf
  clear hq hzz hS9 hRS hwf
  have d0 : w1.cell? ⟨w.heap.size, 0, none⟩ = some (.slice a1 l.length c1) := X.out.cell 0 0 rfl rfl
  have d1 : w1.cell? ⟨w.heap.size, 1, none⟩ = some (.slice a2 r.length c2) := X.out.cell 0 1 rfl rfl
  have d2 : w1.cell? ⟨w.heap.size, 2, none⟩ = some (.slice a3 ps.length c3) := X.out.cell 0 2 rfl rfl
  rw [hw1] at d0 d1 d2
  go_enter Try.func9, Try.ntmps9
  go_wp2_with fail
  rw [← hw1]
  clear hw1 d0 d1 d2
  obtain ⟨r2, hr2⟩ : ∃ q, q = w.heap.size + 1 + 1 + 1 := ⟨_, rfl⟩
  obtain ⟨r1, hr1⟩ : ∃ q, q = w.heap.size + 1 + 1 := ⟨_, rfl⟩
  obtain ⟨s1, hs1⟩ : ∃ q, q = w.heap.size + 1 := ⟨_, rfl⟩
  obtain ⟨h0, hh0⟩ : ∃ q, q = w.heap.size := ⟨_, rfl⟩
  have HBL0 := hide (show h0 < s1 ∧ s1 < r1 ∧ r1 < r2 ∧ w1.heap.size = r2 + 1 ∧ w.heap.size = h0 by have := hz.out; omega)
  rw [← hr2, ← hr1, ← hs1, ← hh0] at X
  rw [← hr2, ← hr1, ← hs1, ← hh0]
  clear hr2 hr1 hs1 hh0 hz
  have KA := hide (fun (W : World) (h : Kn w W [(h0, #[.slice a1 l.length c1, .slice a2 r.length c2, .slice a3 ps.length c3], 31), (s1, #[.int .i64 p, .int .i64 t, .int .i64 s], 32), (r1, #[.slice none 0 0, .slice none 0 0, .slice none 0 0], 31), (r2, #[.int .i64 0, .int .i64 0, .int .i64 0], 32)]) => show W.cell? ⟨h0, 0, none⟩ = some (.slice a1 l.length c1) ∧ W.cell? ⟨h0, 1, none⟩ = some (.slice a2 r.length c2) ∧ W.cell? ⟨h0, 2, none⟩ = some (.slice a3 ps.length c3) ∧ W.cell? ⟨s1, 0, none⟩ = some (.int .i64 p) ∧ W.cell? ⟨s1, 1, none⟩ = some (.int .i64 t) ∧ W.cell? ⟨s1, 2, none⟩ = some (.int .i64 s) ∧ W.cell? ⟨r1, 0, none⟩ = some (.slice none 0 0) ∧ W.cell? ⟨r1, 1, none⟩ = some (.slice none 0 0) ∧ W.cell? ⟨r1, 2, none⟩ = some (.slice none 0 0) ∧ W.cell? ⟨r2, 0, none⟩ = some (.int .i64 0) ∧ W.cell? ⟨r2, 1, none⟩ = some (.int .i64 0) ∧ W.cell? ⟨r2, 2, none⟩ = some (.int .i64 0) ∧ W.frozen? ⟨r1, 0, none⟩ = false ∧ W.frozen? ⟨r1, 1, none⟩ = false ∧ W.frozen? ⟨r1, 2, none⟩ = false ∧ W.frozen? ⟨r2, 0, none⟩ = false ∧ W.frozen? ⟨r2, 1, none⟩ = false ∧ W.frozen? ⟨r2, 2, none⟩ = false from ⟨h.cell 0 0 rfl rfl, h.cell 0 1 rfl rfl, h.cell 0 2 rfl rfl, h.cell 1 0 rfl rfl, h.cell 1 1 rfl rfl, h.cell 1 2 rfl rfl, h.cell 2 0 rfl rfl, h.cell 2 1 rfl rfl, h.cell 2 2 rfl rfl, h.cell 3 0 rfl rfl, h.cell 3 1 rfl rfl, h.cell 3 2 rfl rfl, h.free 2 0 rfl, h.free 2 1 rfl, h.free 2 2 rfl, h.free 3 0 rfl, h.free 3 1 rfl, h.free 3 2 rfl⟩)
  go_at_call 34
  refine (HCK.out _ V.out).mono ?_
  rintro e w4 ⟨rfl, hb⟩
  have X := hide (X.out.up hb)
  have V := hide (V.out.below hb)
  clear hb
  cases q with
  | false =>
    obtain rfl := NO.out (by simp)
    have hne1 : r1 ≠ r2 := by have := HBL0.out; omega
    have hne2 : r2 ≠ r1 := by have := HBL0.out; omega
    have hne3 : s1 ≠ r1 := by have := HBL0.out; omega
    have hne4 : s1 ≠ r2 := by have := HBL0.out; omega
    have hne5 : h0 ≠ r1 := by have := HBL0.out; omega
    have hne6 : h0 ≠ r2 := by have := HBL0.out; omega
    obtain ⟨u0, u1, u2, v0, v1, v2, kq0, kq1, kq2, lq0, lq1, lq2, mq0, mq1, mq2, n0', n1', n2'⟩ := KA.out _ X.out
    go_upto_region 2 with fail
    clear u0 u1 u2 v0 v1 v2 kq0 kq1 kq2 lq0 lq1 lq2 mq0 mq1 mq2 n0' n1' n2'
    have X := hide X.out.drew
    have V := hide (V.out.below (Below.refl _ _).drew)
    obtain ⟨u0, u1, u2, v0, v1, v2, kq0, kq1, kq2, lq0, lq1, lq2, mq0, mq1, mq2, n0', n1', n2'⟩ := KA.out _ X.out
    go_region_with (first
      | (go_at_call 37; refine (CC.out _ V.out).mono ?_; rintro e wq ⟨x', y', z', lo, hi, n1, h1, n2, h2, n3, h3, rfl, q1, q2, O, hb⟩; obtain ⟨b1, k1, rfl⟩ := O.x.form; obtain ⟨b2, k2, rfl⟩ := O.y.form; obtain ⟨b3, k3, rfl⟩ := O.z.own.form; have hlo := hide (show r2 + 1 ≤ lo from Nat.le_trans (Nat.succ_le_of_lt (X.out.lt 3 rfl)) q1); replace X := hide (X.out.up hb); have O := hide O; clear hb q1 q2 u0 u1 u2 v0 v1 v2 kq0 kq1 kq2 lq0 lq1 lq2 mq0 mq1 mq2 n0' n1' n2'; obtain ⟨u0, u1, u2, v0, v1, v2, kq0, kq1, kq2, lq0, lq1, lq2, mq0, mq1, mq2, n0', n1', n2'⟩ := KA.out _ X.out))
    all_goals
      have Z := (X.out.put3c 2 rfl (.slice b1 l.length k1) (.slice b2 r.length k2) (.slice b3 ps.length k3)).put3c 3 rfl (.int .i64 p) (.int .i64 t) (.int .i64 s)
      have z0 := Z.cell 2 0 rfl rfl
      have z1 := Z.cell 2 1 rfl rfl
      have z2 := Z.cell 2 2 rfl rfl
      have z3 := Z.cell 3 0 rfl rfl
      have z4 := Z.cell 3 1 rfl rfl
      have z5 := Z.cell 3 2 rfl rfl
      have O9 := (O.out.seg (seg3 _ r1 (.slice b1 l.length k1) (.slice b2 r.length k2) (.slice b3 ps.length k3)) (.inr (by have := hlo.out; have := HBL0.out; omega))).seg (seg3 _ r2 (.int .i64 p) (.int .i64 t) (.int .i64 s)) (.inr (by have := hlo.out; have := HBL0.out; omega))
      clear u0 u1 u2 v0 v1 v2 kq0 kq1 kq2 lq0 lq1 lq2 mq0 mq1 mq2 n0' n1' n2'
      rename ∀ (a : Act) (w' : World), Code.wp _ Code.ret _ a w' → _ => HK
      refine HK _ _ ?_
      refine wp_ret ?_
      exact bodyPost_ret (v := .tuple #[.agg #[.slice b1 l.length k1, .slice b2 r.length k2, .slice b3 ps.length k3], .agg #[.int .i64 p, .int .i64 t, .int .i64 s], .int .i64 0]) (by simp [results, Try.results9, go_sem, z0, z1, z2, z3, z4, z5]) rfl
        ⟨_, _, _, lo, hi, n1, h1, n2, h2, n3, h3, rfl, by have := hlo.out; have := HBL0.out; omega, O9.top.2, O9, Z.below⟩
  | true =>
    obtain ⟨u0, u1, u2, v0, v1, v2, kq0, kq1, kq2, lq0, lq1, lq2, mq0, mq1, mq2, n0', n1', n2'⟩ := KA.out _ X.out
    go_wp2_with fail
    clear u0 u1 u2 v0 v1 v2 kq0 kq1 kq2 lq0 lq1 lq2 mq0 mq1 mq2 n0' n1' n2'
    go_at_call 35
    refine (HCS.out _).mono ?_
    rintro e w5 ⟨rfl, hb⟩
    have X := hide (X.out.up hb)
    have V := hide (V.out.below hb)
    clear hb
    cases z0 with
    | false =>
      obtain rfl := NO.out (by simp)
      have hne1 : r1 ≠ r2 := by have := HBL0.out; omega
      have hne2 : r2 ≠ r1 := by have := HBL0.out; omega
      have hne3 : s1 ≠ r1 := by have := HBL0.out; omega
      have hne4 : s1 ≠ r2 := by have := HBL0.out; omega
      have hne5 : h0 ≠ r1 := by have := HBL0.out; omega
      have hne6 : h0 ≠ r2 := by have := HBL0.out; omega
      obtain ⟨u0, u1, u2, v0, v1, v2, kq0, kq1, kq2, lq0, lq1, lq2, mq0, mq1, mq2, n0', n1', n2'⟩ := KA.out _ X.out
      go_upto_region 2 with fail
      clear u0 u1 u2 v0 v1 v2 kq0 kq1 kq2 lq0 lq1 lq2 mq0 mq1 mq2 n0' n1' n2'
      have X := hide X.out.drew
      have V := hide (V.out.below (Below.refl _ _).drew)
      obtain ⟨u0, u1, u2, v0, v1, v2, kq0, kq1, kq2, lq0, lq1, lq2, mq0, mq1, mq2, n0', n1', n2'⟩ := KA.out _ X.out
      go_region_with (first
        | (go_at_call 37; refine (CC.out _ V.out).mono ?_; rintro e wq ⟨x', y', z', lo, hi, n1, h1, n2, h2, n3, h3, rfl, q1, q2, O, hb⟩; obtain ⟨b1, k1, rfl⟩ := O.x.form; obtain ⟨b2, k2, rfl⟩ := O.y.form; obtain ⟨b3, k3, rfl⟩ := O.z.own.form; have hlo := hide (show r2 + 1 ≤ lo from Nat.le_trans (Nat.succ_le_of_lt (X.out.lt 3 rfl)) q1); replace X := hide (X.out.up hb); have O := hide O; clear hb q1 q2 u0 u1 u2 v0 v1 v2 kq0 kq1 kq2 lq0 lq1 lq2 mq0 mq1 mq2 n0' n1' n2'; obtain ⟨u0, u1, u2, v0, v1, v2, kq0, kq1, kq2, lq0, lq1, lq2, mq0, mq1, mq2, n0', n1', n2'⟩ := KA.out _ X.out))
      all_goals
        have Z := (X.out.put3c 2 rfl (.slice b1 l.length k1) (.slice b2 r.length k2) (.slice b3 ps.length k3)).put3c 3 rfl (.int .i64 p) (.int .i64 t) (.int .i64 s)
        have z0 := Z.cell 2 0 rfl rfl
        have z1 := Z.cell 2 1 rfl rfl
        have z2 := Z.cell 2 2 rfl rfl
        have z3 := Z.cell 3 0 rfl rfl
        have z4 := Z.cell 3 1 rfl rfl
        have z5 := Z.cell 3 2 rfl rfl
        have O9 := (O.out.seg (seg3 _ r1 (.slice b1 l.length k1) (.slice b2 r.length k2) (.slice b3 ps.length k3)) (.inr (by have := hlo.out; have := HBL0.out; omega))).seg (seg3 _ r2 (.int .i64 p) (.int .i64 t) (.int .i64 s)) (.inr (by have := hlo.out; have := HBL0.out; omega))
        clear u0 u1 u2 v0 v1 v2 kq0 kq1 kq2 lq0 lq1 lq2 mq0 mq1 mq2 n0' n1' n2'
        rename ∀ (a : Act) (w' : World), Code.wp _ Code.ret _ a w' → _ => HK
        refine HK _ _ ?_
        refine wp_ret ?_
        exact bodyPost_ret (v := .tuple #[.agg #[.slice b1 l.length k1, .slice b2 r.length k2, .slice b3 ps.length k3], .agg #[.int .i64 p, .int .i64 t, .int .i64 s], .int .i64 0]) (by simp [results, Try.results9, go_sem, z0, z1, z2, z3, z4, z5]) rfl
          ⟨_, _, _, lo, hi, n1, h1, n2, h2, n3, h3, rfl, by have := hlo.out; have := HBL0.out; omega, O9.top.2, O9, Z.below⟩
    | true =>
      by_cases hvb : ¬(-1000 ≤ v ∧ v ≤ 1000)
      · have CB := hide (fun (W : World) => in_no v (-1000) 1000 W (by omega))
        go_wp2_with fail
        go_at_call 36
        refine (CB.out _).mono ?_
        rintro e wq ⟨rfl, rfl⟩
        obtain rfl := NO.out (by intro h; exact hvb h.2.2)
        have hne1 : r1 ≠ r2 := by have := HBL0.out; omega
        have hne2 : r2 ≠ r1 := by have := HBL0.out; omega
        have hne3 : s1 ≠ r1 := by have := HBL0.out; omega
        have hne4 : s1 ≠ r2 := by have := HBL0.out; omega
        have hne5 : h0 ≠ r1 := by have := HBL0.out; omega
        have hne6 : h0 ≠ r2 := by have := HBL0.out; omega
        obtain ⟨u0, u1, u2, v0, v1, v2, kq0, kq1, kq2, lq0, lq1, lq2, mq0, mq1, mq2, n0', n1', n2'⟩ := KA.out _ X.out
        go_upto_region 2 with fail
        clear u0 u1 u2 v0 v1 v2 kq0 kq1 kq2 lq0 lq1 lq2 mq0 mq1 mq2 n0' n1' n2'
        have X := hide X.out.drew
        have V := hide (V.out.below (Below.refl _ _).drew)
        obtain ⟨u0, u1, u2, v0, v1, v2, kq0, kq1, kq2, lq0, lq1, lq2, mq0, mq1, mq2, n0', n1', n2'⟩ := KA.out _ X.out
        go_region_with (first
          | (go_at_call 37; refine (CC.out _ V.out).mono ?_; rintro e wq ⟨x', y', z', lo, hi, n1, h1, n2, h2, n3, h3, rfl, q1, q2, O, hb⟩; obtain ⟨b1, k1, rfl⟩ := O.x.form; obtain ⟨b2, k2, rfl⟩ := O.y.form; obtain ⟨b3, k3, rfl⟩ := O.z.own.form; have hlo := hide (show r2 + 1 ≤ lo from Nat.le_trans (Nat.succ_le_of_lt (X.out.lt 3 rfl)) q1); replace X := hide (X.out.up hb); have O := hide O; clear hb q1 q2 u0 u1 u2 v0 v1 v2 kq0 kq1 kq2 lq0 lq1 lq2 mq0 mq1 mq2 n0' n1' n2'; obtain ⟨u0, u1, u2, v0, v1, v2, kq0, kq1, kq2, lq0, lq1, lq2, mq0, mq1, mq2, n0', n1', n2'⟩ := KA.out _ X.out))
        all_goals
          have Z := (X.out.put3c 2 rfl (.slice b1 l.length k1) (.slice b2 r.length k2) (.slice b3 ps.length k3)).put3c 3 rfl (.int .i64 p) (.int .i64 t) (.int .i64 s)
          have z0 := Z.cell 2 0 rfl rfl
          have z1 := Z.cell 2 1 rfl rfl
          have z2 := Z.cell 2 2 rfl rfl
          have z3 := Z.cell 3 0 rfl rfl
          have z4 := Z.cell 3 1 rfl rfl
          have z5 := Z.cell 3 2 rfl rfl
          have O9 := (O.out.seg (seg3 _ r1 (.slice b1 l.length k1) (.slice b2 r.length k2) (.slice b3 ps.length k3)) (.inr (by have := hlo.out; have := HBL0.out; omega))).seg (seg3 _ r2 (.int .i64 p) (.int .i64 t) (.int .i64 s)) (.inr (by have := hlo.out; have := HBL0.out; omega))
          clear u0 u1 u2 v0 v1 v2 kq0 kq1 kq2 lq0 lq1 lq2 mq0 mq1 mq2 n0' n1' n2'
          rename ∀ (a : Act) (w' : World), Code.wp _ Code.ret _ a w' → _ => HK
          refine HK _ _ ?_
          refine wp_ret ?_
          exact bodyPost_ret (v := .tuple #[.agg #[.slice b1 l.length k1, .slice b2 r.length k2, .slice b3 ps.length k3], .agg #[.int .i64 p, .int .i64 t, .int .i64 s], .int .i64 0]) (by simp [results, Try.results9, go_sem, z0, z1, z2, z3, z4, z5]) rfl
            ⟨_, _, _, lo, hi, n1, h1, n2, h2, n3, h3, rfl, by have := hlo.out; have := HBL0.out; omega, O9.top.2, O9, Z.below⟩
      have hvb : -1000 ≤ v ∧ v ≤ 1000 := by omega
      have CB := hide (fun (W : World) => in_yes v (-1000) 1000 W hvb.1 hvb.2)
      go_wp2_with fail
      go_at_call 36
      refine (CB.out _).mono ?_
      rintro e wq ⟨rfl, rfl⟩
      have X5 := X
      have hx5 := hide (show r2 < w5.heap.size from X.out.lt 3 rfl)
      go_upto_region 4 with fail
      obtain ⟨w6, hw6⟩ : ∃ q, q = (w5.alloc (.cells #[] 77)).alloc (.cells #[.slice (some ⟨w5.heap.size, 0, none⟩) 0 0] 46) := ⟨_, rfl⟩
      have HB6 := hide (show Below w5.heap.size w5 w6 by rw [hw6]; exact below2 _ _ _)
      have HZ6 := hide (show w6.heap.size = w5.heap.size + 1 + 1 by rw [hw6]; simp)
      have LG := hide (show LB w6 (w5.heap.size + 1) h0 (.slice (some ⟨w5.heap.size, 0, none⟩) 0 0) [] by
        rw [hw6]
        refine ⟨?_, (Lg.made w5 h0 (by have := HBL0.out; have := hx5.out; omega)).below (below1 _ _), by simp [Value.ownBlock]⟩
        have := heap_alloc_new (w5.alloc (.cells #[] 77)) (.cells #[.slice (some ⟨w5.heap.size, 0, none⟩) 0 0] 46)
        simpa using this)
      rw [← hw6]
      clear hw6
      obtain ⟨sv, hsv⟩ : ∃ q, q = Value.slice (some ⟨w5.heap.size, 0, none⟩) 0 0 := ⟨_, rfl⟩
      obtain ⟨lb, hlb⟩ : ∃ q, q = w5.heap.size + 1 := ⟨_, rfl⟩
      have HGl := hide (show ∀ b ∈ lbF lb sv, w5.heap.size ≤ b by
        rw [hsv, hlb]
        intro b hb
        simp [lbF, Value.ownBlock] at hb
        omega)
      rw [← hsv, ← hlb] at LG
      rw [← hlb]
      try rw [← hsv]
      have HGt := hide (lbF_lt LG.out)
      clear hlb
      have HB5 := hide (fun (W : World) (M : List (Nat × Array Value × TypeId)) (h : Kd (lbF lb sv) w6 W M) => show Below w5.heap.size w5 W from HB6.out.trans (h.only.toBelow HGl.out HB6.out.size))
      have KX := hide (fun (W : World) (M : List (Nat × Array Value × TypeId)) (h : Kd (lbF lb sv) w6 W M) => X.out.up (HB5.out W M h))
      have KS := hide (fun (W : World) (M : List (Nat × Array Value × TypeId)) (h : Kd (lbF lb sv) w6 W M) => show W.cell? ⟨h0, 0, none⟩ = some (.slice a1 l.length c1) ∧ W.cell? ⟨h0, 1, none⟩ = some (.slice a2 r.length c2) ∧ W.cell? ⟨h0, 2, none⟩ = some (.slice a3 ps.length c3) ∧ W.cell? ⟨s1, 0, none⟩ = some (.int .i64 p) ∧ W.cell? ⟨s1, 1, none⟩ = some (.int .i64 t) ∧ W.cell? ⟨s1, 2, none⟩ = some (.int .i64 s) from ⟨(KX.out W M h).cell 0 0 rfl rfl, (KX.out W M h).cell 0 1 rfl rfl, (KX.out W M h).cell 0 2 rfl rfl, (KX.out W M h).cell 1 0 rfl rfl, (KX.out W M h).cell 1 1 rfl rfl, (KX.out W M h).cell 1 2 rfl rfl⟩)
      have VC := hide (fun (W : World) (M : List (Nat × Array Value × TypeId)) (h : Kd (lbF lb sv) w6 W M) => V.out.below (HB5.out W M h))
      have hck := HQ.out (by simp)
      obtain ⟨z1, z2, z3, z4, z5, z6⟩ := HZ.out (by simp)
      have h0k : (⟨l, r, ps, s, 0⟩ : PS).Ok 0 := ⟨hck, wf_ck HWF.out hck, z5, z6, Nat.le_refl _⟩
      have hrk := PS.run_ok (v := v) ⟨z1, z2⟩ ⟨z3, z4⟩ 64 0 _ h0k
      obtain ⟨cs9, hcs9⟩ : ∃ q, q = [] ++ (PS.runC p t v 0 64 ⟨l, r, ps, s, 0⟩ ++ (PS.run p t v 64 ⟨l, r, ps, s, 0⟩).chg v 0) := ⟨_, rfl⟩
      have HS9 := YES.out (by simp) (by simp) hvb
      have HCN := hide (show ∀ c ∈ cs9, 0 ≤ c.n ∧ c.n ≤ 1048576 by
        rw [hcs9, List.nil_append]
        intro c hc
        rcases List.mem_append.1 hc with hc | hc
        · exact PS.runC_n ⟨z1, z2⟩ ⟨z3, z4⟩ hvb 64 0 _ h0k c hc
        · exact PS.chg_n hrk hvb c hc)
      have HCL := hide (show cs9.length ≤ 1048576 by
        rw [hcs9, List.nil_append, List.length_append]
        have := PS.runC_len p t v 0 64 ⟨l, r, ps, s, 0⟩
        have := PS.chg_len (PS.run p t v 64 ⟨l, r, ps, s, 0⟩) v 0
        omega)
      have HCT := hide (show cgT cs9 = (S9.n : Int) by
        rw [hcs9, List.nil_append, cgT_append, HS9, HRS.out]
        have h1 := PS.runC_sum p t v 0 64 ⟨l, r, ps, s, 0⟩
        have h2 := PS.chg_sum (PS.run p t v 64 ⟨l, r, ps, s, 0⟩) v 0
        have h3 : ((⟨l, r, ps, s, 0⟩ : PS).n : Int) = 0 := rfl
        omega)
      have CW := hide (fun (W : World) (x y z : Value) (lo hi n1 h1 n2 h2 n3 h3 : Nat) (h : OC W x y z l r ps lo hi n1 h1 n2 h2 n3 h3) (hl : LB W lb h0 sv []) (hb : h0 ≤ W.heap.size) => show Calls Try.prog 38 #[.agg #[x, y, z], .agg #[.int .i64 p, .int .i64 t, .int .i64 s], .int .i64 v, .int .i64 0, .pointer (some ⟨lb, 0, none⟩)] W (RetLW W lb h0 sv S9 p t cs9) by
        rw [hcs9, HS9, HRS.out]
        exact l7With_any (.agg #[x, y, z]) ⟨l, r, ps, s, 0⟩ p t v 0 lb h0 sv [] W 0 (h.ck HWF.out.2.2.2.1 HWF.out.2.2.2.2.1 (Nat.le_trans HWF.out.2.2.1 (by omega)) HWF.out.2.2.2.2.2) h0k ⟨z1, z2⟩ ⟨z3, z4⟩ hvb hl (by simp) hb)
      clear hck z1 z2 z3 z4 z5 z6 h0k hrk hcs9 HS9 YES NO HRS HQ HZ
      have HF2 := hide (fun (W W' : World) (x y z : Value) (lo hi n1 h1 n2 h2 n3 h3 : Nat) (h : LB W lb h0 sv []) (hb : Below W.heap.size W W') (O : OC W' x y z l r ps lo hi n1 h1 n2 h2 n3 h3) => show Bl (fun W => LB W lb h0 sv [] ∧ OC W x y z l r ps lo hi n1 h1 n2 h2 n3 h3) W' from fun W2 hb2 => ⟨(h.below hb).below hb2, O.below hb2⟩)
      have HF3 := hide (fun (W' : World) (sv2 x y z : Value) (lo hi n1 h1 n2 h2 n3 h3 : Nat) (h : LB W' lb h0 sv2 cs9) (O : OC W' x y z S9.l S9.r S9.ps lo hi n1 h1 n2 h2 n3 h3) => show Bl (fun W => LB W lb h0 sv2 cs9 ∧ OC W x y z S9.l S9.r S9.ps lo hi n1 h1 n2 h2 n3 h3) W' from fun W2 hb2 => ⟨h.below hb2, O.below hb2⟩)
      have HH0 := hide (fun (W : World) (M : List (Nat × Array Value × TypeId)) (h : Kd (lbF lb sv) w6 W M) => show h0 ≤ W.heap.size by have := HBL0.out; have := hx5.out; have := (HB5.out W M h).size; omega)
      have HR2 := hide (fun (W : World) (M : List (Nat × Array Value × TypeId)) (h : Kd (lbF lb sv) w6 W M) (lo : Nat) (hl : W.heap.size ≤ lo) => show r2 < lo by have := hx5.out; have := (HB5.out W M h).size; omega)
      have HP3 := hide (fun (W : World) (M : List (Nat × Array Value × TypeId)) (h : Kd (lbF lb sv) w6 W M) (sv2 : Value) (hs : SvB sv sv2 W.heap.size) => show ∀ e ∈ M, lb ≠ e.1 ∧ sv2.ownBlock ≠ some e.1 from fun e he => hs.ne HGt.out (h.high e he) (Array.getElem?_eq_some_iff.1 (h.hold e he)).1)
      go_cut [10, 11] (fun q10 q11 wx => ∃ (W' : World) (g1 g2 lo hi n1 h1 n2 h2 n3 h3 k1 k2 k3 : Nat) (b1 b2 b3 : Option Addr) (sv2 : Value), W' = wx ∧ q10 = .pointer (some ⟨g1, 0, none⟩) ∧ q11 = .pointer (some ⟨g2, 0, none⟩) ∧ Hid (wx.heap[g1]? = some (.cells #[.slice b1 S9.l.length k1, .slice b2 S9.r.length k2, .slice b3 S9.ps.length k3] 31 (0, 0))) ∧ Hid (wx.heap[g2]? = some (.cells #[.int .i64 p, .int .i64 t, .int .i64 S9.s] 32 (0, 0))) ∧ Hid (Below w5.heap.size w5 wx) ∧ Hid (OC wx (.slice b1 S9.l.length k1) (.slice b2 S9.r.length k2) (.slice b3 S9.ps.length k3) S9.l S9.r S9.ps lo hi n1 h1 n2 h2 n3 h3) ∧ Hid (r2 < lo) ∧ Hid (w6.heap.size ≤ g1) ∧ Hid (w6.heap.size ≤ g2) ∧ Hid (LB wx lb h0 sv2 cs9))
      case first =>
        have Y0 := hide (Kw.start (F := fun W => LB W lb h0 sv []) (lbF lb sv) w6 (fun W' hb => LG.out.below hb))
        have Y := hide (Y0.out.drew)
        clear LG X V X5 KA HCK HCS CB
        obtain ⟨d0, d1, d2, d3, d4, d5⟩ := KS.out _ _ Y.out.kd
        go_region_held3 (fun w' => w'.cell? ⟨h0, 0, none⟩ = some (.slice a1 l.length c1) ∧ w'.cell? ⟨h0, 1, none⟩ = some (.slice a2 r.length c2) ∧ w'.cell? ⟨h0, 2, none⟩ = some (.slice a3 ps.length c3) ∧ w'.cell? ⟨s1, 0, none⟩ = some (.int .i64 p) ∧ w'.cell? ⟨s1, 1, none⟩ = some (.int .i64 t) ∧ w'.cell? ⟨s1, 2, none⟩ = some (.int .i64 s)) (first | with_reducible exact KS.out _ _ Y.out.kd | with_reducible exact KS.out _ _ (Y.out.alloc _ _).kd | with_reducible exact KS.out _ _ ((Y.out.alloc _ _).alloc _ _).kd | with_reducible exact KS.out _ _ (Y0.out.alloc _ _).drew.kd | with_reducible exact KS.out _ _ ((Y0.out.alloc _ _).alloc _ _).drew.kd | with_reducible exact KS.out _ _ (Y.out.kd.put3c 0 rfl _ _ _) | with_reducible exact KS.out _ _ (Y.out.kd.put3c 1 rfl _ _ _) | with_reducible exact KS.out _ _ ((Y.out.kd.put3c 0 rfl _ _ _).put3c 1 rfl _ _ _) | with_reducible exact KS.out _ _ ((Y.out.kd.put3c 1 rfl _ _ _).put3c 0 rfl _ _ _) | with_reducible exact KS.out _ _ ((Y.out.kd.put3c 0 rfl _ _ _).alloc _ _) | go_keep) (first
          | (go_at_call 37; refine (CC.out _ (by first | with_reducible exact VC.out _ _ Y.out.kd | with_reducible exact VC.out _ _ (Y.out.alloc _ _).kd | with_reducible exact VC.out _ _ ((Y.out.alloc _ _).alloc _ _).kd | with_reducible exact VC.out _ _ (Y0.out.alloc _ _).drew.kd | with_reducible exact VC.out _ _ ((Y0.out.alloc _ _).alloc _ _).drew.kd)).mono ?_; rintro e wq ⟨x', y', z', lo, hi, n1, h1, n2, h2, n3, h3, rfl, q1, q2, O, hb⟩; obtain ⟨b1, k1, rfl⟩ := O.x.form; obtain ⟨b2, k2, rfl⟩ := O.y.form; obtain ⟨b3, k3, rfl⟩ := O.z.own.form; (first | replace Y := hide (by with_reducible exact Y.out.next hb (HF2.out _ _ _ _ _ _ _ _ _ _ _ _ _ Y.out.now hb O)) | replace Y := hide (by with_reducible exact (Y.out.alloc _ _).next hb (HF2.out _ _ _ _ _ _ _ _ _ _ _ _ _ (Y.out.alloc _ _).now hb O)) | replace Y := hide (by with_reducible exact ((Y.out.alloc _ _).alloc _ _).next hb (HF2.out _ _ _ _ _ _ _ _ _ _ _ _ _ ((Y.out.alloc _ _).alloc _ _).now hb O)) | replace Y := hide (by with_reducible exact (Y0.out.alloc _ _).drew.next hb (HF2.out _ _ _ _ _ _ _ _ _ _ _ _ _ (Y0.out.alloc _ _).drew.now hb O)) | replace Y := hide (by with_reducible exact ((Y0.out.alloc _ _).alloc _ _).drew.next hb (HF2.out _ _ _ _ _ _ _ _ _ _ _ _ _ ((Y0.out.alloc _ _).alloc _ _).drew.now hb O))); clear O hb q1 q2 d0 d1 d2 d3 d4 d5; obtain ⟨d0, d1, d2, d3, d4, d5⟩ := KS.out _ _ Y.out.kd; (try simp only [World.size_alloc, World.size_drew, List.cons_append, List.nil_append] at Y); (first | clear e00 e01 e02 f00 f01 f02 f0l | skip); (first | (have e00 := Y.out.kd.cell 0 0 rfl rfl; have e01 := Y.out.kd.cell 0 1 rfl rfl; have e02 := Y.out.kd.cell 0 2 rfl rfl; have f00 := Y.out.kd.free 0 0 rfl; have f01 := Y.out.kd.free 0 1 rfl; have f02 := Y.out.kd.free 0 2 rfl; have f0l := Y.out.kd.lt 0 rfl) | skip); (first | clear e10 e11 e12 f10 f11 f12 f1l n01 n10 | skip); (first | (have e10 := Y.out.kd.cell 1 0 rfl rfl; have e11 := Y.out.kd.cell 1 1 rfl rfl; have e12 := Y.out.kd.cell 1 2 rfl rfl; have f10 := Y.out.kd.free 1 0 rfl; have f11 := Y.out.kd.free 1 1 rfl; have f12 := Y.out.kd.free 1 2 rfl; have f1l := Y.out.kd.lt 1 rfl; have n01 := Y.out.kd.ne 0 1 rfl rfl (by decide); have n10 := Y.out.kd.ne 1 0 rfl rfl (by decide); (try simp only [World.size_alloc, World.size_drew] at e10 e11 e12 f10 f11 f12 f1l n01 n10)) | skip))
          | (go_at_call 38; refine (CW.out _ _ _ _ _ _ _ _ _ _ _ _ (by first | with_reducible exact Y.out.now.2 | with_reducible exact (Y.out.alloc _ _).now.2 | with_reducible exact ((Y.out.alloc _ _).alloc _ _).now.2 | with_reducible exact (Y0.out.alloc _ _).drew.now.2 | with_reducible exact ((Y0.out.alloc _ _).alloc _ _).drew.now.2) (by first | with_reducible exact Y.out.now.1 | with_reducible exact (Y.out.alloc _ _).now.1 | with_reducible exact ((Y.out.alloc _ _).alloc _ _).now.1 | with_reducible exact (Y0.out.alloc _ _).drew.now.1 | with_reducible exact ((Y0.out.alloc _ _).alloc _ _).drew.now.1) (by first | with_reducible exact HH0.out _ _ Y.out.kd | with_reducible exact HH0.out _ _ (Y.out.alloc _ _).kd | with_reducible exact HH0.out _ _ ((Y.out.alloc _ _).alloc _ _).kd | with_reducible exact HH0.out _ _ (Y0.out.alloc _ _).drew.kd | with_reducible exact HH0.out _ _ ((Y0.out.alloc _ _).alloc _ _).drew.kd)).mono ?_; rintro e wq ⟨x', y', z', lo, hi, n1, h1, n2, h2, n3, h3, sv2, rfl, q1, O, L2, hsv, ho⟩; obtain ⟨b1, k1, rfl⟩ := O.x.form; obtain ⟨b2, k2, rfl⟩ := O.y.form; obtain ⟨b3, k3, rfl⟩ := O.z.own.form; (first | (have YM := (by with_reducible exact Y.out.turnM ho HGt.out (HF3.out _ _ _ _ _ _ _ _ _ _ _ _ _ L2 O)); have HR := hide (by with_reducible exact HR2.out _ _ Y.out.kd _ q1); have HP := hide (by with_reducible exact HP3.out _ _ Y.out.kd _ hsv); have HM := hide (fun e he => Nat.lt_of_lt_of_le (YM.2 e he) q1); replace Y := hide YM.1; clear YM ho O L2 hsv q1) | (have YM := (by with_reducible exact (Y.out.alloc _ _).turnM ho HGt.out (HF3.out _ _ _ _ _ _ _ _ _ _ _ _ _ L2 O)); have HR := hide (by with_reducible exact HR2.out _ _ (Y.out.alloc _ _).kd _ q1); have HP := hide (by with_reducible exact HP3.out _ _ (Y.out.alloc _ _).kd _ hsv); have HM := hide (fun e he => Nat.lt_of_lt_of_le (YM.2 e he) q1); replace Y := hide YM.1; clear YM ho O L2 hsv q1) | (have YM := (by with_reducible exact ((Y.out.alloc _ _).alloc _ _).turnM ho HGt.out (HF3.out _ _ _ _ _ _ _ _ _ _ _ _ _ L2 O)); have HR := hide (by with_reducible exact HR2.out _ _ ((Y.out.alloc _ _).alloc _ _).kd _ q1); have HP := hide (by with_reducible exact HP3.out _ _ ((Y.out.alloc _ _).alloc _ _).kd _ hsv); have HM := hide (fun e he => Nat.lt_of_lt_of_le (YM.2 e he) q1); replace Y := hide YM.1; clear YM ho O L2 hsv q1) | (have YM := (by with_reducible exact (Y0.out.alloc _ _).drew.turnM ho HGt.out (HF3.out _ _ _ _ _ _ _ _ _ _ _ _ _ L2 O)); have HR := hide (by with_reducible exact HR2.out _ _ (Y0.out.alloc _ _).drew.kd _ q1); have HP := hide (by with_reducible exact HP3.out _ _ (Y0.out.alloc _ _).drew.kd _ hsv); have HM := hide (fun e he => Nat.lt_of_lt_of_le (YM.2 e he) q1); replace Y := hide YM.1; clear YM ho O L2 hsv q1) | (have YM := (by with_reducible exact ((Y0.out.alloc _ _).alloc _ _).drew.turnM ho HGt.out (HF3.out _ _ _ _ _ _ _ _ _ _ _ _ _ L2 O)); have HR := hide (by with_reducible exact HR2.out _ _ ((Y0.out.alloc _ _).alloc _ _).drew.kd _ q1); have HP := hide (by with_reducible exact HP3.out _ _ ((Y0.out.alloc _ _).alloc _ _).drew.kd _ hsv); have HM := hide (fun e he => Nat.lt_of_lt_of_le (YM.2 e he) q1); replace Y := hide YM.1; clear YM ho O L2 hsv q1)); (try simp only [World.size_alloc, World.size_drew, List.cons_append, List.nil_append] at HM HP); clear d0 d1 d2 d3 d4 d5; obtain ⟨d0, d1, d2, d3, d4, d5⟩ := KS.out _ _ Y.out.kd; (try simp only [World.size_alloc, World.size_drew, List.cons_append, List.nil_append] at Y); (first | clear e00 e01 e02 f00 f01 f02 f0l | skip); (first | (have e00 := Y.out.kd.cell 0 0 rfl rfl; have e01 := Y.out.kd.cell 0 1 rfl rfl; have e02 := Y.out.kd.cell 0 2 rfl rfl; have f00 := Y.out.kd.free 0 0 rfl; have f01 := Y.out.kd.free 0 1 rfl; have f02 := Y.out.kd.free 0 2 rfl; have f0l := Y.out.kd.lt 0 rfl) | skip); (first | clear e10 e11 e12 f10 f11 f12 f1l n01 n10 | skip); (first | (have e10 := Y.out.kd.cell 1 0 rfl rfl; have e11 := Y.out.kd.cell 1 1 rfl rfl; have e12 := Y.out.kd.cell 1 2 rfl rfl; have f10 := Y.out.kd.free 1 0 rfl; have f11 := Y.out.kd.free 1 1 rfl; have f12 := Y.out.kd.free 1 2 rfl; have f1l := Y.out.kd.lt 1 rfl; have n01 := Y.out.kd.ne 0 1 rfl rfl (by decide); have n10 := Y.out.kd.ne 1 0 rfl rfl (by decide); (try simp only [World.size_alloc, World.size_drew] at e10 e11 e12 f10 f11 f12 f1l n01 n10)) | skip)))
        all_goals go_wp2_with fail
        all_goals go_meet
        all_goals first
          | (have Z := (Y.out.kd.alloc #[.slice b1 S9.l.length k1, .slice b2 S9.r.length k2, .slice b3 S9.ps.length k3] 31).alloc #[.int .i64 p, .int .i64 t, .int .i64 S9.s] 32; simp only [World.size_alloc, World.size_drew, World.size_setCell, List.set_cons_zero, List.cons_append, List.nil_append] at Z; refine ⟨_, _, _, lo, hi, n1, h1, n2, h2, n3, h3, k1, k2, k3, b1, b2, b3, sv2, rfl, rfl, rfl, ?_, ?_, (by with_reducible exact hide (HB5.out _ _ Z)), ?_, HR.out, ?_, ?_, ?_⟩; (exact Z.mem 0 rfl); (exact Z.mem 1 rfl); (exact (Y.out.hold _ (below2 _ _ _)).2); (exact Z.low 0 rfl); (exact Z.low 1 rfl); (exact (Y.out.hold _ (below2 _ _ _)).1))
          | (have Z := (Y.out.kd.alloc #[.int .i64 p, .int .i64 t, .int .i64 S9.s] 32).alloc #[.slice b1 S9.l.length k1, .slice b2 S9.r.length k2, .slice b3 S9.ps.length k3] 31; simp only [World.size_alloc, World.size_drew, World.size_setCell, List.set_cons_zero, List.cons_append, List.nil_append] at Z; refine ⟨_, _, _, lo, hi, n1, h1, n2, h2, n3, h3, k1, k2, k3, b1, b2, b3, sv2, rfl, rfl, rfl, ?_, ?_, (by with_reducible exact hide (HB5.out _ _ Z)), ?_, HR.out, ?_, ?_, ?_⟩; (exact Z.mem 1 rfl); (exact Z.mem 0 rfl); (exact (Y.out.hold _ (below2 _ _ _)).2); (exact Z.low 1 rfl); (exact Z.low 0 rfl); (exact (Y.out.hold _ (below2 _ _ _)).1))
          | (have Z := (Y.out.kd.put3c 0 rfl (.slice b1 S9.l.length k1) (.slice b2 S9.r.length k2) (.slice b3 S9.ps.length k3)).alloc #[.int .i64 p, .int .i64 t, .int .i64 S9.s] 32; (try simp only [World.size_alloc, World.size_drew, World.size_setCell, List.set_cons_zero, List.cons_append, List.nil_append] at Z); refine ⟨_, _, _, lo, hi, n1, h1, n2, h2, n3, h3, k1, k2, k3, b1, b2, b3, sv2, rfl, rfl, rfl, ?_, ?_, (by with_reducible exact hide (HB5.out _ _ Z)), ?_, HR.out, ?_, ?_, ?_⟩; (exact Z.mem 0 rfl); (exact Z.mem 1 rfl); (exact (Y.out.now.2.seg (seg3 _ _ _ _ _) (.inr (HM.out _ (List.mem_cons_self ..)))).below (below1 _ _)); (exact Z.low 0 rfl); (exact Z.low 1 rfl); (exact (Y.out.now.1.poke3 (HP.out _ (List.mem_cons_self ..))).below (below1 _ _)))
          | (have Z := (Y.out.kd.put3c 0 rfl (.int .i64 p) (.int .i64 t) (.int .i64 S9.s)).alloc #[.slice b1 S9.l.length k1, .slice b2 S9.r.length k2, .slice b3 S9.ps.length k3] 31; (try simp only [World.size_alloc, World.size_drew, World.size_setCell, List.set_cons_zero, List.cons_append, List.nil_append] at Z); refine ⟨_, _, _, lo, hi, n1, h1, n2, h2, n3, h3, k1, k2, k3, b1, b2, b3, sv2, rfl, rfl, rfl, ?_, ?_, (by with_reducible exact hide (HB5.out _ _ Z)), ?_, HR.out, ?_, ?_, ?_⟩; (exact Z.mem 1 rfl); (exact Z.mem 0 rfl); (exact (Y.out.now.2.seg (seg3 _ _ _ _ _) (.inr (HM.out _ (List.mem_cons_self ..)))).below (below1 _ _)); (exact Z.low 1 rfl); (exact Z.low 0 rfl); (exact (Y.out.now.1.poke3 (HP.out _ (List.mem_cons_self ..))).below (below1 _ _)))
          | (have Z := (Y.out.kd.put3c 0 rfl (.slice b1 S9.l.length k1) (.slice b2 S9.r.length k2) (.slice b3 S9.ps.length k3)).put3c 1 rfl (.int .i64 p) (.int .i64 t) (.int .i64 S9.s); refine ⟨_, _, _, lo, hi, n1, h1, n2, h2, n3, h3, k1, k2, k3, b1, b2, b3, sv2, rfl, rfl, rfl, ?_, ?_, (by with_reducible exact hide (HB5.out _ _ Z)), ?_, HR.out, ?_, ?_, ?_⟩; (exact Z.mem 0 rfl); (exact Z.mem 1 rfl); (exact (Y.out.now.2.seg (seg3 _ _ _ _ _) (.inr (HM.out _ (List.mem_cons_self ..)))).seg (seg3 _ _ _ _ _) (.inr (HM.out _ (List.mem_cons_of_mem _ (List.mem_cons_self ..))))); (exact Z.low 0 rfl); (exact Z.low 1 rfl); (exact (Y.out.now.1.poke3 (HP.out _ (List.mem_cons_self ..))).poke3 (HP.out _ (List.mem_cons_of_mem _ (List.mem_cons_self ..)))))
          | (have Z := (Y.out.kd.put3c 1 rfl (.slice b1 S9.l.length k1) (.slice b2 S9.r.length k2) (.slice b3 S9.ps.length k3)).put3c 0 rfl (.int .i64 p) (.int .i64 t) (.int .i64 S9.s); refine ⟨_, _, _, lo, hi, n1, h1, n2, h2, n3, h3, k1, k2, k3, b1, b2, b3, sv2, rfl, rfl, rfl, ?_, ?_, (by with_reducible exact hide (HB5.out _ _ Z)), ?_, HR.out, ?_, ?_, ?_⟩; (exact Z.mem 1 rfl); (exact Z.mem 0 rfl); (exact (Y.out.now.2.seg (seg3 _ _ _ _ _) (.inr (HM.out _ (List.mem_cons_of_mem _ (List.mem_cons_self ..))))).seg (seg3 _ _ _ _ _) (.inr (HM.out _ (List.mem_cons_self ..)))); (exact Z.low 1 rfl); (exact Z.low 0 rfl); (exact (Y.out.now.1.poke3 (HP.out _ (List.mem_cons_of_mem _ (List.mem_cons_self ..)))).poke3 (HP.out _ (List.mem_cons_self ..))))
          | fail "fin"
      case rest =>
        obtain ⟨w7, g1, g2, lo, hi, n1, h1, n2, h2, n3, h3, k1, k2, k3, b1, b2, b3, sv2, rfl, rfl, rfl, E1, E2, HB7, O, HR, L1, L2, LG⟩ := hcut
        have X := hide (X.out.up HB7.out)
        have CT := hide (fun (W : World) (h : Lg W h0 sv2 cs9) => show Calls Try.prog 39 #[sv2] W (RetI1 W (S9.n : Int)) by rw [← HCT.out]; exact l7Total_any sv2 cs9 h0 W h HCN.out HCL.out)
        have KG := hide (fun (W : World) (h : Below w7.heap.size w7 W) => show W.cell? ⟨g1, 0, none⟩ = some (.slice b1 S9.l.length k1) ∧ W.cell? ⟨g1, 1, none⟩ = some (.slice b2 S9.r.length k2) ∧ W.cell? ⟨g1, 2, none⟩ = some (.slice b3 S9.ps.length k3) ∧ W.cell? ⟨g2, 0, none⟩ = some (.int .i64 p) ∧ W.cell? ⟨g2, 1, none⟩ = some (.int .i64 t) ∧ W.cell? ⟨g2, 2, none⟩ = some (.int .i64 S9.s) ∧ W.cell? ⟨lb, 0, none⟩ = some sv2 by
          have e1 : W.heap[g1]? = _ := (h.block g1 (Array.getElem?_eq_some_iff.1 E1.out).1).trans E1.out
          have e2 : W.heap[g2]? = _ := (h.block g2 (Array.getElem?_eq_some_iff.1 E2.out).1).trans E2.out
          exact ⟨cell_of_row W g1 0 _ _ (0, 0) e1, cell_of_row W g1 1 _ _ (0, 0) e1, cell_of_row W g1 2 _ _ (0, 0) e1, cell_of_row W g2 0 _ _ (0, 0) e2, cell_of_row W g2 1 _ _ (0, 0) e2, cell_of_row W g2 2 _ _ (0, 0) e2, (LG.out.below h).cell⟩)
        have hne1 : r1 ≠ r2 := by have := HBL0.out; omega
        have hne2 : r2 ≠ r1 := by have := HBL0.out; omega
        have hng0 : g1 ≠ r1 := by have := HBL0.out; have := L1.out; have := L2.out; have := HB6.out.size; have := hx5.out; have := HGl.out lb (List.mem_cons_self ..); omega
        have hng1 : g1 ≠ r2 := by have := HBL0.out; have := L1.out; have := L2.out; have := HB6.out.size; have := hx5.out; have := HGl.out lb (List.mem_cons_self ..); omega
        have hng2 : g2 ≠ r1 := by have := HBL0.out; have := L1.out; have := L2.out; have := HB6.out.size; have := hx5.out; have := HGl.out lb (List.mem_cons_self ..); omega
        have hng3 : g2 ≠ r2 := by have := HBL0.out; have := L1.out; have := L2.out; have := HB6.out.size; have := hx5.out; have := HGl.out lb (List.mem_cons_self ..); omega
        have hng4 : lb ≠ r1 := by have := HBL0.out; have := L1.out; have := L2.out; have := HB6.out.size; have := hx5.out; have := HGl.out lb (List.mem_cons_self ..); omega
        have hng5 : lb ≠ r2 := by have := HBL0.out; have := L1.out; have := L2.out; have := HB6.out.size; have := hx5.out; have := HGl.out lb (List.mem_cons_self ..); omega
        clear CW HF2 HF3 HP3 HR2 HH0 VC KS KX HB5 CC HCK HCS CB X5 HCN HCL HCT
        obtain ⟨u0, u1, u2, v0, v1, v2, kq0, kq1, kq2, lq0, lq1, lq2, mq0, mq1, mq2, n0', n1', n2'⟩ := KA.out _ X.out
        go_upto_region 5 with fail
        clear u0 u1 u2 v0 v1 v2 kq0 kq1 kq2 lq0 lq1 lq2 mq0 mq1 mq2 n0' n1' n2'
        have X := hide X.out.drew
        have HBd := hide (Below.refl w7.heap.size w7).drew
        obtain ⟨u0, u1, u2, v0, v1, v2, kq0, kq1, kq2, lq0, lq1, lq2, mq0, mq1, mq2, n0', n1', n2'⟩ := KA.out _ X.out
        obtain ⟨t0, t1, t2, t3, t4, t5, t6⟩ := KG.out _ HBd.out
        go_region_with (first
          | (go_at_call 39; refine (CT.out _ (LG.out.row.below HBd.out)).mono ?_; rintro e wq ⟨rfl, hb⟩; replace X := hide (X.out.up hb); replace HBd := hide (HBd.out.trans (hb.mono HBd.out.size)); clear hb u0 u1 u2 v0 v1 v2 kq0 kq1 kq2 lq0 lq1 lq2 mq0 mq1 mq2 n0' n1' n2' t0 t1 t2 t3 t4 t5 t6; obtain ⟨u0, u1, u2, v0, v1, v2, kq0, kq1, kq2, lq0, lq1, lq2, mq0, mq1, mq2, n0', n1', n2'⟩ := KA.out _ X.out; obtain ⟨t0, t1, t2, t3, t4, t5, t6⟩ := KG.out _ HBd.out))
        all_goals
          have Z := (X.out.put3c 2 rfl (.slice b1 S9.l.length k1) (.slice b2 S9.r.length k2) (.slice b3 S9.ps.length k3)).put3c 3 rfl (.int .i64 p) (.int .i64 t) (.int .i64 S9.s)
          have z0 := Z.cell 2 0 rfl rfl
          have z1 := Z.cell 2 1 rfl rfl
          have z2 := Z.cell 2 2 rfl rfl
          have z3 := Z.cell 3 0 rfl rfl
          have z4 := Z.cell 3 1 rfl rfl
          have z5 := Z.cell 3 2 rfl rfl
          have O8 := O.out.below HBd.out
          have O9 := (O8.seg (seg3 _ r1 (.slice b1 S9.l.length k1) (.slice b2 S9.r.length k2) (.slice b3 S9.ps.length k3)) (.inr (by have := HR.out; have := HBL0.out; omega))).seg (seg3 _ r2 (.int .i64 p) (.int .i64 t) (.int .i64 S9.s)) (.inr (by have := HR.out; have := HBL0.out; omega))
          clear O8 u0 u1 u2 v0 v1 v2 kq0 kq1 kq2 lq0 lq1 lq2 mq0 mq1 mq2 n0' n1' n2' t0 t1 t2 t3 t4 t5 t6
          rename ∀ (a : Act) (w' : World), Code.wp _ Code.ret _ a w' → _ => HK
          refine HK _ _ ?_
          refine wp_ret ?_
          exact bodyPost_ret (v := .tuple #[.agg #[.slice b1 S9.l.length k1, .slice b2 S9.r.length k2, .slice b3 S9.ps.length k3], .agg #[.int .i64 p, .int .i64 t, .int .i64 S9.s], .int .i64 (S9.n : Int)]) (by simp [results, Try.results9, go_sem, z0, z1, z2, z3, z4, z5]) rfl
            ⟨_, _, _, lo, hi, n1, h1, n2, h2, n3, h3, rfl, by have := HR.out; have := HBL0.out; omega, O9.top.2, O9, Z.below⟩

end Go.Proofs.Ytdjhnamofmcmjaa

/- For laws whose function takes a column and settings and returns both: blocks made in a region that draws its order; what a policy leaves stays in bounds. -/
namespace Go.Proofs.Ytdjhnamofmcmjaa
open Go.RowKit Go.ChangeShapes
set_option linter.unusedSimpArgs false
set_option linter.unusedVariables false
set_option maxRecDepth 100000

theorem Kd.kn {w W : World} {L : List (Nat × Array Value × TypeId)} (h : Kd [] w W L) : Kn w W L :=
  ⟨h.only.toBelow (by simp) (Nat.le_refl _), h.hold, h.high, h.nodup⟩
theorem Kn.swap {w W : World} {a b : Nat × Array Value × TypeId} (h : Kn w W [a, b]) : Kn w W [b, a] :=
  ⟨h.below, fun e he => h.hold e (by simpa [or_comm] using he), fun e he => h.high e (by simpa [or_comm] using he), by
    have := h.nodup
    simp only [List.map_cons, List.map_nil, List.nodup_cons, List.mem_singleton, List.not_mem_nil, not_false_eq_true, List.nodup_nil, and_true] at this ⊢
    exact fun e => this e.symm⟩
theorem below_nil {w W : World} {L : List (Nat × Array Value × TypeId)} (h : Kd [] w W L) : Below w.heap.size w W := h.kn.below

theorem cwF_wf {l r : List Int} {ps : List Pv} {p t s v : Int} (hwf : Wf l r ps 1048576) : Wf (cwF l r ps p t s v).l (cwF l r ps p t s v).r (cwF l r ps p t s v).ps 1048576 := by
  by_cases h : cwOk l r ps p t s v = true
  · exact wf_up (cwF_run hwf h).1.2.1 (by omega)
  · have e : cwF l r ps p t s v = ⟨l, r, ps, s, 0⟩ := by unfold cwF; rw [if_neg h]
    rw [e]
    exact hwf

end Go.Proofs.Ytdjhnamofmcmjaa
