/- What AddInsert of the reference returns (promise 7). -/
import Derived.Test.YtajfhalalnlejaaPdT
import Derived.Test.YtajfhalalnlejaaPdC
import Derived.Test.YtajfhalalnlejaaIw
namespace Go.Proofs.Ytajfhalalnlejaa
open Go.RowKit Go.ChangeShapes
set_option linter.unusedSimpArgs false
set_option linter.unusedVariables false
set_option maxRecDepth 100000

/-- Updates of the call's own and a truth are returned; nothing that was there has turned. -/
def RetPB (w : World) (i : List Pv) (d : List Int) (b : Bool) (e : Ending) (w' : World) : Prop := ∃ u, e = .returned (.tuple #[u, .bool b]) ∧ PdOs w' u i d w.heap.size w'.heap.size ∧ Below w.heap.size w w'

theorem pv_news {W : World} {g : Nat} {x y : Int} (h : W.heap[g]? = some (.cells #[.int .i64 x, .int .i64 y] 49 (0, 0))) : ∀ j u, (pvVs [(x, y)])[j]? = some u → W.cell? ((⟨g, 0, none⟩ : Addr).add j) = some u := by
  intro j u hj
  rw [addr_add, cell_of_row W g (0 + j) _ _ (0, 0) h, Nat.zero_add]
  simpa [pvVs] using hj

theorem pdWf_app {ins : List Pv} {de : List Int} {v t : Int} (h : PdWf ins de) (h1 : I64 v) (h2 : I64 t) (hl : ins.length ≤ 4000000) : PdWf (ins ++ [(v, t)]) de := by
  refine ⟨⟨by simp; omega, fun p hp => ?_⟩, h.2⟩
  rcases List.mem_append.1 hp with hp | hp
  · exact h.1.2 p hp
  · simp at hp
    subst hp
    exact ⟨h1, h2⟩

set_option maxHeartbeats 8000000 in
theorem sAi_any (v0 v1 : Value) (l r : List Int) (ps : List Pv) (ins : List Pv) (de : List Int) (v t : Int) (w : World) (k0 : Ck w w.heap.size v0 l r ps) (k1 : Pd w w.heap.size v1 ins de) (h1 : l.length ≤ 1048576) (h4 : ins.length ≤ 1048576) (h5 : de.length ≤ 1048576) (h6 : I64 v) (h7 : I64 t) :
    Calls Try.prog 42 #[v0, v1, .agg #[.int .i64 v, .int .i64 t]] w (RetPB w (aiI l r ps ins de v t) de (aiB l r ps ins de v t)) := by
  obtain ⟨a1, c1, a2, c2, a3, c3, rfl, -⟩ := k0.form
  obtain ⟨b1, d1, b2, d2, rfl, -⟩ := k1.form
  have hwf := k1.wf
  have X : Hid (Kn w ((((w.alloc (.cells #[.slice a1 l.length c1, .slice a2 r.length c2, .slice a3 ps.length c3] 27)).alloc (.cells #[.slice b1 ins.length d1, .slice b2 de.length d2] 70)).alloc (.cells #[.int .i64 v, .int .i64 t] 49)).alloc (.cells #[.slice none 0 0, .slice none 0 0] 70))
      [(w.heap.size, #[.slice a1 l.length c1, .slice a2 r.length c2, .slice a3 ps.length c3], 27), (w.heap.size + 1, #[.slice b1 ins.length d1, .slice b2 de.length d2], 70), (w.heap.size + 1 + 1, #[.int .i64 v, .int .i64 t], 49), (w.heap.size + 1 + 1 + 1, #[.slice none 0 0, .slice none 0 0], 70)]) := hide (by
    simpa using (Kn.three w #[.slice a1 l.length c1, .slice a2 r.length c2, .slice a3 ps.length c3] #[.slice b1 ins.length d1, .slice b2 de.length d2] #[.int .i64 v, .int .i64 t] 27 70 49).alloc #[.slice none 0 0, .slice none 0 0] 70)
  obtain ⟨w1, hw1⟩ : ∃ w1, w1 = ((((w.alloc (.cells #[.slice a1 l.length c1, .slice a2 r.length c2, .slice a3 ps.length c3] 27)).alloc (.cells #[.slice b1 ins.length d1, .slice b2 de.length d2] 70)).alloc (.cells #[.int .i64 v, .int .i64 t] 49)).alloc (.cells #[.slice none 0 0, .slice none 0 0] 70)) := ⟨_, rfl⟩
  have N1 := hide (show w1.heap.size = w.heap.size + 1 + 1 + 1 + 1 by rw [hw1]; simp)
  rw [← hw1] at X
  have V := hide (fun (W : World) (h : Below w.heap.size w W) => k0.below h (Nat.le_refl _))
  have U := hide (fun (W : World) (h : Below w.heap.size w W) => k1.below h (Nat.le_refl _))
  clear k0 k1
  obtain ⟨bP, hbP⟩ : ∃ q, q = isPd l r ps ins de := ⟨_, rfl⟩
  have HBP := hide hbP
  obtain ⟨ip, hip⟩ : ∃ q, q = ins ++ [(v, t)] := ⟨_, rfl⟩
  have HIP := hide hip
  have hipl : ip.length ≤ 1048577 := by rw [hip]; simp; omega
  obtain ⟨bQ, hbQ⟩ : ∃ q, q = isPd l r ps ip de := ⟨_, rfl⟩
  have HBQ := hide hbQ
  have e0 : w1.cell? ⟨w.heap.size + 1, 0, none⟩ = some (.slice b1 ins.length d1) := X.out.cell 1 0 rfl rfl
  have e1 : w1.cell? ⟨w.heap.size + 1, 1, none⟩ = some (.slice b2 de.length d2) := X.out.cell 1 1 rfl rfl
  rw [hw1] at e0 e1
  go_enter Try.func42, Try.ntmps42
  go_wp2_with fail
  rw [← hw1]
  clear hw1 e0 e1 hbP hbQ hip
  go_at_call 92
  refine (sPdCopy_any _ ins de w1 w.heap.size (U.out _ X.out.below) X.out.below.size (by omega) (by omega)).mono ?_
  rintro e w2 ⟨q, rfl, ⟨qx, qy, n1, m1, n2, m2, rfl, OQ⟩, hb⟩
  have X := hide (X.out.up hb)
  obtain ⟨g1, s1, rfl⟩ := OQ.p1.own.form
  obtain ⟨g2, s2, rfl⟩ := OQ.p2.form
  have N2 := hide OQ.low
  have N3 := hide OQ.high
  have N4 := hide OQ.apart
  have N5 := hide hb.size
  have O1 := hide OQ.p1
  have O2 := hide OQ.p2
  clear hb OQ
  -- q's box
  have bl := below1 w2 (.cells #[.slice g1 ins.length s1, .slice g2 de.length s2] 70)
  have X := hide (X.out.alloc #[.slice g1 ins.length s1, .slice g2 de.length s2] 70)
  have O1 := hide (O1.out.below bl)
  have O2 := hide (O2.out.below bl)
  obtain ⟨w3, hw3⟩ : ∃ q, q = w2.alloc (.cells #[.slice g1 ins.length s1, .slice g2 de.length s2] 70) := ⟨_, rfl⟩
  obtain ⟨bq, hbq⟩ : ∃ q, q = w2.heap.size := ⟨_, rfl⟩
  have N6 := hide (show bq = w2.heap.size ∧ w3.heap.size = w2.heap.size + 1 by rw [hw3, hbq]; simp)
  rw [← hw3] at X O1 O2
  rw [← hbq] at X
  simp only [List.cons_append, List.nil_append] at X
  clear bl
  -- the item's row
  have bl := below1 w3 (.cells #[.int .i64 v, .int .i64 t] 49)
  have O1 := hide (O1.out.below bl)
  have O2 := hide (O2.out.below bl)
  have Y := hide (X.out.alloc #[.int .i64 v, .int .i64 t] 49)
  obtain ⟨w4, hw4⟩ : ∃ q, q = w3.alloc (.cells #[.int .i64 v, .int .i64 t] 49) := ⟨_, rfl⟩
  obtain ⟨gi, hgi⟩ : ∃ q, q = w3.heap.size := ⟨_, rfl⟩
  have N7 := hide (show gi = w3.heap.size ∧ w4.heap.size = w3.heap.size + 1 by rw [hw4, hgi]; simp)
  have hg2 := hide (show w2.heap.size + 1 = gi by rw [hgi, hw3]; simp)
  rw [← hw4] at Y O1 O2
  rw [← hgi] at Y
  simp only [List.cons_append, List.nil_append] at Y
  clear bl
  have e0 : w3.cell? ⟨bq, 0, none⟩ = some (.slice g1 ins.length s1) := X.out.cell 4 0 rfl rfl
  have e1 : w3.cell? ⟨w.heap.size + 1 + 1, 0, none⟩ = some (.int .i64 v) := X.out.cell 2 0 rfl rfl
  have e2 : w3.cell? ⟨w.heap.size + 1 + 1, 1, none⟩ = some (.int .i64 t) := X.out.cell 2 1 rfl rfl
  rw [hw3, hbq] at e0
  rw [hw3] at e1 e2
  go_wp2_with (first | (at_builtin; apply Hid.out) | fail)
  refine hide ?_
  rw [hg2.out, ← hbq, ← hw3, ← hw4]
  clear hbq hw3 hw4 hgi hg2 e0 e1 e2 X
  refine owi_app_list w4 rfl _ _ rfl _ ins [(v, t)] n1 m1 O1.out rfl ⟨gi, 0, none⟩ 1 rfl (pv_news (Y.out.mem 5 rfl)) (by simp; omega) ?_
  intro v' w5 n1' m1' O1' hwh sg
  have t1 := O1.out.le
  have t2 := O1.out.top
  have t3 := O2.out.top
  have t4 := O2.out.le
  have t5 := O1'.top
  have p1 := N1.out
  have p2 := N2.out
  have p3 := N3.out
  have p4 := N4.out
  have p5 := N5.out
  have p6 := N6.out
  have p7 := N7.out
  have hs5 := sg.below.size
  have X := hide (Y.out.seg sg (by omega) (by simp; omega))
  have O2 := hide (O2.out.seg sg (by omega))
  rw [← HIP.out] at O1'
  obtain ⟨g1', s1', hf⟩ := O1'.own.form
  subst hf
  have M1 := hide (show w1.heap.size ≤ n1' ∧ w1.heap.size ≤ n2 ∧ (m1' ≤ n2 ∨ m2 ≤ n1') ∧ (bq < n1' ∨ m1' ≤ bq) ∧ m2 ≤ bq ∧ w.heap.size + 1 + 1 + 1 < n1' ∧ w.heap.size + 1 + 1 + 1 < n2 by omega)
  clear t1 t2 t3 t4 t5 p2 p3 p4 p5 p6 p7 hs5 sg hwh O1 Y N2 N3 N4 N5 N6 N7
  -- the store
  have e0 := X.out.cell 4 0 rfl rfl
  have f0 := X.out.free 4 0 rfl
  have Z := hide (X.out.set 4 0 rfl (.slice g1' ip.length s1'))
  have sg := Seg.setCell w5 bq 0 (.slice g1' ip.length s1')
  obtain ⟨q1, q2, q3, q4, q5, q6, q7⟩ := M1.out
  have O1 := hide (O1'.seg sg (by omega))
  have O2 := hide (O2.out.seg sg (by omega))
  clear sg q1 q2 q3 q4 q5 q6 q7 O1'
  obtain ⟨w6, hw6⟩ : ∃ q, q = w5.setCell ⟨bq, 0, none⟩ (.slice g1' ip.length s1') := ⟨_, rfl⟩
  rw [← hw6] at Z O1 O2
  have z0 : w6.cell? ⟨w.heap.size, 0, none⟩ = some (.slice a1 l.length c1) := Z.out.cell 0 0 rfl rfl
  have z1 : w6.cell? ⟨w.heap.size, 1, none⟩ = some (.slice a2 r.length c2) := Z.out.cell 0 1 rfl rfl
  have z2 : w6.cell? ⟨w.heap.size, 2, none⟩ = some (.slice a3 ps.length c3) := Z.out.cell 0 2 rfl rfl
  have y0 : w6.cell? ⟨w.heap.size + 1, 0, none⟩ = some (.slice b1 ins.length d1) := Z.out.cell 1 0 rfl rfl
  have y1 : w6.cell? ⟨w.heap.size + 1, 1, none⟩ = some (.slice b2 de.length d2) := Z.out.cell 1 1 rfl rfl
  rw [hw6] at z0 z1 z2 y0 y1
  go_wp2_with fail
  rw [← hw6]
  clear hw6 z0 z1 z2 y0 y1 e0 f0 X
  have X := Z
  clear Z
  go_at_call 38
  refine (sIsPd_any _ _ l r ps ins de w6 w.heap.size (V.out _ X.out.below) (U.out _ X.out.below) X.out.below.size h1 (by omega)).mono ?_
  rintro e w7 ⟨rfl, hb⟩
  rw [← HBP.out]
  have X := hide (X.out.up hb)
  have O1 := hide (O1.out.below hb)
  have O2 := hide (O2.out.below hb)
  have N8 := hide hb.size
  clear hb
  cases bP
  · have HF := hide (fun (W : World) (u : Value) (h : PdOs W u ins de w.heap.size W.heap.size) (hb : Below w.heap.size w W) => show RetPB w (aiI l r ps ins de v t) de (aiB l r ps ins de v t) (.returned (.tuple #[u, .bool false])) W by
      have hx : aiB l r ps ins de v t = false := by unfold aiB; rw [← HBP.out]; rfl
      unfold aiI
      rw [hx]
      exact ⟨_, rfl, h, hb⟩)
    have x0 : w7.cell? ⟨w.heap.size + 1, 0, none⟩ = some (.slice b1 ins.length d1) := X.out.cell 1 0 rfl rfl
    have x1 : w7.cell? ⟨w.heap.size + 1, 1, none⟩ = some (.slice b2 de.length d2) := X.out.cell 1 1 rfl rfl
    go_wp2_with fail
    clear x0 x1
    go_at_call 92
    refine (sPdCopy_any _ ins de w7 w.heap.size (U.out _ X.out.below) X.out.below.size (by omega) (by omega)).mono ?_
    rintro e w9 ⟨q, rfl, ⟨qx, qy, n3, m3, n4, m4, rfl, OQ⟩, hb⟩
    have hsz := X.out.below.size
    have hlo := X.out.lt 3 rfl
    have X := hide (X.out.up hb)
    obtain ⟨g3, s3, rfl⟩ := OQ.p1.own.form
    obtain ⟨g4, s4, rfl⟩ := OQ.p2.form
    have y0 := X.out.cell 3 0 rfl rfl
    have y1 := X.out.cell 3 1 rfl rfl
    have z0 := X.out.free 3 0 rfl
    have z1 := X.out.free 3 1 rfl
    go_wp2_with fail
    have Z := (X.out.set 3 0 rfl (.slice g3 ins.length s3)).set 3 1 rfl (.slice g4 de.length s4)
    have sg : Seg (w.heap.size + 1 + 1 + 1) (w.heap.size + 1 + 1 + 1 + 1) w9 ((w9.setCell ⟨w.heap.size + 1 + 1 + 1, 0, none⟩ (.slice g3 ins.length s3)).setCell ⟨w.heap.size + 1 + 1 + 1, 1, none⟩ (.slice g4 de.length s4)) := segS2 (Nat.le_refl _) (Nat.lt_succ_self _) _ _
    have OR := OQ.seg sg (.inr (by omega))
    have q0 := Z.cell 3 0 rfl rfl
    have q1 := Z.cell 3 1 rfl rfl
    have hfin : PdOs ((w9.setCell ⟨w.heap.size + 1 + 1 + 1, 0, none⟩ (.slice g3 ins.length s3)).setCell ⟨w.heap.size + 1 + 1 + 1, 1, none⟩ (.slice g4 de.length s4)) (.agg #[.slice g3 ins.length s3, .slice g4 de.length s4]) ins de w.heap.size ((w9.setCell ⟨w.heap.size + 1 + 1 + 1, 0, none⟩ (.slice g3 ins.length s3)).setCell ⟨w.heap.size + 1 + 1 + 1, 1, none⟩ (.slice g4 de.length s4)).heap.size := PdOs.mono ⟨_, _, _, _, _, _, rfl, OR⟩ hsz (by simp) (Nat.le_refl _)
    have hzb := Z.below
    clear y0 y1 z0 z1 sg OR OQ
    exact bodyPost_ret (v := .tuple #[.agg #[.slice g3 ins.length s3, .slice g4 de.length s4], .bool false]) (by simp [results, Try.results42, go_sem, q0, q1]) rfl (HF.out _ _ hfin hzb)
  have z0 : w7.cell? ⟨w.heap.size, 0, none⟩ = some (.slice a1 l.length c1) := X.out.cell 0 0 rfl rfl
  have z1 : w7.cell? ⟨w.heap.size, 1, none⟩ = some (.slice a2 r.length c2) := X.out.cell 0 1 rfl rfl
  have z2 : w7.cell? ⟨w.heap.size, 2, none⟩ = some (.slice a3 ps.length c3) := X.out.cell 0 2 rfl rfl
  have y0 : w7.cell? ⟨bq, 0, none⟩ = some (.slice g1' ip.length s1') := X.out.cell 4 0 rfl rfl
  have y1 : w7.cell? ⟨bq, 1, none⟩ = some (.slice g2 de.length s2) := X.out.cell 4 1 rfl rfl
  have WF := hide (show PdWf ip de by rw [HIP.out]; exact pdWf_app hwf h6 h7 (by omega))
  have RQ := hide (show Pd w7 w7.heap.size (.agg #[.slice g1' ip.length s1', .slice g2 de.length s2]) ip de from ⟨_, _, rfl, O1.out.own.pvs (Nat.le_refl _) (WF.out).1.1 (WF.out).1.2, O2.out.ints hwf.2, O1.out.cap, O2.out.cap⟩)
  go_wp2_with fail
  clear z0 z1 z2 y0 y1
  go_at_call 38
  refine (sIsPd_any _ _ l r ps ip de w7 w7.heap.size ((V.out _ X.out.below).mono X.out.below.size) RQ.out (Nat.le_refl _) h1 hipl).mono ?_
  rintro e w8 ⟨rfl, hb⟩
  rw [← HBQ.out]
  have X := hide (X.out.up hb)
  have O1 := hide (O1.out.below hb)
  have O2 := hide (O2.out.below hb)
  clear hb RQ
  cases bQ
  · have HF := hide (fun (W : World) (u : Value) (h : PdOs W u ins de w.heap.size W.heap.size) (hb : Below w.heap.size w W) => show RetPB w (aiI l r ps ins de v t) de (aiB l r ps ins de v t) (.returned (.tuple #[u, .bool false])) W by
      have hx : aiB l r ps ins de v t = false := by unfold aiB; rw [← HIP.out, ← HBQ.out]; simp
      unfold aiI
      rw [hx]
      exact ⟨_, rfl, h, hb⟩)
    have x0 : w8.cell? ⟨w.heap.size + 1, 0, none⟩ = some (.slice b1 ins.length d1) := X.out.cell 1 0 rfl rfl
    have x1 : w8.cell? ⟨w.heap.size + 1, 1, none⟩ = some (.slice b2 de.length d2) := X.out.cell 1 1 rfl rfl
    go_wp2_with fail
    clear x0 x1
    go_at_call 92
    refine (sPdCopy_any _ ins de w8 w.heap.size (U.out _ X.out.below) X.out.below.size (by omega) (by omega)).mono ?_
    rintro e w9 ⟨q, rfl, ⟨qx, qy, n3, m3, n4, m4, rfl, OQ⟩, hb⟩
    have hsz := X.out.below.size
    have hlo := X.out.lt 3 rfl
    have X := hide (X.out.up hb)
    obtain ⟨g3, s3, rfl⟩ := OQ.p1.own.form
    obtain ⟨g4, s4, rfl⟩ := OQ.p2.form
    have y0 := X.out.cell 3 0 rfl rfl
    have y1 := X.out.cell 3 1 rfl rfl
    have z0 := X.out.free 3 0 rfl
    have z1 := X.out.free 3 1 rfl
    go_wp2_with fail
    have Z := (X.out.set 3 0 rfl (.slice g3 ins.length s3)).set 3 1 rfl (.slice g4 de.length s4)
    have sg : Seg (w.heap.size + 1 + 1 + 1) (w.heap.size + 1 + 1 + 1 + 1) w9 ((w9.setCell ⟨w.heap.size + 1 + 1 + 1, 0, none⟩ (.slice g3 ins.length s3)).setCell ⟨w.heap.size + 1 + 1 + 1, 1, none⟩ (.slice g4 de.length s4)) := segS2 (Nat.le_refl _) (Nat.lt_succ_self _) _ _
    have OR := OQ.seg sg (.inr (by omega))
    have q0 := Z.cell 3 0 rfl rfl
    have q1 := Z.cell 3 1 rfl rfl
    have hfin : PdOs ((w9.setCell ⟨w.heap.size + 1 + 1 + 1, 0, none⟩ (.slice g3 ins.length s3)).setCell ⟨w.heap.size + 1 + 1 + 1, 1, none⟩ (.slice g4 de.length s4)) (.agg #[.slice g3 ins.length s3, .slice g4 de.length s4]) ins de w.heap.size ((w9.setCell ⟨w.heap.size + 1 + 1 + 1, 0, none⟩ (.slice g3 ins.length s3)).setCell ⟨w.heap.size + 1 + 1 + 1, 1, none⟩ (.slice g4 de.length s4)).heap.size := PdOs.mono ⟨_, _, _, _, _, _, rfl, OR⟩ hsz (by simp) (Nat.le_refl _)
    have hzb := Z.below
    clear y0 y1 z0 z1 sg OR OQ
    exact bodyPost_ret (v := .tuple #[.agg #[.slice g3 ins.length s3, .slice g4 de.length s4], .bool false]) (by simp [results, Try.results42, go_sem, q0, q1]) rfl (HF.out _ _ hfin hzb)
  have HF := hide (fun (W : World) (u : Value) (h : PdOs W u ip de w.heap.size W.heap.size) (hb : Below w.heap.size w W) => show RetPB w (aiI l r ps ins de v t) de (aiB l r ps ins de v t) (.returned (.tuple #[u, .bool true])) W by
      have hx : aiB l r ps ins de v t = true := by unfold aiB; rw [← HIP.out, ← HBP.out, ← HBQ.out]; rfl
      unfold aiI
      rw [hx, ← HIP.out]
      exact ⟨_, rfl, h, hb⟩)
  have y0 : w8.cell? ⟨bq, 0, none⟩ = some (.slice g1' ip.length s1') := X.out.cell 4 0 rfl rfl
  have y1 : w8.cell? ⟨bq, 1, none⟩ = some (.slice g2 de.length s2) := X.out.cell 4 1 rfl rfl
  have x0 := X.out.cell 3 0 rfl rfl
  have x1 := X.out.cell 3 1 rfl rfl
  have z0 := X.out.free 3 0 rfl
  have z1 := X.out.free 3 1 rfl
  go_wp2_with fail
  have Z := (X.out.set 3 0 rfl (.slice g1' ip.length s1')).set 3 1 rfl (.slice g2 de.length s2)
  have sg : Seg (w.heap.size + 1 + 1 + 1) (w.heap.size + 1 + 1 + 1 + 1) w8 ((w8.setCell ⟨w.heap.size + 1 + 1 + 1, 0, none⟩ (.slice g1' ip.length s1')).setCell ⟨w.heap.size + 1 + 1 + 1, 1, none⟩ (.slice g2 de.length s2)) := segS2 (Nat.le_refl _) (Nat.lt_succ_self _) _ _
  obtain ⟨q1, q2, q3, q4, q5, q6, q7⟩ := M1.out
  have O1 := O1.out.seg sg (.inr (by omega))
  have O2 := O2.out.seg sg (.inr (by omega))
  have p0 := Z.cell 3 0 rfl rfl
  have p1 := Z.cell 3 1 rfl rfl
  have p2 := N1.out
  have t1 := O1.top
  have t2 := O2.top
  have t3 := Z.below.size
  have hfin : PdOs ((w8.setCell ⟨w.heap.size + 1 + 1 + 1, 0, none⟩ (.slice g1' ip.length s1')).setCell ⟨w.heap.size + 1 + 1 + 1, 1, none⟩ (.slice g2 de.length s2)) (.agg #[.slice g1' ip.length s1', .slice g2 de.length s2]) ip de w.heap.size ((w8.setCell ⟨w.heap.size + 1 + 1 + 1, 0, none⟩ (.slice g1' ip.length s1')).setCell ⟨w.heap.size + 1 + 1 + 1, 1, none⟩ (.slice g2 de.length s2)).heap.size := ⟨_, _, _, _, _, _, rfl, O1, O2, ⟨by omega, by omega⟩, ⟨t1, t2⟩, q3, t3, Nat.le_refl _⟩
  have hzb := Z.below
  clear x0 x1 y0 y1 z0 z1 sg O1 O2 q1 q2 q3 q4 q5 q6 q7 p2 t1 t2 t3
  exact bodyPost_ret (v := .tuple #[.agg #[.slice g1' ip.length s1', .slice g2 de.length s2], .bool true]) (by simp [results, Try.results42, go_sem, p0, p1]) rfl (HF.out _ _ hfin hzb)

end Go.Proofs.Ytajfhalalnlejaa
