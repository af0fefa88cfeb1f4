/- What AddDelete of the program returns (gen_axi.py; promise 7). -/
import Derived.Test.YtajfhalalnlejaaDf
import Derived.Test.YtajfhalalnlejaaPdX
import Derived.Test.YtajfhalalnlejaaPdI
import Derived.Test.YtajfhalalnlejaaPdP
namespace Go.Proofs.Ytajfhalalnlejaa
open Go.RowKit Go.ChangeShapes
set_option linter.unusedSimpArgs false
set_option linter.unusedVariables false
set_option maxRecDepth 100000

/-- Deletes with one row more, where no insert has it. -/
def dqR (ins : List Pv) (de : List Int) (row : Int) : List Int := if (keptR ins row).length = ins.length then de ++ [row] else de
theorem dqR_adq (ins : List Pv) (de : List Int) (row : Int) : dqR ins de row = adqD ins de row := by
  unfold dqR adqD
  by_cases h : (keptR ins row).length = ins.length
  · have := (keptR_len_iff ins row).1 h
    rw [if_pos h, if_neg (by omega)]
  · have : ¬ hasR ins row < 0 := fun h2 => h ((keptR_len_iff ins row).2 h2)
    rw [if_neg h, if_pos (by omega)]
theorem kept_adq {l r : List Int} {ps : List Pv} {ins : List Pv} {de : List Int} (row : Int) (h : isPd l r ps ins de = true) : keptR ins row = adqI ins row ∧ dqR ins de row = adqD ins de row :=
  ⟨keptR_adq (insOk_rows.1 (isPd_parts h).2.2.2.2.1).2, dqR_adq ins de row⟩
theorem dqR_wf {ins : List Pv} {de : List Int} {row : Int} (h : PdWf ins de) (h1 : I64 row) : PdWf (keptR ins row) (dqR ins de row) := by
  refine ⟨⟨Nat.le_trans (keptR_le ins row) h.1.1, fun p hp => h.1.2 p (keptR_sub hp)⟩, fun x hx => ?_⟩
  unfold dqR at hx
  split at hx
  · rcases List.mem_append.1 hx with hx | hx
    · exact h.2 x hx
    · simp at hx
      subst hx
      exact h1
  · exact h.2 x hx

theorem ax_wf {l r : List Int} {ps : List Pv} {ins : List Pv} {de : List Int} {row : Int} (h : ins.length + de.length ≤ 1048576) (hw : PdWf ins de) (h1 : I64 row) : ((axI l r ps ins de row).length ≤ 4000000 ∧ (axD l r ps ins de row).length ≤ 4000000) ∧ PdWf (axI l r ps ins de row) (axD l r ps ins de row) := by
  have a1 : (adqI ins row).length ≤ 4000000 := by unfold adqI; split <;> (try simp) <;> omega
  have a2 : (adqD ins de row).length ≤ 4000000 := by unfold adqD; split <;> (try simp) <;> omega
  unfold axI axD
  by_cases hb : axB l r ps ins de row = true
  · rw [if_pos hb, if_pos hb]; exact ⟨⟨a1, a2⟩, pdWf_ax hw h1 (by omega)⟩
  · rw [if_neg hb, if_neg hb]; exact ⟨⟨by omega, by omega⟩, hw⟩

set_option maxHeartbeats 8000000 in
theorem iAx_any (v0 v1 : Value) (l r : List Int) (ps : List Pv) (ins : List Pv) (de : List Int) (row : Int) (w : World) (k0 : Ck w w.heap.size v0 l r ps) (k1 : Pd w w.heap.size v1 ins de) (h1 : l.length ≤ 1048576) (h2 : r.length ≤ 1048576) (h4 : ins.length ≤ 1048576) (h5 : de.length ≤ 1048576) (h6 : I64 row) :
    Calls Try.prog 47 #[v0, v1, .int .i64 row] w (RetPB w (axI l r ps ins de row) (axD l r ps ins de row) (axB l r ps ins de row)) := by
  obtain ⟨a1, c1, a2, c2, a3, c3, rfl, -⟩ := k0.form
  obtain ⟨b1, d1, b2, d2, rfl, -⟩ := k1.form
  have hwf := k1.wf
  have X : Hid (Kn w ((((w.alloc (.cells #[.slice a1 l.length c1, .slice a2 r.length c2, .slice a3 ps.length c3] 27)).alloc (.cells #[.slice b1 ins.length d1, .slice b2 de.length d2] 70)).alloc (.cells #[.int .i64 row] 3)).alloc (.cells #[.slice none 0 0, .slice none 0 0] 70)) [(w.heap.size, #[.slice a1 l.length c1, .slice a2 r.length c2, .slice a3 ps.length c3], 27), (w.heap.size + 1, #[.slice b1 ins.length d1, .slice b2 de.length d2], 70), (w.heap.size + 1 + 1, #[.int .i64 row], 3), (w.heap.size + 1 + 1 + 1, #[.slice none 0 0, .slice none 0 0], 70)]) := hide (by
    simpa using (Kn.three w #[.slice a1 l.length c1, .slice a2 r.length c2, .slice a3 ps.length c3] #[.slice b1 ins.length d1, .slice b2 de.length d2] #[.int .i64 row] 27 70 3).alloc #[.slice none 0 0, .slice none 0 0] 70)
  obtain ⟨w1, hw1⟩ : ∃ w1, w1 = (((w.alloc (.cells #[.slice a1 l.length c1, .slice a2 r.length c2, .slice a3 ps.length c3] 27)).alloc (.cells #[.slice b1 ins.length d1, .slice b2 de.length d2] 70)).alloc (.cells #[.int .i64 row] 3)).alloc (.cells #[.slice none 0 0, .slice none 0 0] 70) := ⟨_, rfl⟩
  have N1 := hide (show w1.heap.size = w.heap.size + 1 + 1 + 1 + 1 by rw [hw1]; simp)
  rw [← hw1] at X
  have V := hide (fun (W : World) (h : Below w.heap.size w W) => k0.below h (Nat.le_refl _))
  have U := hide (fun (W : World) (h : Below w.heap.size w W) => k1.below h (Nat.le_refl _))
  clear k0 k1
  obtain ⟨bP, hbP⟩ : ∃ q, q = isPd l r ps ins de := ⟨_, rfl⟩
  have HBP := hide hbP
  have e0 : w1.cell? ⟨w.heap.size + 1, 0, none⟩ = some (.slice b1 ins.length d1) := X.out.cell 1 0 rfl rfl
  have e1 : w1.cell? ⟨w.heap.size + 1, 1, none⟩ = some (.slice b2 de.length d2) := X.out.cell 1 1 rfl rfl
  rw [hw1] at e0 e1
  go_enter Try.func47, Try.ntmps47
  go_wp2_with fail
  rw [← hw1]
  clear hw1 e0 e1 hbP
  go_at_call 93
  refine (iPdCopy_any _ ins de w1 w.heap.size (U.out _ X.out.below) X.out.below.size (by omega) (by omega)).mono ?_
  rintro e w2 ⟨q, rfl, ⟨qx, qy, n1, m1, n2, m2, rfl, OQ⟩, hb⟩
  have X := hide (X.out.up hb)
  obtain ⟨g1, s1, rfl⟩ := OQ.p1.own.form
  obtain ⟨g2, s2, rfl⟩ := OQ.p2.form
  have N2 := hide OQ.low
  have N3 := hide OQ.high
  have N4 := hide OQ.apart
  have N5 := hide hb.size
  have O1 := hide OQ.p1
  have O2 := hide OQ.p2
  clear hb OQ
  have bl := below1 w2 (.cells #[.slice g1 ins.length s1, .slice g2 de.length s2] 70)
  have X := hide (X.out.alloc #[.slice g1 ins.length s1, .slice g2 de.length s2] 70)
  have O1 := hide (O1.out.below bl)
  have O2 := hide (O2.out.below bl)
  obtain ⟨w3, hw3⟩ : ∃ q, q = w2.alloc (.cells #[.slice g1 ins.length s1, .slice g2 de.length s2] 70) := ⟨_, rfl⟩
  obtain ⟨bq, hbq⟩ : ∃ q, q = w2.heap.size := ⟨_, rfl⟩
  have N6 := hide (show bq = w2.heap.size ∧ w3.heap.size = w2.heap.size + 1 by rw [hw3, hbq]; simp)
  rw [← hw3] at X O1 O2
  rw [← hbq] at X
  simp only [List.cons_append, List.nil_append] at X
  clear bl
  have HEQ := hide (kept_adq (l := l) (r := r) (ps := ps) (ins := ins) (de := de) row)
  have WF := hide (dqR_wf (row := row) hwf h6)
  have HDL := hide (show dqR ins de row = if (keptR ins row).length = ins.length then de ++ [row] else de from rfl)
  have hiq : (keptR ins row).length ≤ 1048577 := by have := keptR_le ins row; omega
  have eR : w3.cell? ⟨w.heap.size + 1 + 1, 0, none⟩ = some (.int .i64 row) := X.out.cell 2 0 rfl rfl
  have HDF := hide (iDf_any _ ins row (w.heap.size + 1 + 1) w3 n1 m1 O1.out eR (by have := N1.out; have := N2.out; omega) (by omega))
  obtain ⟨iq, hiq0⟩ : ∃ q, q = keptR ins row := ⟨_, rfl⟩
  rw [← hiq0] at HEQ WF HDL hiq HDF
  obtain ⟨dq, hdq0⟩ : ∃ q, q = dqR ins de row := ⟨_, rfl⟩
  rw [← hdq0] at HEQ WF HDL
  clear hiq0 hdq0 eR
  have e0 : w3.cell? ⟨bq, 0, none⟩ = some (.slice g1 ins.length s1) := X.out.cell 4 0 rfl rfl
  rw [hw3, hbq] at e0
  go_wp2_with fail
  rw [← hbq, ← hw3]
  clear hbq hw3 e0
  go_at_call 96
  refine HDF.out.mono ?_
  rintro e w4 ⟨g1', s1', rfl, O1', sg⟩
  have t1 := O1.out.le
  have t2 := O1.out.top
  have t3 := O2.out.top
  have t4 := O2.out.le
  have t5 := O1'.top
  have p1 := N1.out
  have p2 := N2.out
  have p3 := N3.out
  have p4 := N4.out
  have p5 := N5.out
  have p6 := N6.out
  have hs5 := sg.below.size
  have X := hide (X.out.seg sg (by omega) (by simp; omega))
  have O2 := hide (O2.out.seg sg (by omega))
  have M0 := hide (show w1.heap.size ≤ n1 ∧ w1.heap.size ≤ n2 ∧ (m1 ≤ n2 ∨ m2 ≤ n1) ∧ m1 ≤ bq ∧ m2 ≤ bq ∧ w.heap.size + 1 + 1 + 1 < n1 ∧ w.heap.size + 1 + 1 + 1 < n2 ∧ bq < w4.heap.size ∧ n2 ≤ m2 by omega)
  clear t1 t2 t3 t4 t5 p1 p2 p3 p4 p5 p6 hs5 sg O1 N2 N3 N4 N5 N6 HDF
  have e0 := X.out.cell 4 0 rfl rfl
  have f0 := X.out.free 4 0 rfl
  have Z := hide (X.out.set 4 0 rfl (.slice g1' iq.length s1'))
  have sg := Seg.setCell w4 bq 0 (.slice g1' iq.length s1')
  obtain ⟨q1, q2, q3, q4, q5, q6, q7, q8, q9⟩ := M0.out
  have O1 := hide (O1'.seg sg (by omega))
  have O2 := hide (O2.out.seg sg (by omega))
  clear sg q1 q2 q3 q4 q5 q6 q7 q8 q9 O1'
  obtain ⟨wA, hwA⟩ : ∃ q, q = w4.setCell ⟨bq, 0, none⟩ (.slice g1' iq.length s1') := ⟨_, rfl⟩
  have NA := hide (show wA.heap.size = w4.heap.size by rw [hwA]; simp)
  rw [← hwA] at Z O1 O2
  go_upto_region 3 with fail
  rw [← hwA]
  clear hwA e0 f0 X
  have X : Hid (Kn w wA [(w.heap.size, #[.slice a1 l.length c1, .slice a2 r.length c2, .slice a3 ps.length c3], 27), (w.heap.size + 1, #[.slice b1 ins.length d1, .slice b2 de.length d2], 70), (w.heap.size + 1 + 1, #[.int .i64 row], 3), (w.heap.size + 1 + 1 + 1, #[.slice none 0 0, .slice none 0 0], 70), (bq, #[.slice g1' iq.length s1', .slice g2 de.length s2], 70)]) := hide (Z.out.sub (List.Sublist.cons_cons _ (List.Sublist.cons_cons _ (List.Sublist.cons_cons _ (List.Sublist.cons_cons _ (List.Sublist.cons_cons _ (List.nil_sublist _)))))))
  clear Z
  have y0 : wA.cell? ⟨bq, 0, none⟩ = some (.slice g1' iq.length s1') := X.out.cell 4 0 rfl rfl
  have y1 : wA.cell? ⟨w.heap.size + 1, 0, none⟩ = some (.slice b1 ins.length d1) := X.out.cell 1 0 rfl rfl
  by_cases hlen : iq.length = ins.length
  · have ht : ((iq.length : Int) == (ins.length : Int)) = true := by simp [hlen]
    have ht2 : decide ((iq.length : Int) = (ins.length : Int)) = true := by simp [hlen]
    have hdd := hide (show dq = de ++ [row] by rw [HDL.out, if_pos hlen])
    clear hlen HDL
    have y2 : wA.cell? ⟨bq, 1, none⟩ = some (.slice g2 de.length s2) := X.out.cell 4 1 rfl rfl
    have y3 : wA.cell? ⟨w.heap.size + 1 + 1, 0, none⟩ = some (.int .i64 row) := X.out.cell 2 0 rfl rfl
    have bl := below1 wA (.cells #[.int .i64 row] 3)
    have O1 := hide (O1.out.below bl)
    have O2 := hide (O2.out.below bl)
    have Y := hide (X.out.alloc #[.int .i64 row] 3)
    obtain ⟨w5, hw5⟩ : ∃ q, q = wA.alloc (.cells #[.int .i64 row] 3) := ⟨_, rfl⟩
    obtain ⟨gi, hgi⟩ : ∃ q, q = wA.heap.size := ⟨_, rfl⟩
    have N8 := hide (show gi = wA.heap.size ∧ w5.heap.size = wA.heap.size + 1 by rw [hw5, hgi]; simp)
    rw [← hw5] at Y O1 O2
    rw [← hgi] at Y
    simp only [List.cons_append, List.nil_append] at Y
    clear bl
    go_wp2_with (first | (at_builtin; apply Hid.out) | fail)
    refine hide ?_
    rw [← hgi, ← hw5]
    clear hw5 hgi X y0 y1 y2 y3 ht ht2
    refine owint_app_list w5 rfl _ _ rfl _ de [row] n2 m2 O2.out rfl ⟨gi, 0, none⟩ 1 rfl (int_news (Y.out.mem 5 rfl)) (by simp; omega) ?_
    intro v' w5' n2' m2' O2' hwh sg
    rw [← hdd.out] at O2'
    have t1 := O1.out.le
    have t2 := O1.out.top
    have t3 := O2.out.top
    have t4 := O2.out.le
    have t5 := O2'.top
    have p1 := N1.out
    have p2 := M0.out
    have p7 := NA.out
    have p8 := N8.out
    have hs5 := sg.below.size
    have X := hide (Y.out.seg sg (by omega) (by simp; omega))
    have O1 := hide (O1.out.seg sg (by omega))
    obtain ⟨g2', s2', hf⟩ := O2'.form
    subst hf
    have M1 := hide (show w1.heap.size ≤ n1 ∧ w1.heap.size ≤ n2' ∧ (m1 ≤ n2' ∨ m2' ≤ n1) ∧ (bq < n2' ∨ m2' ≤ bq) ∧ m1 ≤ bq ∧ w.heap.size + 1 + 1 + 1 < n1 ∧ w.heap.size + 1 + 1 + 1 < n2' by omega)
    clear t1 t2 t3 t4 t5 p1 p2 p7 p8 hs5 sg hwh O2 Y
    have e0 := X.out.cell 4 1 rfl rfl
    have f0 := X.out.free 4 1 rfl
    have Z := hide (X.out.set 4 1 rfl (.slice g2' dq.length s2'))
    have sg := Seg.setCell w5' bq 1 (.slice g2' dq.length s2')
    obtain ⟨q1, q2, q3, q6, q7, q8, q9⟩ := M1.out
    have O1 := hide (O1.out.seg sg (by omega))
    have O2 := hide (O2'.seg sg (by omega))
    clear sg q1 q2 q3 q6 q7 q8 q9 O2'
    obtain ⟨w6, hw6⟩ : ∃ q, q = w5'.setCell ⟨bq, 1, none⟩ (.slice g2' dq.length s2') := ⟨_, rfl⟩
    rw [← hw6] at Z O1 O2
    go_upto_region 5 with fail
    rw [← hw6]
    clear hw6 e0 f0 X
    have X : Hid (Kn w w6 [(w.heap.size, #[.slice a1 l.length c1, .slice a2 r.length c2, .slice a3 ps.length c3], 27), (w.heap.size + 1, #[.slice b1 ins.length d1, .slice b2 de.length d2], 70), (w.heap.size + 1 + 1, #[.int .i64 row], 3), (w.heap.size + 1 + 1 + 1, #[.slice none 0 0, .slice none 0 0], 70), (bq, #[.slice g1' iq.length s1', .slice g2' dq.length s2'], 70)]) := hide (Z.out.sub (List.Sublist.cons_cons _ (List.Sublist.cons_cons _ (List.Sublist.cons_cons _ (List.Sublist.cons_cons _ (List.Sublist.cons_cons _ (List.nil_sublist _)))))))
    clear Z
    have z0 : w6.cell? ⟨w.heap.size, 0, none⟩ = some (.slice a1 l.length c1) := X.out.cell 0 0 rfl rfl
    have z1 : w6.cell? ⟨w.heap.size, 1, none⟩ = some (.slice a2 r.length c2) := X.out.cell 0 1 rfl rfl
    have z2 : w6.cell? ⟨w.heap.size, 2, none⟩ = some (.slice a3 ps.length c3) := X.out.cell 0 2 rfl rfl
    have y0 : w6.cell? ⟨w.heap.size + 1, 0, none⟩ = some (.slice b1 ins.length d1) := X.out.cell 1 0 rfl rfl
    have y1 : w6.cell? ⟨w.heap.size + 1, 1, none⟩ = some (.slice b2 de.length d2) := X.out.cell 1 1 rfl rfl
    go_wp2_with fail
    clear z0 z1 z2 y0 y1
    go_at_call 40
    refine (iIsPd_any _ _ l r ps ins de w6 w.heap.size (V.out _ X.out.below) (U.out _ X.out.below) X.out.below.size h1 h2 (by omega)).mono ?_
    rintro e w7 ⟨rfl, hb⟩
    rw [← HBP.out]
    have X := hide (X.out.up hb)
    have O1 := hide (O1.out.below hb)
    have O2 := hide (O2.out.below hb)
    have N8 := hide hb.size
    clear hb
    cases bP
    · have HF := hide (fun (W : World) (u : Value) (h : PdOs W u ins de w.heap.size W.heap.size) (hb : Below w.heap.size w W) => show RetPB w (axI l r ps ins de row) (axD l r ps ins de row) (axB l r ps ins de row) (.returned (.tuple #[u, .bool false])) W by
        have hx : axB l r ps ins de row = false := by unfold axB; rw [← HBP.out]; rfl
        unfold axI axD
        rw [hx]
        exact ⟨_, rfl, h, hb⟩)
      have x0 : w7.cell? ⟨w.heap.size + 1, 0, none⟩ = some (.slice b1 ins.length d1) := X.out.cell 1 0 rfl rfl
      have x1 : w7.cell? ⟨w.heap.size + 1, 1, none⟩ = some (.slice b2 de.length d2) := X.out.cell 1 1 rfl rfl
      go_wp2_with fail
      clear x0 x1
      go_at_call 93
      refine (iPdCopy_any _ ins de w7 w.heap.size (U.out _ X.out.below) X.out.below.size (by omega) (by omega)).mono ?_
      rintro e w9 ⟨q, rfl, ⟨qx, qy, n3, m3, n4, m4, rfl, OQ⟩, hb⟩
      have hsz := X.out.below.size
      have hlo := X.out.lt 3 rfl
      have X := hide (X.out.up hb)
      obtain ⟨g3, s3, rfl⟩ := OQ.p1.own.form
      obtain ⟨g4, s4, rfl⟩ := OQ.p2.form
      have y0 := X.out.cell 3 0 rfl rfl
      have y1 := X.out.cell 3 1 rfl rfl
      have z0 := X.out.free 3 0 rfl
      have z1 := X.out.free 3 1 rfl
      go_wp2_with fail
      have Z := (X.out.set 3 0 rfl (.slice g3 ins.length s3)).set 3 1 rfl (.slice g4 de.length s4)
      have sg : Seg (w.heap.size + 1 + 1 + 1) (w.heap.size + 1 + 1 + 1 + 1) w9 ((w9.setCell ⟨w.heap.size + 1 + 1 + 1, 0, none⟩ (.slice g3 ins.length s3)).setCell ⟨w.heap.size + 1 + 1 + 1, 1, none⟩ (.slice g4 de.length s4)) := segS2 (Nat.le_refl _) (Nat.lt_succ_self _) _ _
      have OR := OQ.seg sg (.inr (by omega))
      have q0 := Z.cell 3 0 rfl rfl
      have q1 := Z.cell 3 1 rfl rfl
      have hfin : PdOs ((w9.setCell ⟨w.heap.size + 1 + 1 + 1, 0, none⟩ (.slice g3 ins.length s3)).setCell ⟨w.heap.size + 1 + 1 + 1, 1, none⟩ (.slice g4 de.length s4)) (.agg #[.slice g3 ins.length s3, .slice g4 de.length s4]) ins de w.heap.size ((w9.setCell ⟨w.heap.size + 1 + 1 + 1, 0, none⟩ (.slice g3 ins.length s3)).setCell ⟨w.heap.size + 1 + 1 + 1, 1, none⟩ (.slice g4 de.length s4)).heap.size := PdOs.mono ⟨_, _, _, _, _, _, rfl, OR⟩ hsz (by simp) (Nat.le_refl _)
      have hzb := Z.below
      clear y0 y1 z0 z1 sg OR OQ
      exact bodyPost_ret (v := .tuple #[.agg #[.slice g3 ins.length s3, .slice g4 de.length s4], .bool false]) (by simp [results, Try.results47, go_sem, q0, q1]) rfl (HF.out _ _ hfin hzb)
    obtain ⟨hiqe, hdqe⟩ := HEQ.out HBP.out.symm
    have HIQ := hide hiqe
    have HDQ := hide hdqe
    clear hiqe hdqe HEQ
    have z0 : w7.cell? ⟨w.heap.size, 0, none⟩ = some (.slice a1 l.length c1) := X.out.cell 0 0 rfl rfl
    have z1 : w7.cell? ⟨w.heap.size, 1, none⟩ = some (.slice a2 r.length c2) := X.out.cell 0 1 rfl rfl
    have z2 : w7.cell? ⟨w.heap.size, 2, none⟩ = some (.slice a3 ps.length c3) := X.out.cell 0 2 rfl rfl
    have y0 : w7.cell? ⟨bq, 0, none⟩ = some (.slice g1' iq.length s1') := X.out.cell 4 0 rfl rfl
    have y1 : w7.cell? ⟨bq, 1, none⟩ = some (.slice g2' dq.length s2') := X.out.cell 4 1 rfl rfl
    have RQ := hide (show Pd w7 w7.heap.size (.agg #[.slice g1' iq.length s1', .slice g2' dq.length s2']) iq dq from ⟨_, _, rfl, O1.out.own.pvs (Nat.le_refl _) WF.out.1.1 WF.out.1.2, O2.out.ints WF.out.2, O1.out.cap, O2.out.cap⟩)
    obtain ⟨bQ, hbQ⟩ : ∃ q, q = isPd l r ps iq dq := ⟨_, rfl⟩
    have HBQ := hide hbQ
    go_wp2_with fail
    clear z0 z1 z2 y0 y1 hbQ
    go_at_call 40
    refine (iIsPd_any _ _ l r ps iq dq w7 w7.heap.size ((V.out _ X.out.below).mono X.out.below.size) RQ.out (Nat.le_refl _) h1 h2 hiq).mono ?_
    rintro e w8 ⟨rfl, hb⟩
    rw [← HBQ.out]
    have X := hide (X.out.up hb)
    have O1 := hide (O1.out.below hb)
    have O2 := hide (O2.out.below hb)
    clear hb RQ
    cases bQ
    · have HF := hide (fun (W : World) (u : Value) (h : PdOs W u ins de w.heap.size W.heap.size) (hb : Below w.heap.size w W) => show RetPB w (axI l r ps ins de row) (axD l r ps ins de row) (axB l r ps ins de row) (.returned (.tuple #[u, .bool false])) W by
        have hx : axB l r ps ins de row = false := by unfold axB; rw [← HIQ.out, ← HDQ.out, ← HBQ.out]; simp
        unfold axI axD
        rw [hx]
        exact ⟨_, rfl, h, hb⟩)
      have x0 : w8.cell? ⟨w.heap.size + 1, 0, none⟩ = some (.slice b1 ins.length d1) := X.out.cell 1 0 rfl rfl
      have x1 : w8.cell? ⟨w.heap.size + 1, 1, none⟩ = some (.slice b2 de.length d2) := X.out.cell 1 1 rfl rfl
      go_wp2_with fail
      clear x0 x1
      go_at_call 93
      refine (iPdCopy_any _ ins de w8 w.heap.size (U.out _ X.out.below) X.out.below.size (by omega) (by omega)).mono ?_
      rintro e w9 ⟨q, rfl, ⟨qx, qy, n3, m3, n4, m4, rfl, OQ⟩, hb⟩
      have hsz := X.out.below.size
      have hlo := X.out.lt 3 rfl
      have X := hide (X.out.up hb)
      obtain ⟨g3, s3, rfl⟩ := OQ.p1.own.form
      obtain ⟨g4, s4, rfl⟩ := OQ.p2.form
      have y0 := X.out.cell 3 0 rfl rfl
      have y1 := X.out.cell 3 1 rfl rfl
      have z0 := X.out.free 3 0 rfl
      have z1 := X.out.free 3 1 rfl
      go_wp2_with fail
      have Z := (X.out.set 3 0 rfl (.slice g3 ins.length s3)).set 3 1 rfl (.slice g4 de.length s4)
      have sg : Seg (w.heap.size + 1 + 1 + 1) (w.heap.size + 1 + 1 + 1 + 1) w9 ((w9.setCell ⟨w.heap.size + 1 + 1 + 1, 0, none⟩ (.slice g3 ins.length s3)).setCell ⟨w.heap.size + 1 + 1 + 1, 1, none⟩ (.slice g4 de.length s4)) := segS2 (Nat.le_refl _) (Nat.lt_succ_self _) _ _
      have OR := OQ.seg sg (.inr (by omega))
      have q0 := Z.cell 3 0 rfl rfl
      have q1 := Z.cell 3 1 rfl rfl
      have hfin : PdOs ((w9.setCell ⟨w.heap.size + 1 + 1 + 1, 0, none⟩ (.slice g3 ins.length s3)).setCell ⟨w.heap.size + 1 + 1 + 1, 1, none⟩ (.slice g4 de.length s4)) (.agg #[.slice g3 ins.length s3, .slice g4 de.length s4]) ins de w.heap.size ((w9.setCell ⟨w.heap.size + 1 + 1 + 1, 0, none⟩ (.slice g3 ins.length s3)).setCell ⟨w.heap.size + 1 + 1 + 1, 1, none⟩ (.slice g4 de.length s4)).heap.size := PdOs.mono ⟨_, _, _, _, _, _, rfl, OR⟩ hsz (by simp) (Nat.le_refl _)
      have hzb := Z.below
      clear y0 y1 z0 z1 sg OR OQ
      exact bodyPost_ret (v := .tuple #[.agg #[.slice g3 ins.length s3, .slice g4 de.length s4], .bool false]) (by simp [results, Try.results47, go_sem, q0, q1]) rfl (HF.out _ _ hfin hzb)
    have HF := hide (fun (W : World) (u : Value) (h : PdOs W u iq dq w.heap.size W.heap.size) (hb : Below w.heap.size w W) => show RetPB w (axI l r ps ins de row) (axD l r ps ins de row) (axB l r ps ins de row) (.returned (.tuple #[u, .bool true])) W by
      have hx : axB l r ps ins de row = true := by unfold axB; rw [← HIQ.out, ← HDQ.out, ← HBP.out, ← HBQ.out]; rfl
      unfold axI axD
      rw [hx, ← HIQ.out, ← HDQ.out]
      exact ⟨_, rfl, h, hb⟩)
    have y0 : w8.cell? ⟨bq, 0, none⟩ = some (.slice g1' iq.length s1') := X.out.cell 4 0 rfl rfl
    have y1 : w8.cell? ⟨bq, 1, none⟩ = some (.slice g2' dq.length s2') := X.out.cell 4 1 rfl rfl
    have x0 := X.out.cell 3 0 rfl rfl
    have x1 := X.out.cell 3 1 rfl rfl
    have z0 := X.out.free 3 0 rfl
    have z1 := X.out.free 3 1 rfl
    go_wp2_with fail
    have Z := (X.out.set 3 0 rfl (.slice g1' iq.length s1')).set 3 1 rfl (.slice g2' dq.length s2')
    have sg : Seg (w.heap.size + 1 + 1 + 1) (w.heap.size + 1 + 1 + 1 + 1) w8 ((w8.setCell ⟨w.heap.size + 1 + 1 + 1, 0, none⟩ (.slice g1' iq.length s1')).setCell ⟨w.heap.size + 1 + 1 + 1, 1, none⟩ (.slice g2' dq.length s2')) := segS2 (Nat.le_refl _) (Nat.lt_succ_self _) _ _
    obtain ⟨q1, q2, q3, q6, q7, q8, q9⟩ := M1.out
    have O1 := O1.out.seg sg (.inr (by omega))
    have O2 := O2.out.seg sg (.inr (by omega))
    have p0 := Z.cell 3 0 rfl rfl
    have p1 := Z.cell 3 1 rfl rfl
    have t1 := O1.top
    have t2 := O2.top
    have t3 := Z.below.size
    have p2 := N1.out
    have hfin : PdOs ((w8.setCell ⟨w.heap.size + 1 + 1 + 1, 0, none⟩ (.slice g1' iq.length s1')).setCell ⟨w.heap.size + 1 + 1 + 1, 1, none⟩ (.slice g2' dq.length s2')) (.agg #[.slice g1' iq.length s1', .slice g2' dq.length s2']) iq dq w.heap.size ((w8.setCell ⟨w.heap.size + 1 + 1 + 1, 0, none⟩ (.slice g1' iq.length s1')).setCell ⟨w.heap.size + 1 + 1 + 1, 1, none⟩ (.slice g2' dq.length s2')).heap.size := ⟨_, _, _, _, _, _, rfl, O1, O2, ⟨by omega, by omega⟩, ⟨t1, t2⟩, q3, t3, Nat.le_refl _⟩
    have hzb := Z.below
    clear x0 x1 y0 y1 z0 z1 sg O1 O2 q1 q2 q3 q6 q7 q8 q9 t1 t2 t3 p2
    exact bodyPost_ret (v := .tuple #[.agg #[.slice g1' iq.length s1', .slice g2' dq.length s2'], .bool true]) (by simp [results, Try.results47, go_sem, p0, p1]) rfl (HF.out _ _ hfin hzb)
  · have ht : ((iq.length : Int) == (ins.length : Int)) = false := beq_eq_false_iff_ne.2 (by omega)
    have ht2 : decide ((iq.length : Int) = (ins.length : Int)) = false := by simp; omega
    have hdd := hide (show dq = de by rw [HDL.out, if_neg hlen])
    clear hlen HDL
    have M1 := hide (show w1.heap.size ≤ n1 ∧ w1.heap.size ≤ n2 ∧ (m1 ≤ n2 ∨ m2 ≤ n1) ∧ (bq < n2 ∨ m2 ≤ bq) ∧ m1 ≤ bq ∧ w.heap.size + 1 + 1 + 1 < n1 ∧ w.heap.size + 1 + 1 + 1 < n2 by have := M0.out; omega)
    go_upto_region 5 with fail
    clear y0 y1 ht ht2
    rw [← hdd.out] at O2
    have hgl : Hid (de.length = dq.length) := hide (by rw [hdd.out])
    obtain ⟨g2', s2', hgs⟩ : ∃ g s, g = g2 ∧ s = s2 := ⟨_, _, rfl, rfl⟩
    obtain ⟨rfl, rfl⟩ := hgs
    have X : Hid (Kn w wA [(w.heap.size, #[.slice a1 l.length c1, .slice a2 r.length c2, .slice a3 ps.length c3], 27), (w.heap.size + 1, #[.slice b1 ins.length d1, .slice b2 de.length d2], 70), (w.heap.size + 1 + 1, #[.int .i64 row], 3), (w.heap.size + 1 + 1 + 1, #[.slice none 0 0, .slice none 0 0], 70), (bq, #[.slice g1' iq.length s1', .slice g2' dq.length s2'], 70)]) := hide (by
      have h := X.out
      rw [← hgl.out]; exact h)
    have z0 : wA.cell? ⟨w.heap.size, 0, none⟩ = some (.slice a1 l.length c1) := X.out.cell 0 0 rfl rfl
    have z1 : wA.cell? ⟨w.heap.size, 1, none⟩ = some (.slice a2 r.length c2) := X.out.cell 0 1 rfl rfl
    have z2 : wA.cell? ⟨w.heap.size, 2, none⟩ = some (.slice a3 ps.length c3) := X.out.cell 0 2 rfl rfl
    have y0 : wA.cell? ⟨w.heap.size + 1, 0, none⟩ = some (.slice b1 ins.length d1) := X.out.cell 1 0 rfl rfl
    have y1 : wA.cell? ⟨w.heap.size + 1, 1, none⟩ = some (.slice b2 de.length d2) := X.out.cell 1 1 rfl rfl
    go_wp2_with fail
    clear z0 z1 z2 y0 y1
    go_at_call 40
    refine (iIsPd_any _ _ l r ps ins de wA w.heap.size (V.out _ X.out.below) (U.out _ X.out.below) X.out.below.size h1 h2 (by omega)).mono ?_
    rintro e w7 ⟨rfl, hb⟩
    rw [← HBP.out]
    have X := hide (X.out.up hb)
    have O1 := hide (O1.out.below hb)
    have O2 := hide (O2.out.below hb)
    have N8 := hide hb.size
    clear hb
    cases bP
    · have HF := hide (fun (W : World) (u : Value) (h : PdOs W u ins de w.heap.size W.heap.size) (hb : Below w.heap.size w W) => show RetPB w (axI l r ps ins de row) (axD l r ps ins de row) (axB l r ps ins de row) (.returned (.tuple #[u, .bool false])) W by
        have hx : axB l r ps ins de row = false := by unfold axB; rw [← HBP.out]; rfl
        unfold axI axD
        rw [hx]
        exact ⟨_, rfl, h, hb⟩)
      have x0 : w7.cell? ⟨w.heap.size + 1, 0, none⟩ = some (.slice b1 ins.length d1) := X.out.cell 1 0 rfl rfl
      have x1 : w7.cell? ⟨w.heap.size + 1, 1, none⟩ = some (.slice b2 de.length d2) := X.out.cell 1 1 rfl rfl
      go_wp2_with fail
      clear x0 x1
      go_at_call 93
      refine (iPdCopy_any _ ins de w7 w.heap.size (U.out _ X.out.below) X.out.below.size (by omega) (by omega)).mono ?_
      rintro e w9 ⟨q, rfl, ⟨qx, qy, n3, m3, n4, m4, rfl, OQ⟩, hb⟩
      have hsz := X.out.below.size
      have hlo := X.out.lt 3 rfl
      have X := hide (X.out.up hb)
      obtain ⟨g3, s3, rfl⟩ := OQ.p1.own.form
      obtain ⟨g4, s4, rfl⟩ := OQ.p2.form
      have y0 := X.out.cell 3 0 rfl rfl
      have y1 := X.out.cell 3 1 rfl rfl
      have z0 := X.out.free 3 0 rfl
      have z1 := X.out.free 3 1 rfl
      go_wp2_with fail
      have Z := (X.out.set 3 0 rfl (.slice g3 ins.length s3)).set 3 1 rfl (.slice g4 de.length s4)
      have sg : Seg (w.heap.size + 1 + 1 + 1) (w.heap.size + 1 + 1 + 1 + 1) w9 ((w9.setCell ⟨w.heap.size + 1 + 1 + 1, 0, none⟩ (.slice g3 ins.length s3)).setCell ⟨w.heap.size + 1 + 1 + 1, 1, none⟩ (.slice g4 de.length s4)) := segS2 (Nat.le_refl _) (Nat.lt_succ_self _) _ _
      have OR := OQ.seg sg (.inr (by omega))
      have q0 := Z.cell 3 0 rfl rfl
      have q1 := Z.cell 3 1 rfl rfl
      have hfin : PdOs ((w9.setCell ⟨w.heap.size + 1 + 1 + 1, 0, none⟩ (.slice g3 ins.length s3)).setCell ⟨w.heap.size + 1 + 1 + 1, 1, none⟩ (.slice g4 de.length s4)) (.agg #[.slice g3 ins.length s3, .slice g4 de.length s4]) ins de w.heap.size ((w9.setCell ⟨w.heap.size + 1 + 1 + 1, 0, none⟩ (.slice g3 ins.length s3)).setCell ⟨w.heap.size + 1 + 1 + 1, 1, none⟩ (.slice g4 de.length s4)).heap.size := PdOs.mono ⟨_, _, _, _, _, _, rfl, OR⟩ hsz (by simp) (Nat.le_refl _)
      have hzb := Z.below
      clear y0 y1 z0 z1 sg OR OQ
      exact bodyPost_ret (v := .tuple #[.agg #[.slice g3 ins.length s3, .slice g4 de.length s4], .bool false]) (by simp [results, Try.results47, go_sem, q0, q1]) rfl (HF.out _ _ hfin hzb)
    obtain ⟨hiqe, hdqe⟩ := HEQ.out HBP.out.symm
    have HIQ := hide hiqe
    have HDQ := hide hdqe
    clear hiqe hdqe HEQ
    have z0 : w7.cell? ⟨w.heap.size, 0, none⟩ = some (.slice a1 l.length c1) := X.out.cell 0 0 rfl rfl
    have z1 : w7.cell? ⟨w.heap.size, 1, none⟩ = some (.slice a2 r.length c2) := X.out.cell 0 1 rfl rfl
    have z2 : w7.cell? ⟨w.heap.size, 2, none⟩ = some (.slice a3 ps.length c3) := X.out.cell 0 2 rfl rfl
    have y0 : w7.cell? ⟨bq, 0, none⟩ = some (.slice g1' iq.length s1') := X.out.cell 4 0 rfl rfl
    have y1 : w7.cell? ⟨bq, 1, none⟩ = some (.slice g2' dq.length s2') := X.out.cell 4 1 rfl rfl
    have RQ := hide (show Pd w7 w7.heap.size (.agg #[.slice g1' iq.length s1', .slice g2' dq.length s2']) iq dq from ⟨_, _, rfl, O1.out.own.pvs (Nat.le_refl _) WF.out.1.1 WF.out.1.2, O2.out.ints WF.out.2, O1.out.cap, O2.out.cap⟩)
    obtain ⟨bQ, hbQ⟩ : ∃ q, q = isPd l r ps iq dq := ⟨_, rfl⟩
    have HBQ := hide hbQ
    go_wp2_with fail
    clear z0 z1 z2 y0 y1 hbQ
    go_at_call 40
    refine (iIsPd_any _ _ l r ps iq dq w7 w7.heap.size ((V.out _ X.out.below).mono X.out.below.size) RQ.out (Nat.le_refl _) h1 h2 hiq).mono ?_
    rintro e w8 ⟨rfl, hb⟩
    rw [← HBQ.out]
    have X := hide (X.out.up hb)
    have O1 := hide (O1.out.below hb)
    have O2 := hide (O2.out.below hb)
    clear hb RQ
    cases bQ
    · have HF := hide (fun (W : World) (u : Value) (h : PdOs W u ins de w.heap.size W.heap.size) (hb : Below w.heap.size w W) => show RetPB w (axI l r ps ins de row) (axD l r ps ins de row) (axB l r ps ins de row) (.returned (.tuple #[u, .bool false])) W by
        have hx : axB l r ps ins de row = false := by unfold axB; rw [← HIQ.out, ← HDQ.out, ← HBQ.out]; simp
        unfold axI axD
        rw [hx]
        exact ⟨_, rfl, h, hb⟩)
      have x0 : w8.cell? ⟨w.heap.size + 1, 0, none⟩ = some (.slice b1 ins.length d1) := X.out.cell 1 0 rfl rfl
      have x1 : w8.cell? ⟨w.heap.size + 1, 1, none⟩ = some (.slice b2 de.length d2) := X.out.cell 1 1 rfl rfl
      go_wp2_with fail
      clear x0 x1
      go_at_call 93
      refine (iPdCopy_any _ ins de w8 w.heap.size (U.out _ X.out.below) X.out.below.size (by omega) (by omega)).mono ?_
      rintro e w9 ⟨q, rfl, ⟨qx, qy, n3, m3, n4, m4, rfl, OQ⟩, hb⟩
      have hsz := X.out.below.size
      have hlo := X.out.lt 3 rfl
      have X := hide (X.out.up hb)
      obtain ⟨g3, s3, rfl⟩ := OQ.p1.own.form
      obtain ⟨g4, s4, rfl⟩ := OQ.p2.form
      have y0 := X.out.cell 3 0 rfl rfl
      have y1 := X.out.cell 3 1 rfl rfl
      have z0 := X.out.free 3 0 rfl
      have z1 := X.out.free 3 1 rfl
      go_wp2_with fail
      have Z := (X.out.set 3 0 rfl (.slice g3 ins.length s3)).set 3 1 rfl (.slice g4 de.length s4)
      have sg : Seg (w.heap.size + 1 + 1 + 1) (w.heap.size + 1 + 1 + 1 + 1) w9 ((w9.setCell ⟨w.heap.size + 1 + 1 + 1, 0, none⟩ (.slice g3 ins.length s3)).setCell ⟨w.heap.size + 1 + 1 + 1, 1, none⟩ (.slice g4 de.length s4)) := segS2 (Nat.le_refl _) (Nat.lt_succ_self _) _ _
      have OR := OQ.seg sg (.inr (by omega))
      have q0 := Z.cell 3 0 rfl rfl
      have q1 := Z.cell 3 1 rfl rfl
      have hfin : PdOs ((w9.setCell ⟨w.heap.size + 1 + 1 + 1, 0, none⟩ (.slice g3 ins.length s3)).setCell ⟨w.heap.size + 1 + 1 + 1, 1, none⟩ (.slice g4 de.length s4)) (.agg #[.slice g3 ins.length s3, .slice g4 de.length s4]) ins de w.heap.size ((w9.setCell ⟨w.heap.size + 1 + 1 + 1, 0, none⟩ (.slice g3 ins.length s3)).setCell ⟨w.heap.size + 1 + 1 + 1, 1, none⟩ (.slice g4 de.length s4)).heap.size := PdOs.mono ⟨_, _, _, _, _, _, rfl, OR⟩ hsz (by simp) (Nat.le_refl _)
      have hzb := Z.below
      clear y0 y1 z0 z1 sg OR OQ
      exact bodyPost_ret (v := .tuple #[.agg #[.slice g3 ins.length s3, .slice g4 de.length s4], .bool false]) (by simp [results, Try.results47, go_sem, q0, q1]) rfl (HF.out _ _ hfin hzb)
    have HF := hide (fun (W : World) (u : Value) (h : PdOs W u iq dq w.heap.size W.heap.size) (hb : Below w.heap.size w W) => show RetPB w (axI l r ps ins de row) (axD l r ps ins de row) (axB l r ps ins de row) (.returned (.tuple #[u, .bool true])) W by
      have hx : axB l r ps ins de row = true := by unfold axB; rw [← HIQ.out, ← HDQ.out, ← HBP.out, ← HBQ.out]; rfl
      unfold axI axD
      rw [hx, ← HIQ.out, ← HDQ.out]
      exact ⟨_, rfl, h, hb⟩)
    have y0 : w8.cell? ⟨bq, 0, none⟩ = some (.slice g1' iq.length s1') := X.out.cell 4 0 rfl rfl
    have y1 : w8.cell? ⟨bq, 1, none⟩ = some (.slice g2' dq.length s2') := X.out.cell 4 1 rfl rfl
    have x0 := X.out.cell 3 0 rfl rfl
    have x1 := X.out.cell 3 1 rfl rfl
    have z0 := X.out.free 3 0 rfl
    have z1 := X.out.free 3 1 rfl
    go_wp2_with fail
    have Z := (X.out.set 3 0 rfl (.slice g1' iq.length s1')).set 3 1 rfl (.slice g2' dq.length s2')
    have sg : Seg (w.heap.size + 1 + 1 + 1) (w.heap.size + 1 + 1 + 1 + 1) w8 ((w8.setCell ⟨w.heap.size + 1 + 1 + 1, 0, none⟩ (.slice g1' iq.length s1')).setCell ⟨w.heap.size + 1 + 1 + 1, 1, none⟩ (.slice g2' dq.length s2')) := segS2 (Nat.le_refl _) (Nat.lt_succ_self _) _ _
    obtain ⟨q1, q2, q3, q6, q7, q8, q9⟩ := M1.out
    have O1 := O1.out.seg sg (.inr (by omega))
    have O2 := O2.out.seg sg (.inr (by omega))
    have p0 := Z.cell 3 0 rfl rfl
    have p1 := Z.cell 3 1 rfl rfl
    have t1 := O1.top
    have t2 := O2.top
    have t3 := Z.below.size
    have p2 := N1.out
    have hfin : PdOs ((w8.setCell ⟨w.heap.size + 1 + 1 + 1, 0, none⟩ (.slice g1' iq.length s1')).setCell ⟨w.heap.size + 1 + 1 + 1, 1, none⟩ (.slice g2' dq.length s2')) (.agg #[.slice g1' iq.length s1', .slice g2' dq.length s2']) iq dq w.heap.size ((w8.setCell ⟨w.heap.size + 1 + 1 + 1, 0, none⟩ (.slice g1' iq.length s1')).setCell ⟨w.heap.size + 1 + 1 + 1, 1, none⟩ (.slice g2' dq.length s2')).heap.size := ⟨_, _, _, _, _, _, rfl, O1, O2, ⟨by omega, by omega⟩, ⟨t1, t2⟩, q3, t3, Nat.le_refl _⟩
    have hzb := Z.below
    clear x0 x1 y0 y1 z0 z1 sg O1 O2 q1 q2 q3 q6 q7 q8 q9 t1 t2 t3 p2
    exact bodyPost_ret (v := .tuple #[.agg #[.slice g1' iq.length s1', .slice g2' dq.length s2'], .bool true]) (by simp [results, Try.results47, go_sem, p0, p1]) rfl (HF.out _ _ hfin hzb)

end Go.Proofs.Ytajfhalalnlejaa
