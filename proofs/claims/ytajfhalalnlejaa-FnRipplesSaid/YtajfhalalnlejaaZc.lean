/- Several texts in one: FrW. -/
import Derived.Test.YtajfhalalnlejaaZb
import Derived.Test.YtajfhalalnlejaaRiI
import Derived.Test.YtajfhalalnlejaaRiS
import Derived.Test.YtajfhalalnlejaaRdI
import Derived.Test.YtajfhalalnlejaaRdS
import Derived.Test.YtajfhalalnlejaaZa
import Derived.Test.YtajfhalalnlejaaCkQ
import Derived.Test.YtajfhalalnlejaaCkT
import Derived.Test.YtajfhalalnlejaaFr
/- FnRipples (promise 7): the law's walk. Written by gen_fr.py. -/
namespace Go.Proofs.Ytajfhalalnlejaa
open Go.RowKit Go.ChangeShapes
set_option linter.unusedSimpArgs false
set_option linter.unusedVariables false
set_option maxRecDepth 100000

theorem eqC_same (l r : List Int) (ps : List Pv) : eqC l r ps l r ps = true := by simp [eqC]
/-- Where nothing is deleted the column stays, and it is no column or has no such row. -/
theorem rd_no {l r : List Int} {ps : List Pv} {row : Int} (h : rdOk l r ps row = false) : rdL l r ps row = l ∧ rdR l r ps row = r ∧ rdP l r ps row = ps ∧ (isCk l r ps = true → rowAt r row = -1) := by
  have h' : ¬ rdOk l r ps row = true := by rw [h]; simp
  unfold rdL rdR rdP
  rw [if_neg h', if_neg h', if_neg h']
  refine ⟨rfl, rfl, rfl, fun hc => ?_⟩
  unfold rdOk at h
  rw [hc] at h
  simp only [Bool.true_and, decide_eq_false_iff_not] at h
  have h2 : rowAt r row = -1 ∨ 0 ≤ rowAt r row := by unfold rowAt; split <;> omega
  omega
theorem ck_pvs {w : World} {B : Nat} {x y z : Value} {l r : List Int} {ps : List Pv} (h : Ck w B (.agg #[x, y, z]) l r ps) : Pvs w B z ps := by
  obtain ⟨x', y', z', e, -, -, h3, -⟩ := h
  simp only [Value.agg.injEq, Array.mk.injEq, List.cons.injEq, and_true] at e
  obtain ⟨-, -, rfl⟩ := e
  exact h3
theorem pvs_at {w : World} {B n c : Nat} {a : Option Addr} {ps : List Pv} (h : Pvs w B (.slice a n c) ps) (k : Nat) (hk : k < ps.length) : ∃ b o, a = some ⟨b, o, none⟩ ∧ w.cell? ⟨b, o + k * 2, none⟩ = some (.int .i64 ps[k].1) ∧ w.cell? ⟨b, o + k * 2 + 1, none⟩ = some (.int .i64 ps[k].2) := by
  obtain ⟨a', c', e, -, -, h3⟩ := h
  simp only [Value.slice.injEq] at e
  obtain ⟨rfl, -, -⟩ := e
  obtain ⟨b, o, e2, -, x, y⟩ := h3 k hk
  exact ⟨b, o, e2, x, y⟩
theorem ri_bound {l r : List Int} {ps : List Pv} {v row : Int} (h : riOk l r ps v row = true) : l.length < 64 ∧ isCk l r ps = true := by
  unfold riOk at h
  simp only [Bool.and_eq_true, decide_eq_true_eq] at h
  exact ⟨h.2.2.2, h.1⟩

set_option maxHeartbeats 40000000 in
theorem ripples_walk (w : World) (v0 : Value) (w0 : CodeV w v0) :
    Calls Try.prog 5 #[v0] w fun e w' => e = .returned (.bool true) ∧ Below w.heap.size w w' := by
  obtain ⟨ca, clen, ccap, rfl, hcode⟩ := w0
  by_cases hbig : ¬ clen ≤ 1048576
  · go_enter Try.func5, Try.ntmps5
    go_wp2_with fail
    go_at_call 26
    refine (bigY ca clen ccap w (by omega)).mono ?_
    rintro e wq ⟨rfl, rfl⟩
    go_wp2_with fail
    go_ret
    exact ⟨rfl, Below.refl _ _⟩
  · skip
    have X := hide (Kn.start w)
    have HBG := hide (bigN ca clen ccap w (by omega))
    have HDR := hide (drRi_any ca clen ccap w hcode (by omega))
    have HDD := hide (fun (W : World) (h : Below w.heap.size w W) => drRd_any ca clen ccap W (hcode.below h (Nat.le_refl _)) (by omega))
    clear hcode hbig
    go_enter Try.func5, Try.ntmps5
    go_wp2_with fail
    go_at_call 26
    refine HBG.out.mono ?_
    rintro e wq ⟨rfl, rfl⟩
    go_wp2_with fail
    go_at_call 27
    refine HDR.out.mono ?_
    rintro e w1 ⟨a1, a2, a3, c1, c2, c3, l, r, ps, f, t, rfl, hcu, hwf, hft, hb⟩
    have X := hide (X.out.up hb)
    have CC := hide hcu
    clear hb hcu HBG HDR
    have hif : I64 f := ⟨by omega, by omega⟩
    have hit : I64 t := ⟨by omega, by omega⟩
    have HI := hide (fun (W : World) (u : Value) (h : CU W u l r ps) => iRi_any u l r ps f t W h hwf.1 hwf.2.1 (by have := hwf.2.2.1; omega) hwf.2.2.2.1 hwf.2.2.2.2.1 hwf.2.2.2.2.2 hif hit)
    have HS := hide (fun (W : World) (u : Value) (h : CU W u l r ps) => sRi_any u l r ps f t W h hwf.1 hwf.2.1 (by have := hwf.2.2.1; omega) hwf.2.2.2.1 hwf.2.2.2.2.1 hwf.2.2.2.2.2 hif hit)
    have wf2 := ri_wf (l := l) (r := r) (ps := ps) (v := f) (row := t) hwf.1 hwf.2.1 (by have := hwf.2.2.1; omega) hwf.2.2.2.1 hwf.2.2.2.2.1 hwf.2.2.2.2.2 hif hit
    have hsay := fun h => ri_says (l := l) (r := r) (ps := ps) (v := f) (row := t) h
    have hbd := fun h => ri_bound (l := l) (r := r) (ps := ps) (v := f) (row := t) h
    have hrd := fun h => ri_rd (l := l) (r := r) (ps := ps) (v := f) (row := t) h
    have hll : l.length ≤ 1048576 := hwf.1
    have hps : ps.length ≤ 100 := hwf.2.2.1
    have wps := hwf.2.2.2.2.2
    clear hwf hft hif
    obtain ⟨nl, hnl⟩ : ∃ q, q = riL l r ps f t := ⟨_, rfl⟩
    obtain ⟨nr, hnr⟩ : ∃ q, q = riR l r ps f t := ⟨_, rfl⟩
    obtain ⟨np, hnp⟩ : ∃ q, q = riP l r ps f t := ⟨_, rfl⟩
    obtain ⟨nn, hnn⟩ : ∃ q, q = riN l r ps f t := ⟨_, rfl⟩
    obtain ⟨ok, hok⟩ : ∃ q, q = riOk l r ps f t := ⟨_, rfl⟩
    rw [← hnl, ← hnr, ← hnp, ← hnn, ← hok] at HI HS
    rw [← hnl, ← hnr, ← hnp] at wf2
    rw [← hok, ← hnl, ← hnr, ← hnp, ← hnn] at hsay
    rw [← hok, ← hnl, ← hnr, ← hnp] at hrd
    rw [← hok] at hbd
    clear hnl hnr hnp hnn hok
    have KX := hide (fun (W : World) (x y z : Value) (lo hi p1 q1 p2 q2 p3 q3 : Nat) (h : OC W x y z nl nr np lo hi p1 q1 p2 q2 p3 q3) => (show CU W _ nl nr np from h.ck wf2.2.2.2.1 wf2.2.2.2.2.1 (by have := wf2.2.2.1; omega) wf2.2.2.2.2.2))
    have HSAY := hide hsay
    have HRD := hide hrd
    have HBD := hide hbd
    have WF2 := hide wf2
    have WPS := hide wps
    clear hsay hrd hbd wf2 wps
    have hl3 : (((nn : Nat) : Int) != ((nn : Nat) : Int)) = false := by simp
    have hl4 : (ok != ok) = false := by simp
    have X := hide ((X.out.alloc #[.slice a1 l.length c1, .slice a2 r.length c2, .slice a3 ps.length c3] 27).alloc #[.int .i64 f, .int .i64 t] 49)
    have CC := hide ((CC.out.below (below1 w1 (.cells #[.slice a1 l.length c1, .slice a2 r.length c2, .slice a3 ps.length c3] 27))).below (below1 _ (.cells #[.int .i64 f, .int .i64 t] 49)))
    obtain ⟨w2, hw2⟩ : ∃ q, q = (w1.alloc (.cells #[.slice a1 l.length c1, .slice a2 r.length c2, .slice a3 ps.length c3] 27)).alloc (.cells #[.int .i64 f, .int .i64 t] 49) := ⟨_, rfl⟩
    obtain ⟨b0, hb0⟩ : ∃ q, q = w1.heap.size := ⟨_, rfl⟩
    rw [← hw2] at X CC
    simp only [World.size_alloc] at X
    rw [← hb0] at X
    simp only [List.cons_append, List.nil_append] at X
    have c00 : w2.cell? ⟨b0, 0, none⟩ = some (.slice a1 l.length c1) := X.out.cell 0 0 rfl rfl
    have c01 : w2.cell? ⟨b0, 1, none⟩ = some (.slice a2 r.length c2) := X.out.cell 0 1 rfl rfl
    have c02 : w2.cell? ⟨b0, 2, none⟩ = some (.slice a3 ps.length c3) := X.out.cell 0 2 rfl rfl
    have c10 : w2.cell? ⟨b0 + 1, 0, none⟩ = some (.int .i64 f) := X.out.cell 1 0 rfl rfl
    have c11 : w2.cell? ⟨b0 + 1, 1, none⟩ = some (.int .i64 t) := X.out.cell 1 1 rfl rfl
    rw [hw2] at c00 c01 c02 c10 c11
    go_wp2_with fail
    rw [← hw2]
    try rw [← hb0]
    clear hw2 hb0
    clear c00 c01 c02 c10 c11
    go_at_call 25
    refine (HI.out _ _ CC.out).mono ?_
    rintro e w3 ⟨x, y, z, loX, hiX, pX1, qX1, pX2, qX2, pX3, qX3, rfl, hlo, hhi, CX, hb⟩
    obtain ⟨gX1, kX1, rfl⟩ := CX.x.form
    obtain ⟨gX2, kX2, rfl⟩ := CX.y.form
    obtain ⟨gX3, kX3, rfl⟩ := CX.z.own.form
    have CX := hide (KX.out _ _ _ _ _ _ _ _ _ _ _ _ CX)
    clear hlo hhi
    have X := hide (X.out.up hb)
    have CC := hide (CC.out.below hb)
    have N0 := hide hb.size
    clear hb
    have hbl := below1 w3 (.cells #[.slice gX1 nl.length kX1, .slice gX2 nr.length kX2, .slice gX3 np.length kX3] 27)
    have X := hide (X.out.alloc #[.slice gX1 nl.length kX1, .slice gX2 nr.length kX2, .slice gX3 np.length kX3] 27)
    have CC := hide (CC.out.below hbl)
    have CX := hide (CX.out.below hbl)
    clear hbl
    obtain ⟨w4, hw4⟩ : ∃ q, q = w3.alloc (.cells #[.slice gX1 nl.length kX1, .slice gX2 nr.length kX2, .slice gX3 np.length kX3] 27) := ⟨_, rfl⟩
    obtain ⟨b2, hb2⟩ : ∃ q, q = w3.heap.size := ⟨_, rfl⟩
    have N1 := hide (show b2 = w3.heap.size ∧ w4.heap.size = w3.heap.size + 1 by rw [hw4, hb2]; simp)
    rw [← hw4] at X CC CX
    rw [← hb2] at X
    simp only [List.cons_append, List.nil_append] at X
    have c00 : w4.cell? ⟨b0, 0, none⟩ = some (.slice a1 l.length c1) := X.out.cell 0 0 rfl rfl
    have c01 : w4.cell? ⟨b0, 1, none⟩ = some (.slice a2 r.length c2) := X.out.cell 0 1 rfl rfl
    have c02 : w4.cell? ⟨b0, 2, none⟩ = some (.slice a3 ps.length c3) := X.out.cell 0 2 rfl rfl
    have c10 : w4.cell? ⟨b0 + 1, 0, none⟩ = some (.int .i64 f) := X.out.cell 1 0 rfl rfl
    have c11 : w4.cell? ⟨b0 + 1, 1, none⟩ = some (.int .i64 t) := X.out.cell 1 1 rfl rfl
    have c20 : w4.cell? ⟨b2, 0, none⟩ = some (.slice gX1 nl.length kX1) := X.out.cell 2 0 rfl rfl
    have c21 : w4.cell? ⟨b2, 1, none⟩ = some (.slice gX2 nr.length kX2) := X.out.cell 2 1 rfl rfl
    have c22 : w4.cell? ⟨b2, 2, none⟩ = some (.slice gX3 np.length kX3) := X.out.cell 2 2 rfl rfl
    rw [hw4] at c00 c01 c02 c10 c11 c20 c21 c22
    go_wp2_with fail
    rw [← hw4]
    try rw [← hb2]
    clear hw4 hb2
    clear c00 c01 c02 c10 c11 c20 c21 c22
    go_at_call 22
    refine (HS.out _ _ CC.out).mono ?_
    rintro e w5 ⟨x, y, z, loY, hiY, pY1, qY1, pY2, qY2, pY3, qY3, rfl, hlo, hhi, CY, hb⟩
    obtain ⟨gY1, kY1, rfl⟩ := CY.x.form
    obtain ⟨gY2, kY2, rfl⟩ := CY.y.form
    obtain ⟨gY3, kY3, rfl⟩ := CY.z.own.form
    have CY := hide (KX.out _ _ _ _ _ _ _ _ _ _ _ _ CY)
    clear hlo hhi
    have X := hide (X.out.up hb)
    have CC := hide (CC.out.below hb)
    have CX := hide (CX.out.below hb)
    have N2 := hide hb.size
    clear hb
    have hbl := below1 w5 (.cells #[.slice gY1 nl.length kY1, .slice gY2 nr.length kY2, .slice gY3 np.length kY3] 27)
    have X := hide (X.out.alloc #[.slice gY1 nl.length kY1, .slice gY2 nr.length kY2, .slice gY3 np.length kY3] 27)
    have CC := hide (CC.out.below hbl)
    have CX := hide (CX.out.below hbl)
    have CY := hide (CY.out.below hbl)
    clear hbl
    obtain ⟨w6, hw6⟩ : ∃ q, q = w5.alloc (.cells #[.slice gY1 nl.length kY1, .slice gY2 nr.length kY2, .slice gY3 np.length kY3] 27) := ⟨_, rfl⟩
    obtain ⟨b3, hb3⟩ : ∃ q, q = w5.heap.size := ⟨_, rfl⟩
    have N3 := hide (show b3 = w5.heap.size ∧ w6.heap.size = w5.heap.size + 1 by rw [hw6, hb3]; simp)
    rw [← hw6] at X CC CX CY
    rw [← hb3] at X
    simp only [List.cons_append, List.nil_append] at X
    have c00 : w6.cell? ⟨b0, 0, none⟩ = some (.slice a1 l.length c1) := X.out.cell 0 0 rfl rfl
    have c01 : w6.cell? ⟨b0, 1, none⟩ = some (.slice a2 r.length c2) := X.out.cell 0 1 rfl rfl
    have c02 : w6.cell? ⟨b0, 2, none⟩ = some (.slice a3 ps.length c3) := X.out.cell 0 2 rfl rfl
    have c10 : w6.cell? ⟨b0 + 1, 0, none⟩ = some (.int .i64 f) := X.out.cell 1 0 rfl rfl
    have c11 : w6.cell? ⟨b0 + 1, 1, none⟩ = some (.int .i64 t) := X.out.cell 1 1 rfl rfl
    have c20 : w6.cell? ⟨b2, 0, none⟩ = some (.slice gX1 nl.length kX1) := X.out.cell 2 0 rfl rfl
    have c21 : w6.cell? ⟨b2, 1, none⟩ = some (.slice gX2 nr.length kX2) := X.out.cell 2 1 rfl rfl
    have c22 : w6.cell? ⟨b2, 2, none⟩ = some (.slice gX3 np.length kX3) := X.out.cell 2 2 rfl rfl
    have c30 : w6.cell? ⟨b3, 0, none⟩ = some (.slice gY1 nl.length kY1) := X.out.cell 3 0 rfl rfl
    have c31 : w6.cell? ⟨b3, 1, none⟩ = some (.slice gY2 nr.length kY2) := X.out.cell 3 1 rfl rfl
    have c32 : w6.cell? ⟨b3, 2, none⟩ = some (.slice gY3 np.length kY3) := X.out.cell 3 2 rfl rfl
    rw [hw6] at c00 c01 c02 c10 c11 c20 c21 c22 c30 c31 c32
    go_wp2_with fail
    rw [← hw6]
    try rw [← hb3]
    clear hw6 hb3
    clear c00 c01 c02 c10 c11 c20 c21 c22 c30 c31 c32
    go_at_call 28
    refine (sEqCk_any _ _ nl nr nl nr np np _ _ CX.out CY.out (Nat.le_refl _)).mono ?_
    rintro e w7 ⟨rfl, hb⟩
    rw [eqC_same]
    have X := hide (X.out.up hb)
    have CC := hide (CC.out.below hb)
    have CX := hide (CX.out.below hb)
    have CY := hide (CY.out.below hb)
    have N4 := hide hb.size
    clear hb
    clear CY
    cases ok with
    | false =>
      clear HI HS KX HSAY HRD HBD WF2 WPS hl3 hl4
      have c00 : w7.cell? ⟨b0, 0, none⟩ = some (.slice a1 l.length c1) := X.out.cell 0 0 rfl rfl
      have c01 : w7.cell? ⟨b0, 1, none⟩ = some (.slice a2 r.length c2) := X.out.cell 0 1 rfl rfl
      have c02 : w7.cell? ⟨b0, 2, none⟩ = some (.slice a3 ps.length c3) := X.out.cell 0 2 rfl rfl
      have c10 : w7.cell? ⟨b0 + 1, 0, none⟩ = some (.int .i64 f) := X.out.cell 1 0 rfl rfl
      have c11 : w7.cell? ⟨b0 + 1, 1, none⟩ = some (.int .i64 t) := X.out.cell 1 1 rfl rfl
      have c20 : w7.cell? ⟨b2, 0, none⟩ = some (.slice gX1 nl.length kX1) := X.out.cell 2 0 rfl rfl
      have c21 : w7.cell? ⟨b2, 1, none⟩ = some (.slice gX2 nr.length kX2) := X.out.cell 2 1 rfl rfl
      have c22 : w7.cell? ⟨b2, 2, none⟩ = some (.slice gX3 np.length kX3) := X.out.cell 2 2 rfl rfl
      have c30 : w7.cell? ⟨b3, 0, none⟩ = some (.slice gY1 nl.length kY1) := X.out.cell 3 0 rfl rfl
      have c31 : w7.cell? ⟨b3, 1, none⟩ = some (.slice gY2 nr.length kY2) := X.out.cell 3 1 rfl rfl
      have c32 : w7.cell? ⟨b3, 2, none⟩ = some (.slice gY3 np.length kY3) := X.out.cell 3 2 rfl rfl
      go_wp2_with fail
      clear c00 c01 c02 c10 c11 c20 c21 c22 c30 c31 c32
      go_at_call 33
      refine (HDD.out _ X.out.below).mono ?_
      rintro e w8 ⟨d1, d2, d3, m1, m2, m3, dl, dr, dp, row, rfl, hcu, hwf, hr1, hr2, hb⟩
      have X := hide (X.out.up hb)
      have CD := hide hcu
      clear hb hcu
      have hir : I64 row := ⟨by omega, by omega⟩
      have HI := hide (fun (W : World) (u : Value) (h : CU W u dl dr dp) => iRd_any u dl dr dp row W h hwf.1 hwf.2.1 (by have := hwf.2.2.1; omega) hwf.2.2.2.1 hwf.2.2.2.2.1 hwf.2.2.2.2.2 hir)
      have HS := hide (fun (W : World) (u : Value) (h : CU W u dl dr dp) => sRd_any u dl dr dp row W h hwf.1 hwf.2.1 (by have := hwf.2.2.1; omega) hwf.2.2.2.1 hwf.2.2.2.2.1 hwf.2.2.2.2.2 hir)
      have wf3 := rd_wf (l := dl) (r := dr) (ps := dp) (row := row) hwf.1 hwf.2.1 (by have := hwf.2.2.1; omega) hwf.2.2.2.1 hwf.2.2.2.2.1 hwf.2.2.2.2.2
      have hsay := fun h => rd_says (l := dl) (r := dr) (ps := dp) (row := row) h
      have hno := fun h => rd_no (l := dl) (r := dr) (ps := dp) (row := row) h
      have hdl : dl.length ≤ 1048576 := hwf.1
      have hdp : dp.length ≤ 100 := hwf.2.2.1
      clear hwf hr1 hr2 hir
      obtain ⟨el, hel⟩ : ∃ q, q = rdL dl dr dp row := ⟨_, rfl⟩
      obtain ⟨er, her⟩ : ∃ q, q = rdR dl dr dp row := ⟨_, rfl⟩
      obtain ⟨ep, hep⟩ : ∃ q, q = rdP dl dr dp row := ⟨_, rfl⟩
      obtain ⟨en, hen⟩ : ∃ q, q = rdN dl dr dp row := ⟨_, rfl⟩
      obtain ⟨ek, hek⟩ : ∃ q, q = rdOk dl dr dp row := ⟨_, rfl⟩
      rw [← hel, ← her, ← hep, ← hen, ← hek] at HI HS
      rw [← hel, ← her, ← hep] at wf3
      rw [← hek, ← hel, ← her, ← hep, ← hen] at hsay
      rw [← hek, ← hel, ← her, ← hep] at hno
      clear hel her hep hen hek
      have KE := hide (fun (W : World) (x y z : Value) (lo hi p1 q1 p2 q2 p3 q3 : Nat) (h : OC W x y z el er ep lo hi p1 q1 p2 q2 p3 q3) => (show CU W _ el er ep from h.ck wf3.2.2.2.1 wf3.2.2.2.2.1 (by have := wf3.2.2.1; omega) wf3.2.2.2.2.2))
      have HSY2 := hide hsay
      have HNO2 := hide hno
      clear hsay hno wf3
      have hm3 : (((en : Nat) : Int) != ((en : Nat) : Int)) = false := by simp
      have hm4 : (ek != ek) = false := by simp
      have hbl := below1 w8 (.cells #[.slice d1 dl.length m1, .slice d2 dr.length m2, .slice d3 dp.length m3] 27)
      have X := hide (X.out.alloc #[.slice d1 dl.length m1, .slice d2 dr.length m2, .slice d3 dp.length m3] 27)
      have CD := hide (CD.out.below hbl)
      clear hbl
      obtain ⟨w9, hw9⟩ : ∃ q, q = w8.alloc (.cells #[.slice d1 dl.length m1, .slice d2 dr.length m2, .slice d3 dp.length m3] 27) := ⟨_, rfl⟩
      obtain ⟨b4, hb4⟩ : ∃ q, q = w8.heap.size := ⟨_, rfl⟩
      have N5 := hide (show b4 = w8.heap.size ∧ w9.heap.size = w8.heap.size + 1 by rw [hw9, hb4]; simp)
      rw [← hw9] at X CD
      rw [← hb4] at X
      simp only [List.cons_append, List.nil_append] at X
      have c00 : w9.cell? ⟨b0, 0, none⟩ = some (.slice a1 l.length c1) := X.out.cell 0 0 rfl rfl
      have c01 : w9.cell? ⟨b0, 1, none⟩ = some (.slice a2 r.length c2) := X.out.cell 0 1 rfl rfl
      have c02 : w9.cell? ⟨b0, 2, none⟩ = some (.slice a3 ps.length c3) := X.out.cell 0 2 rfl rfl
      have c10 : w9.cell? ⟨b0 + 1, 0, none⟩ = some (.int .i64 f) := X.out.cell 1 0 rfl rfl
      have c11 : w9.cell? ⟨b0 + 1, 1, none⟩ = some (.int .i64 t) := X.out.cell 1 1 rfl rfl
      have c20 : w9.cell? ⟨b2, 0, none⟩ = some (.slice gX1 nl.length kX1) := X.out.cell 2 0 rfl rfl
      have c21 : w9.cell? ⟨b2, 1, none⟩ = some (.slice gX2 nr.length kX2) := X.out.cell 2 1 rfl rfl
      have c22 : w9.cell? ⟨b2, 2, none⟩ = some (.slice gX3 np.length kX3) := X.out.cell 2 2 rfl rfl
      have c30 : w9.cell? ⟨b3, 0, none⟩ = some (.slice gY1 nl.length kY1) := X.out.cell 3 0 rfl rfl
      have c31 : w9.cell? ⟨b3, 1, none⟩ = some (.slice gY2 nr.length kY2) := X.out.cell 3 1 rfl rfl
      have c32 : w9.cell? ⟨b3, 2, none⟩ = some (.slice gY3 np.length kY3) := X.out.cell 3 2 rfl rfl
      have c40 : w9.cell? ⟨b4, 0, none⟩ = some (.slice d1 dl.length m1) := X.out.cell 4 0 rfl rfl
      have c41 : w9.cell? ⟨b4, 1, none⟩ = some (.slice d2 dr.length m2) := X.out.cell 4 1 rfl rfl
      have c42 : w9.cell? ⟨b4, 2, none⟩ = some (.slice d3 dp.length m3) := X.out.cell 4 2 rfl rfl
      rw [hw9] at c00 c01 c02 c10 c11 c20 c21 c22 c30 c31 c32 c40 c41 c42
      go_wp2_with fail
      rw [← hw9]
      try rw [← hb4]
      clear hw9 hb4
      clear c00 c01 c02 c10 c11 c20 c21 c22 c30 c31 c32 c40 c41 c42
      go_at_call 29
      refine (HI.out _ _ CD.out).mono ?_
      rintro e w10 ⟨x, y, z, loE, hiE, pE1, qE1, pE2, qE2, pE3, qE3, rfl, hlo, hhi, CE, hb⟩
      obtain ⟨gE1, kE1, rfl⟩ := CE.x.form
      obtain ⟨gE2, kE2, rfl⟩ := CE.y.form
      obtain ⟨gE3, kE3, rfl⟩ := CE.z.own.form
      have CE := hide (KE.out _ _ _ _ _ _ _ _ _ _ _ _ CE)
      clear hlo hhi
      have X := hide (X.out.up hb)
      have CD := hide (CD.out.below hb)
      have N6 := hide hb.size
      clear hb
      have hbl := below1 w10 (.cells #[.slice gE1 el.length kE1, .slice gE2 er.length kE2, .slice gE3 ep.length kE3] 27)
      have X := hide (X.out.alloc #[.slice gE1 el.length kE1, .slice gE2 er.length kE2, .slice gE3 ep.length kE3] 27)
      have CD := hide (CD.out.below hbl)
      have CE := hide (CE.out.below hbl)
      clear hbl
      obtain ⟨w11, hw11⟩ : ∃ q, q = w10.alloc (.cells #[.slice gE1 el.length kE1, .slice gE2 er.length kE2, .slice gE3 ep.length kE3] 27) := ⟨_, rfl⟩
      obtain ⟨b5, hb5⟩ : ∃ q, q = w10.heap.size := ⟨_, rfl⟩
      have N7 := hide (show b5 = w10.heap.size ∧ w11.heap.size = w10.heap.size + 1 by rw [hw11, hb5]; simp)
      rw [← hw11] at X CD CE
      rw [← hb5] at X
      simp only [List.cons_append, List.nil_append] at X
      have c00 : w11.cell? ⟨b0, 0, none⟩ = some (.slice a1 l.length c1) := X.out.cell 0 0 rfl rfl
      have c01 : w11.cell? ⟨b0, 1, none⟩ = some (.slice a2 r.length c2) := X.out.cell 0 1 rfl rfl
      have c02 : w11.cell? ⟨b0, 2, none⟩ = some (.slice a3 ps.length c3) := X.out.cell 0 2 rfl rfl
      have c10 : w11.cell? ⟨b0 + 1, 0, none⟩ = some (.int .i64 f) := X.out.cell 1 0 rfl rfl
      have c11 : w11.cell? ⟨b0 + 1, 1, none⟩ = some (.int .i64 t) := X.out.cell 1 1 rfl rfl
      have c20 : w11.cell? ⟨b2, 0, none⟩ = some (.slice gX1 nl.length kX1) := X.out.cell 2 0 rfl rfl
      have c21 : w11.cell? ⟨b2, 1, none⟩ = some (.slice gX2 nr.length kX2) := X.out.cell 2 1 rfl rfl
      have c22 : w11.cell? ⟨b2, 2, none⟩ = some (.slice gX3 np.length kX3) := X.out.cell 2 2 rfl rfl
      have c30 : w11.cell? ⟨b3, 0, none⟩ = some (.slice gY1 nl.length kY1) := X.out.cell 3 0 rfl rfl
      have c31 : w11.cell? ⟨b3, 1, none⟩ = some (.slice gY2 nr.length kY2) := X.out.cell 3 1 rfl rfl
      have c32 : w11.cell? ⟨b3, 2, none⟩ = some (.slice gY3 np.length kY3) := X.out.cell 3 2 rfl rfl
      have c40 : w11.cell? ⟨b4, 0, none⟩ = some (.slice d1 dl.length m1) := X.out.cell 4 0 rfl rfl
      have c41 : w11.cell? ⟨b4, 1, none⟩ = some (.slice d2 dr.length m2) := X.out.cell 4 1 rfl rfl
      have c42 : w11.cell? ⟨b4, 2, none⟩ = some (.slice d3 dp.length m3) := X.out.cell 4 2 rfl rfl
      have c50 : w11.cell? ⟨b5, 0, none⟩ = some (.slice gE1 el.length kE1) := X.out.cell 5 0 rfl rfl
      have c51 : w11.cell? ⟨b5, 1, none⟩ = some (.slice gE2 er.length kE2) := X.out.cell 5 1 rfl rfl
      have c52 : w11.cell? ⟨b5, 2, none⟩ = some (.slice gE3 ep.length kE3) := X.out.cell 5 2 rfl rfl
      rw [hw11] at c00 c01 c02 c10 c11 c20 c21 c22 c30 c31 c32 c40 c41 c42 c50 c51 c52
      go_wp2_with fail
      rw [← hw11]
      try rw [← hb5]
      clear hw11 hb5
      clear c00 c01 c02 c10 c11 c20 c21 c22 c30 c31 c32 c40 c41 c42 c50 c51 c52
      go_at_call 34
      refine (HS.out _ _ CD.out).mono ?_
      rintro e w12 ⟨x, y, z, loF, hiF, pF1, qF1, pF2, qF2, pF3, qF3, rfl, hlo, hhi, CF, hb⟩
      obtain ⟨gF1, kF1, rfl⟩ := CF.x.form
      obtain ⟨gF2, kF2, rfl⟩ := CF.y.form
      obtain ⟨gF3, kF3, rfl⟩ := CF.z.own.form
      have CF := hide (KE.out _ _ _ _ _ _ _ _ _ _ _ _ CF)
      clear hlo hhi
      have X := hide (X.out.up hb)
      have CD := hide (CD.out.below hb)
      have CE := hide (CE.out.below hb)
      have N8 := hide hb.size
      clear hb
      have hbl := below1 w12 (.cells #[.slice gF1 el.length kF1, .slice gF2 er.length kF2, .slice gF3 ep.length kF3] 27)
      have X := hide (X.out.alloc #[.slice gF1 el.length kF1, .slice gF2 er.length kF2, .slice gF3 ep.length kF3] 27)
      have CD := hide (CD.out.below hbl)
      have CE := hide (CE.out.below hbl)
      have CF := hide (CF.out.below hbl)
      clear hbl
      obtain ⟨w13, hw13⟩ : ∃ q, q = w12.alloc (.cells #[.slice gF1 el.length kF1, .slice gF2 er.length kF2, .slice gF3 ep.length kF3] 27) := ⟨_, rfl⟩
      obtain ⟨b6, hb6⟩ : ∃ q, q = w12.heap.size := ⟨_, rfl⟩
      have N9 := hide (show b6 = w12.heap.size ∧ w13.heap.size = w12.heap.size + 1 by rw [hw13, hb6]; simp)
      rw [← hw13] at X CD CE CF
      rw [← hb6] at X
      simp only [List.cons_append, List.nil_append] at X
      have c00 : w13.cell? ⟨b0, 0, none⟩ = some (.slice a1 l.length c1) := X.out.cell 0 0 rfl rfl
      have c01 : w13.cell? ⟨b0, 1, none⟩ = some (.slice a2 r.length c2) := X.out.cell 0 1 rfl rfl
      have c02 : w13.cell? ⟨b0, 2, none⟩ = some (.slice a3 ps.length c3) := X.out.cell 0 2 rfl rfl
      have c10 : w13.cell? ⟨b0 + 1, 0, none⟩ = some (.int .i64 f) := X.out.cell 1 0 rfl rfl
      have c11 : w13.cell? ⟨b0 + 1, 1, none⟩ = some (.int .i64 t) := X.out.cell 1 1 rfl rfl
      have c20 : w13.cell? ⟨b2, 0, none⟩ = some (.slice gX1 nl.length kX1) := X.out.cell 2 0 rfl rfl
      have c21 : w13.cell? ⟨b2, 1, none⟩ = some (.slice gX2 nr.length kX2) := X.out.cell 2 1 rfl rfl
      have c22 : w13.cell? ⟨b2, 2, none⟩ = some (.slice gX3 np.length kX3) := X.out.cell 2 2 rfl rfl
      have c30 : w13.cell? ⟨b3, 0, none⟩ = some (.slice gY1 nl.length kY1) := X.out.cell 3 0 rfl rfl
      have c31 : w13.cell? ⟨b3, 1, none⟩ = some (.slice gY2 nr.length kY2) := X.out.cell 3 1 rfl rfl
      have c32 : w13.cell? ⟨b3, 2, none⟩ = some (.slice gY3 np.length kY3) := X.out.cell 3 2 rfl rfl
      have c40 : w13.cell? ⟨b4, 0, none⟩ = some (.slice d1 dl.length m1) := X.out.cell 4 0 rfl rfl
      have c41 : w13.cell? ⟨b4, 1, none⟩ = some (.slice d2 dr.length m2) := X.out.cell 4 1 rfl rfl
      have c42 : w13.cell? ⟨b4, 2, none⟩ = some (.slice d3 dp.length m3) := X.out.cell 4 2 rfl rfl
      have c50 : w13.cell? ⟨b5, 0, none⟩ = some (.slice gE1 el.length kE1) := X.out.cell 5 0 rfl rfl
      have c51 : w13.cell? ⟨b5, 1, none⟩ = some (.slice gE2 er.length kE2) := X.out.cell 5 1 rfl rfl
      have c52 : w13.cell? ⟨b5, 2, none⟩ = some (.slice gE3 ep.length kE3) := X.out.cell 5 2 rfl rfl
      have c60 : w13.cell? ⟨b6, 0, none⟩ = some (.slice gF1 el.length kF1) := X.out.cell 6 0 rfl rfl
      have c61 : w13.cell? ⟨b6, 1, none⟩ = some (.slice gF2 er.length kF2) := X.out.cell 6 1 rfl rfl
      have c62 : w13.cell? ⟨b6, 2, none⟩ = some (.slice gF3 ep.length kF3) := X.out.cell 6 2 rfl rfl
      rw [hw13] at c00 c01 c02 c10 c11 c20 c21 c22 c30 c31 c32 c40 c41 c42 c50 c51 c52 c60 c61 c62
      go_wp2_with fail
      rw [← hw13]
      try rw [← hb6]
      clear hw13 hb6
      clear c00 c01 c02 c10 c11 c20 c21 c22 c30 c31 c32 c40 c41 c42 c50 c51 c52 c60 c61 c62
      go_at_call 28
      refine (sEqCk_any _ _ el er el er ep ep _ _ CE.out CF.out (Nat.le_refl _)).mono ?_
      rintro e w14 ⟨rfl, hb⟩
      rw [eqC_same]
      have X := hide (X.out.up hb)
      have CD := hide (CD.out.below hb)
      have CE := hide (CE.out.below hb)
      have CF := hide (CF.out.below hb)
      have N10 := hide hb.size
      clear hb
      clear CF hm3 hm4 HI HS KE
      cases ek with
      | false =>
        obtain ⟨h1, h2, h3, hrow⟩ := HNO2.out rfl
        have HE2 := hide (show eqC el er ep dl dr dp = true by rw [h1, h2, h3]; simp [eqC])
        have HRZ := hide hrow
        clear h1 h2 h3 hrow HNO2 HSY2
        have c00 : w14.cell? ⟨b0, 0, none⟩ = some (.slice a1 l.length c1) := X.out.cell 0 0 rfl rfl
        have c01 : w14.cell? ⟨b0, 1, none⟩ = some (.slice a2 r.length c2) := X.out.cell 0 1 rfl rfl
        have c02 : w14.cell? ⟨b0, 2, none⟩ = some (.slice a3 ps.length c3) := X.out.cell 0 2 rfl rfl
        have c10 : w14.cell? ⟨b0 + 1, 0, none⟩ = some (.int .i64 f) := X.out.cell 1 0 rfl rfl
        have c11 : w14.cell? ⟨b0 + 1, 1, none⟩ = some (.int .i64 t) := X.out.cell 1 1 rfl rfl
        have c20 : w14.cell? ⟨b2, 0, none⟩ = some (.slice gX1 nl.length kX1) := X.out.cell 2 0 rfl rfl
        have c21 : w14.cell? ⟨b2, 1, none⟩ = some (.slice gX2 nr.length kX2) := X.out.cell 2 1 rfl rfl
        have c22 : w14.cell? ⟨b2, 2, none⟩ = some (.slice gX3 np.length kX3) := X.out.cell 2 2 rfl rfl
        have c30 : w14.cell? ⟨b3, 0, none⟩ = some (.slice gY1 nl.length kY1) := X.out.cell 3 0 rfl rfl
        have c31 : w14.cell? ⟨b3, 1, none⟩ = some (.slice gY2 nr.length kY2) := X.out.cell 3 1 rfl rfl
        have c32 : w14.cell? ⟨b3, 2, none⟩ = some (.slice gY3 np.length kY3) := X.out.cell 3 2 rfl rfl
        have c40 : w14.cell? ⟨b4, 0, none⟩ = some (.slice d1 dl.length m1) := X.out.cell 4 0 rfl rfl
        have c41 : w14.cell? ⟨b4, 1, none⟩ = some (.slice d2 dr.length m2) := X.out.cell 4 1 rfl rfl
        have c42 : w14.cell? ⟨b4, 2, none⟩ = some (.slice d3 dp.length m3) := X.out.cell 4 2 rfl rfl
        have c50 : w14.cell? ⟨b5, 0, none⟩ = some (.slice gE1 el.length kE1) := X.out.cell 5 0 rfl rfl
        have c51 : w14.cell? ⟨b5, 1, none⟩ = some (.slice gE2 er.length kE2) := X.out.cell 5 1 rfl rfl
        have c52 : w14.cell? ⟨b5, 2, none⟩ = some (.slice gE3 ep.length kE3) := X.out.cell 5 2 rfl rfl
        have c60 : w14.cell? ⟨b6, 0, none⟩ = some (.slice gF1 el.length kF1) := X.out.cell 6 0 rfl rfl
        have c61 : w14.cell? ⟨b6, 1, none⟩ = some (.slice gF2 er.length kF2) := X.out.cell 6 1 rfl rfl
        have c62 : w14.cell? ⟨b6, 2, none⟩ = some (.slice gF3 ep.length kF3) := X.out.cell 6 2 rfl rfl
        go_wp2_with fail
        clear c00 c01 c02 c10 c11 c20 c21 c22 c30 c31 c32 c40 c41 c42 c50 c51 c52 c60 c61 c62
        go_at_call 28
        refine (sEqCk_any _ _ el er dl dr ep dp _ _ CE.out CD.out (Nat.le_refl _)).mono ?_
        rintro e w15 ⟨rfl, hb⟩
        rw [HE2.out]
        have X := hide (X.out.up hb)
        have CD := hide (CD.out.below hb)
        have CE := hide (CE.out.below hb)
        have N11 := hide hb.size
        clear hb
        obtain ⟨ck, hck⟩ : ∃ q, q = isCk dl dr dp := ⟨_, rfl⟩
        have HCK := hide hck
        rw [← hck] at HRZ
        clear hck
        have c00 : w15.cell? ⟨b0, 0, none⟩ = some (.slice a1 l.length c1) := X.out.cell 0 0 rfl rfl
        have c01 : w15.cell? ⟨b0, 1, none⟩ = some (.slice a2 r.length c2) := X.out.cell 0 1 rfl rfl
        have c02 : w15.cell? ⟨b0, 2, none⟩ = some (.slice a3 ps.length c3) := X.out.cell 0 2 rfl rfl
        have c10 : w15.cell? ⟨b0 + 1, 0, none⟩ = some (.int .i64 f) := X.out.cell 1 0 rfl rfl
        have c11 : w15.cell? ⟨b0 + 1, 1, none⟩ = some (.int .i64 t) := X.out.cell 1 1 rfl rfl
        have c20 : w15.cell? ⟨b2, 0, none⟩ = some (.slice gX1 nl.length kX1) := X.out.cell 2 0 rfl rfl
        have c21 : w15.cell? ⟨b2, 1, none⟩ = some (.slice gX2 nr.length kX2) := X.out.cell 2 1 rfl rfl
        have c22 : w15.cell? ⟨b2, 2, none⟩ = some (.slice gX3 np.length kX3) := X.out.cell 2 2 rfl rfl
        have c30 : w15.cell? ⟨b3, 0, none⟩ = some (.slice gY1 nl.length kY1) := X.out.cell 3 0 rfl rfl
        have c31 : w15.cell? ⟨b3, 1, none⟩ = some (.slice gY2 nr.length kY2) := X.out.cell 3 1 rfl rfl
        have c32 : w15.cell? ⟨b3, 2, none⟩ = some (.slice gY3 np.length kY3) := X.out.cell 3 2 rfl rfl
        have c40 : w15.cell? ⟨b4, 0, none⟩ = some (.slice d1 dl.length m1) := X.out.cell 4 0 rfl rfl
        have c41 : w15.cell? ⟨b4, 1, none⟩ = some (.slice d2 dr.length m2) := X.out.cell 4 1 rfl rfl
        have c42 : w15.cell? ⟨b4, 2, none⟩ = some (.slice d3 dp.length m3) := X.out.cell 4 2 rfl rfl
        have c50 : w15.cell? ⟨b5, 0, none⟩ = some (.slice gE1 el.length kE1) := X.out.cell 5 0 rfl rfl
        have c51 : w15.cell? ⟨b5, 1, none⟩ = some (.slice gE2 er.length kE2) := X.out.cell 5 1 rfl rfl
        have c52 : w15.cell? ⟨b5, 2, none⟩ = some (.slice gE3 ep.length kE3) := X.out.cell 5 2 rfl rfl
        have c60 : w15.cell? ⟨b6, 0, none⟩ = some (.slice gF1 el.length kF1) := X.out.cell 6 0 rfl rfl
        have c61 : w15.cell? ⟨b6, 1, none⟩ = some (.slice gF2 er.length kF2) := X.out.cell 6 1 rfl rfl
        have c62 : w15.cell? ⟨b6, 2, none⟩ = some (.slice gF3 ep.length kF3) := X.out.cell 6 2 rfl rfl
        go_wp2_with fail
        clear c00 c01 c02 c10 c11 c20 c21 c22 c30 c31 c32 c40 c41 c42 c50 c51 c52 c60 c61 c62
        go_at_call 35
        refine (sIsCk_any _ dl dr dp _ _ CD.out (Nat.le_refl _)).mono ?_
        rintro e w16 ⟨rfl, hb⟩
        rw [← HCK.out]
        have X := hide (X.out.up hb)
        have CD := hide (CD.out.below hb)
        have CE := hide (CE.out.below hb)
        have N12 := hide hb.size
        clear hb
        cases ck with
        | false =>
          have c00 : w16.cell? ⟨b0, 0, none⟩ = some (.slice a1 l.length c1) := X.out.cell 0 0 rfl rfl
          have c01 : w16.cell? ⟨b0, 1, none⟩ = some (.slice a2 r.length c2) := X.out.cell 0 1 rfl rfl
          have c02 : w16.cell? ⟨b0, 2, none⟩ = some (.slice a3 ps.length c3) := X.out.cell 0 2 rfl rfl
          have c10 : w16.cell? ⟨b0 + 1, 0, none⟩ = some (.int .i64 f) := X.out.cell 1 0 rfl rfl
          have c11 : w16.cell? ⟨b0 + 1, 1, none⟩ = some (.int .i64 t) := X.out.cell 1 1 rfl rfl
          have c20 : w16.cell? ⟨b2, 0, none⟩ = some (.slice gX1 nl.length kX1) := X.out.cell 2 0 rfl rfl
          have c21 : w16.cell? ⟨b2, 1, none⟩ = some (.slice gX2 nr.length kX2) := X.out.cell 2 1 rfl rfl
          have c22 : w16.cell? ⟨b2, 2, none⟩ = some (.slice gX3 np.length kX3) := X.out.cell 2 2 rfl rfl
          have c30 : w16.cell? ⟨b3, 0, none⟩ = some (.slice gY1 nl.length kY1) := X.out.cell 3 0 rfl rfl
          have c31 : w16.cell? ⟨b3, 1, none⟩ = some (.slice gY2 nr.length kY2) := X.out.cell 3 1 rfl rfl
          have c32 : w16.cell? ⟨b3, 2, none⟩ = some (.slice gY3 np.length kY3) := X.out.cell 3 2 rfl rfl
          have c40 : w16.cell? ⟨b4, 0, none⟩ = some (.slice d1 dl.length m1) := X.out.cell 4 0 rfl rfl
          have c41 : w16.cell? ⟨b4, 1, none⟩ = some (.slice d2 dr.length m2) := X.out.cell 4 1 rfl rfl
          have c42 : w16.cell? ⟨b4, 2, none⟩ = some (.slice d3 dp.length m3) := X.out.cell 4 2 rfl rfl
          have c50 : w16.cell? ⟨b5, 0, none⟩ = some (.slice gE1 el.length kE1) := X.out.cell 5 0 rfl rfl
          have c51 : w16.cell? ⟨b5, 1, none⟩ = some (.slice gE2 er.length kE2) := X.out.cell 5 1 rfl rfl
          have c52 : w16.cell? ⟨b5, 2, none⟩ = some (.slice gE3 ep.length kE3) := X.out.cell 5 2 rfl rfl
          have c60 : w16.cell? ⟨b6, 0, none⟩ = some (.slice gF1 el.length kF1) := X.out.cell 6 0 rfl rfl
          have c61 : w16.cell? ⟨b6, 1, none⟩ = some (.slice gF2 er.length kF2) := X.out.cell 6 1 rfl rfl
          have c62 : w16.cell? ⟨b6, 2, none⟩ = some (.slice gF3 ep.length kF3) := X.out.cell 6 2 rfl rfl
          go_wp2_with fail
          clear c00 c01 c02 c10 c11 c20 c21 c22 c30 c31 c32 c40 c41 c42 c50 c51 c52 c60 c61 c62
          go_ret
          exact ⟨rfl, X.out.below⟩
        | true =>
          have HR0 := hide (HRZ.out rfl)
          clear HRZ
          have c00 : w16.cell? ⟨b0, 0, none⟩ = some (.slice a1 l.length c1) := X.out.cell 0 0 rfl rfl
          have c01 : w16.cell? ⟨b0, 1, none⟩ = some (.slice a2 r.length c2) := X.out.cell 0 1 rfl rfl
          have c02 : w16.cell? ⟨b0, 2, none⟩ = some (.slice a3 ps.length c3) := X.out.cell 0 2 rfl rfl
          have c10 : w16.cell? ⟨b0 + 1, 0, none⟩ = some (.int .i64 f) := X.out.cell 1 0 rfl rfl
          have c11 : w16.cell? ⟨b0 + 1, 1, none⟩ = some (.int .i64 t) := X.out.cell 1 1 rfl rfl
          have c20 : w16.cell? ⟨b2, 0, none⟩ = some (.slice gX1 nl.length kX1) := X.out.cell 2 0 rfl rfl
          have c21 : w16.cell? ⟨b2, 1, none⟩ = some (.slice gX2 nr.length kX2) := X.out.cell 2 1 rfl rfl
          have c22 : w16.cell? ⟨b2, 2, none⟩ = some (.slice gX3 np.length kX3) := X.out.cell 2 2 rfl rfl
          have c30 : w16.cell? ⟨b3, 0, none⟩ = some (.slice gY1 nl.length kY1) := X.out.cell 3 0 rfl rfl
          have c31 : w16.cell? ⟨b3, 1, none⟩ = some (.slice gY2 nr.length kY2) := X.out.cell 3 1 rfl rfl
          have c32 : w16.cell? ⟨b3, 2, none⟩ = some (.slice gY3 np.length kY3) := X.out.cell 3 2 rfl rfl
          have c40 : w16.cell? ⟨b4, 0, none⟩ = some (.slice d1 dl.length m1) := X.out.cell 4 0 rfl rfl
          have c41 : w16.cell? ⟨b4, 1, none⟩ = some (.slice d2 dr.length m2) := X.out.cell 4 1 rfl rfl
          have c42 : w16.cell? ⟨b4, 2, none⟩ = some (.slice d3 dp.length m3) := X.out.cell 4 2 rfl rfl
          have c50 : w16.cell? ⟨b5, 0, none⟩ = some (.slice gE1 el.length kE1) := X.out.cell 5 0 rfl rfl
          have c51 : w16.cell? ⟨b5, 1, none⟩ = some (.slice gE2 er.length kE2) := X.out.cell 5 1 rfl rfl
          have c52 : w16.cell? ⟨b5, 2, none⟩ = some (.slice gE3 ep.length kE3) := X.out.cell 5 2 rfl rfl
          have c60 : w16.cell? ⟨b6, 0, none⟩ = some (.slice gF1 el.length kF1) := X.out.cell 6 0 rfl rfl
          have c61 : w16.cell? ⟨b6, 1, none⟩ = some (.slice gF2 er.length kF2) := X.out.cell 6 1 rfl rfl
          have c62 : w16.cell? ⟨b6, 2, none⟩ = some (.slice gF3 ep.length kF3) := X.out.cell 6 2 rfl rfl
          go_wp2_with fail
          clear c00 c01 c02 c10 c11 c20 c21 c22 c30 c31 c32 c40 c41 c42 c50 c51 c52 c60 c61 c62
          go_at_call 36
          refine (iFindRow_any _ dl dr dp row _ _ CD.out (Nat.le_refl _)).mono ?_
          rintro e w17 ⟨rfl, hb⟩
          rw [HR0.out]
          have X := hide (X.out.up hb)
          have CD := hide (CD.out.below hb)
          have CE := hide (CE.out.below hb)
          have N13 := hide hb.size
          clear hb
          have c00 : w17.cell? ⟨b0, 0, none⟩ = some (.slice a1 l.length c1) := X.out.cell 0 0 rfl rfl
          have c01 : w17.cell? ⟨b0, 1, none⟩ = some (.slice a2 r.length c2) := X.out.cell 0 1 rfl rfl
          have c02 : w17.cell? ⟨b0, 2, none⟩ = some (.slice a3 ps.length c3) := X.out.cell 0 2 rfl rfl
          have c10 : w17.cell? ⟨b0 + 1, 0, none⟩ = some (.int .i64 f) := X.out.cell 1 0 rfl rfl
          have c11 : w17.cell? ⟨b0 + 1, 1, none⟩ = some (.int .i64 t) := X.out.cell 1 1 rfl rfl
          have c20 : w17.cell? ⟨b2, 0, none⟩ = some (.slice gX1 nl.length kX1) := X.out.cell 2 0 rfl rfl
          have c21 : w17.cell? ⟨b2, 1, none⟩ = some (.slice gX2 nr.length kX2) := X.out.cell 2 1 rfl rfl
          have c22 : w17.cell? ⟨b2, 2, none⟩ = some (.slice gX3 np.length kX3) := X.out.cell 2 2 rfl rfl
          have c30 : w17.cell? ⟨b3, 0, none⟩ = some (.slice gY1 nl.length kY1) := X.out.cell 3 0 rfl rfl
          have c31 : w17.cell? ⟨b3, 1, none⟩ = some (.slice gY2 nr.length kY2) := X.out.cell 3 1 rfl rfl
          have c32 : w17.cell? ⟨b3, 2, none⟩ = some (.slice gY3 np.length kY3) := X.out.cell 3 2 rfl rfl
          have c40 : w17.cell? ⟨b4, 0, none⟩ = some (.slice d1 dl.length m1) := X.out.cell 4 0 rfl rfl
          have c41 : w17.cell? ⟨b4, 1, none⟩ = some (.slice d2 dr.length m2) := X.out.cell 4 1 rfl rfl
          have c42 : w17.cell? ⟨b4, 2, none⟩ = some (.slice d3 dp.length m3) := X.out.cell 4 2 rfl rfl
          have c50 : w17.cell? ⟨b5, 0, none⟩ = some (.slice gE1 el.length kE1) := X.out.cell 5 0 rfl rfl
          have c51 : w17.cell? ⟨b5, 1, none⟩ = some (.slice gE2 er.length kE2) := X.out.cell 5 1 rfl rfl
          have c52 : w17.cell? ⟨b5, 2, none⟩ = some (.slice gE3 ep.length kE3) := X.out.cell 5 2 rfl rfl
          have c60 : w17.cell? ⟨b6, 0, none⟩ = some (.slice gF1 el.length kF1) := X.out.cell 6 0 rfl rfl
          have c61 : w17.cell? ⟨b6, 1, none⟩ = some (.slice gF2 er.length kF2) := X.out.cell 6 1 rfl rfl
          have c62 : w17.cell? ⟨b6, 2, none⟩ = some (.slice gF3 ep.length kF3) := X.out.cell 6 2 rfl rfl
          go_wp2_with fail
          clear c00 c01 c02 c10 c11 c20 c21 c22 c30 c31 c32 c40 c41 c42 c50 c51 c52 c60 c61 c62
          go_ret
          exact ⟨rfl, X.out.below⟩
      | true =>
        obtain ⟨h1, -, h2, h3, h4, h5⟩ := HSY2.out rfl
        have HCK := hide h4
        have HRZ := hide h5
        have v1 : (((el.length : Nat) : Int) == ((dl.length : Nat) : Int) - 1) = true := by simp; omega
        have v1b : decide (((el.length : Nat) : Int) = ((dl.length : Nat) : Int) - 1) = true := by simp; omega
        have v2 : decide (((en : Nat) : Int) ≤ ((dp.length : Nat) : Int) + 1) = true := by simp; omega
        have v2b : ((en : Nat) : Int) ≤ ((dp.length : Nat) : Int) + 1 := by omega
        have v3 : IntKind.i64.wrap (((dl.length : Nat) : Int) - 1) = ((dl.length : Nat) : Int) - 1 := IntWalk.i64_in _ (by omega)
        have v4 : IntKind.i64.wrap (((dp.length : Nat) : Int) + 1) = ((dp.length : Nat) : Int) + 1 := IntWalk.i64_in _ (by omega)
        clear h1 h2 h3 h4 h5 HNO2 HSY2
        have c00 : w14.cell? ⟨b0, 0, none⟩ = some (.slice a1 l.length c1) := X.out.cell 0 0 rfl rfl
        have c01 : w14.cell? ⟨b0, 1, none⟩ = some (.slice a2 r.length c2) := X.out.cell 0 1 rfl rfl
        have c02 : w14.cell? ⟨b0, 2, none⟩ = some (.slice a3 ps.length c3) := X.out.cell 0 2 rfl rfl
        have c10 : w14.cell? ⟨b0 + 1, 0, none⟩ = some (.int .i64 f) := X.out.cell 1 0 rfl rfl
        have c11 : w14.cell? ⟨b0 + 1, 1, none⟩ = some (.int .i64 t) := X.out.cell 1 1 rfl rfl
        have c20 : w14.cell? ⟨b2, 0, none⟩ = some (.slice gX1 nl.length kX1) := X.out.cell 2 0 rfl rfl
        have c21 : w14.cell? ⟨b2, 1, none⟩ = some (.slice gX2 nr.length kX2) := X.out.cell 2 1 rfl rfl
        have c22 : w14.cell? ⟨b2, 2, none⟩ = some (.slice gX3 np.length kX3) := X.out.cell 2 2 rfl rfl
        have c30 : w14.cell? ⟨b3, 0, none⟩ = some (.slice gY1 nl.length kY1) := X.out.cell 3 0 rfl rfl
        have c31 : w14.cell? ⟨b3, 1, none⟩ = some (.slice gY2 nr.length kY2) := X.out.cell 3 1 rfl rfl
        have c32 : w14.cell? ⟨b3, 2, none⟩ = some (.slice gY3 np.length kY3) := X.out.cell 3 2 rfl rfl
        have c40 : w14.cell? ⟨b4, 0, none⟩ = some (.slice d1 dl.length m1) := X.out.cell 4 0 rfl rfl
        have c41 : w14.cell? ⟨b4, 1, none⟩ = some (.slice d2 dr.length m2) := X.out.cell 4 1 rfl rfl
        have c42 : w14.cell? ⟨b4, 2, none⟩ = some (.slice d3 dp.length m3) := X.out.cell 4 2 rfl rfl
        have c50 : w14.cell? ⟨b5, 0, none⟩ = some (.slice gE1 el.length kE1) := X.out.cell 5 0 rfl rfl
        have c51 : w14.cell? ⟨b5, 1, none⟩ = some (.slice gE2 er.length kE2) := X.out.cell 5 1 rfl rfl
        have c52 : w14.cell? ⟨b5, 2, none⟩ = some (.slice gE3 ep.length kE3) := X.out.cell 5 2 rfl rfl
        have c60 : w14.cell? ⟨b6, 0, none⟩ = some (.slice gF1 el.length kF1) := X.out.cell 6 0 rfl rfl
        have c61 : w14.cell? ⟨b6, 1, none⟩ = some (.slice gF2 er.length kF2) := X.out.cell 6 1 rfl rfl
        have c62 : w14.cell? ⟨b6, 2, none⟩ = some (.slice gF3 ep.length kF3) := X.out.cell 6 2 rfl rfl
        go_wp2_with fail
        clear c00 c01 c02 c10 c11 c20 c21 c22 c30 c31 c32 c40 c41 c42 c50 c51 c52 c60 c61 c62
        go_at_call 30
        refine (iIsCk_any _ el er ep _ _ CE.out (Nat.le_refl _)).mono ?_
        rintro e w15 ⟨rfl, hb⟩
        rw [HCK.out]
        have X := hide (X.out.up hb)
        have CD := hide (CD.out.below hb)
        have CE := hide (CE.out.below hb)
        have N11 := hide hb.size
        clear hb
        have c00 : w15.cell? ⟨b0, 0, none⟩ = some (.slice a1 l.length c1) := X.out.cell 0 0 rfl rfl
        have c01 : w15.cell? ⟨b0, 1, none⟩ = some (.slice a2 r.length c2) := X.out.cell 0 1 rfl rfl
        have c02 : w15.cell? ⟨b0, 2, none⟩ = some (.slice a3 ps.length c3) := X.out.cell 0 2 rfl rfl
        have c10 : w15.cell? ⟨b0 + 1, 0, none⟩ = some (.int .i64 f) := X.out.cell 1 0 rfl rfl
        have c11 : w15.cell? ⟨b0 + 1, 1, none⟩ = some (.int .i64 t) := X.out.cell 1 1 rfl rfl
        have c20 : w15.cell? ⟨b2, 0, none⟩ = some (.slice gX1 nl.length kX1) := X.out.cell 2 0 rfl rfl
        have c21 : w15.cell? ⟨b2, 1, none⟩ = some (.slice gX2 nr.length kX2) := X.out.cell 2 1 rfl rfl
        have c22 : w15.cell? ⟨b2, 2, none⟩ = some (.slice gX3 np.length kX3) := X.out.cell 2 2 rfl rfl
        have c30 : w15.cell? ⟨b3, 0, none⟩ = some (.slice gY1 nl.length kY1) := X.out.cell 3 0 rfl rfl
        have c31 : w15.cell? ⟨b3, 1, none⟩ = some (.slice gY2 nr.length kY2) := X.out.cell 3 1 rfl rfl
        have c32 : w15.cell? ⟨b3, 2, none⟩ = some (.slice gY3 np.length kY3) := X.out.cell 3 2 rfl rfl
        have c40 : w15.cell? ⟨b4, 0, none⟩ = some (.slice d1 dl.length m1) := X.out.cell 4 0 rfl rfl
        have c41 : w15.cell? ⟨b4, 1, none⟩ = some (.slice d2 dr.length m2) := X.out.cell 4 1 rfl rfl
        have c42 : w15.cell? ⟨b4, 2, none⟩ = some (.slice d3 dp.length m3) := X.out.cell 4 2 rfl rfl
        have c50 : w15.cell? ⟨b5, 0, none⟩ = some (.slice gE1 el.length kE1) := X.out.cell 5 0 rfl rfl
        have c51 : w15.cell? ⟨b5, 1, none⟩ = some (.slice gE2 er.length kE2) := X.out.cell 5 1 rfl rfl
        have c52 : w15.cell? ⟨b5, 2, none⟩ = some (.slice gE3 ep.length kE3) := X.out.cell 5 2 rfl rfl
        have c60 : w15.cell? ⟨b6, 0, none⟩ = some (.slice gF1 el.length kF1) := X.out.cell 6 0 rfl rfl
        have c61 : w15.cell? ⟨b6, 1, none⟩ = some (.slice gF2 er.length kF2) := X.out.cell 6 1 rfl rfl
        have c62 : w15.cell? ⟨b6, 2, none⟩ = some (.slice gF3 ep.length kF3) := X.out.cell 6 2 rfl rfl
        go_wp2_with fail
        clear c00 c01 c02 c10 c11 c20 c21 c22 c30 c31 c32 c40 c41 c42 c50 c51 c52 c60 c61 c62
        go_at_call 36
        refine (iFindRow_any _ el er ep row _ _ CE.out (Nat.le_refl _)).mono ?_
        rintro e w16 ⟨rfl, hb⟩
        rw [HRZ.out]
        have X := hide (X.out.up hb)
        have CD := hide (CD.out.below hb)
        have CE := hide (CE.out.below hb)
        have N12 := hide hb.size
        clear hb
        have c00 : w16.cell? ⟨b0, 0, none⟩ = some (.slice a1 l.length c1) := X.out.cell 0 0 rfl rfl
        have c01 : w16.cell? ⟨b0, 1, none⟩ = some (.slice a2 r.length c2) := X.out.cell 0 1 rfl rfl
        have c02 : w16.cell? ⟨b0, 2, none⟩ = some (.slice a3 ps.length c3) := X.out.cell 0 2 rfl rfl
        have c10 : w16.cell? ⟨b0 + 1, 0, none⟩ = some (.int .i64 f) := X.out.cell 1 0 rfl rfl
        have c11 : w16.cell? ⟨b0 + 1, 1, none⟩ = some (.int .i64 t) := X.out.cell 1 1 rfl rfl
        have c20 : w16.cell? ⟨b2, 0, none⟩ = some (.slice gX1 nl.length kX1) := X.out.cell 2 0 rfl rfl
        have c21 : w16.cell? ⟨b2, 1, none⟩ = some (.slice gX2 nr.length kX2) := X.out.cell 2 1 rfl rfl
        have c22 : w16.cell? ⟨b2, 2, none⟩ = some (.slice gX3 np.length kX3) := X.out.cell 2 2 rfl rfl
        have c30 : w16.cell? ⟨b3, 0, none⟩ = some (.slice gY1 nl.length kY1) := X.out.cell 3 0 rfl rfl
        have c31 : w16.cell? ⟨b3, 1, none⟩ = some (.slice gY2 nr.length kY2) := X.out.cell 3 1 rfl rfl
        have c32 : w16.cell? ⟨b3, 2, none⟩ = some (.slice gY3 np.length kY3) := X.out.cell 3 2 rfl rfl
        have c40 : w16.cell? ⟨b4, 0, none⟩ = some (.slice d1 dl.length m1) := X.out.cell 4 0 rfl rfl
        have c41 : w16.cell? ⟨b4, 1, none⟩ = some (.slice d2 dr.length m2) := X.out.cell 4 1 rfl rfl
        have c42 : w16.cell? ⟨b4, 2, none⟩ = some (.slice d3 dp.length m3) := X.out.cell 4 2 rfl rfl
        have c50 : w16.cell? ⟨b5, 0, none⟩ = some (.slice gE1 el.length kE1) := X.out.cell 5 0 rfl rfl
        have c51 : w16.cell? ⟨b5, 1, none⟩ = some (.slice gE2 er.length kE2) := X.out.cell 5 1 rfl rfl
        have c52 : w16.cell? ⟨b5, 2, none⟩ = some (.slice gE3 ep.length kE3) := X.out.cell 5 2 rfl rfl
        have c60 : w16.cell? ⟨b6, 0, none⟩ = some (.slice gF1 el.length kF1) := X.out.cell 6 0 rfl rfl
        have c61 : w16.cell? ⟨b6, 1, none⟩ = some (.slice gF2 er.length kF2) := X.out.cell 6 1 rfl rfl
        have c62 : w16.cell? ⟨b6, 2, none⟩ = some (.slice gF3 ep.length kF3) := X.out.cell 6 2 rfl rfl
        go_wp2_with fail
        clear c00 c01 c02 c10 c11 c20 c21 c22 c30 c31 c32 c40 c41 c42 c50 c51 c52 c60 c61 c62
        go_ret
        exact ⟨rfl, X.out.below⟩
    | true =>
      obtain ⟨h1, h2, h3, h4, h5⟩ := HSAY.out rfl
      obtain ⟨r1, r2, r3, r4⟩ := HRD.out rfl
      obtain ⟨hb1, hb2⟩ := HBD.out rfl
      have wf2 := WF2.out
      have hnp : np.length = ps.length := by rw [h3]; simp [shiftP]
      have HI := hide (fun (W : World) (u : Value) (h : CU W u nl nr np) => iRd_any u nl nr np t W h (by omega) (by have := (isCk_parts h5).2.1; omega) (by omega) wf2.2.2.2.1 wf2.2.2.2.2.1 wf2.2.2.2.2.2 hit)
      have wf3 := rd_wf (l := nl) (r := nr) (ps := np) (row := t) (by omega) (by have := (isCk_parts h5).2.1; omega) (by omega) wf2.2.2.2.1 wf2.2.2.2.2.1 wf2.2.2.2.2.2
      obtain ⟨zl, hzl⟩ : ∃ q, q = rdL nl nr np t := ⟨_, rfl⟩
      obtain ⟨zr, hzr⟩ : ∃ q, q = rdR nl nr np t := ⟨_, rfl⟩
      obtain ⟨zn, hzn⟩ : ∃ q, q = rdN nl nr np t := ⟨_, rfl⟩
      rw [r1, r3, ← hzl, ← hzr, ← hzn] at HI
      rw [r3, ← hzl, ← hzr] at wf3
      rw [← hzl, ← hzr] at r2
      rw [← hzn] at r4
      clear hzl hzr hzn r1 r3
      have KZ := hide (fun (W : World) (x y z : Value) (lo hi p1 q1 p2 q2 p3 q3 : Nat) (h : OC W x y z zl zr ps lo hi p1 q1 p2 q2 p3 q3) => (show CU W _ zl zr ps from h.ck wf3.2.2.2.1 wf3.2.2.2.2.1 (by omega) wf3.2.2.2.2.2))
      have HCKX := hide h5
      have v1 : decide (((zn : Nat) : Int) > ((np.length : Nat) : Int) + 1) = false := by simp; omega
      have v2 : decide (((nn : Nat) : Int) > ((ps.length : Nat) : Int)) = false := by simp; omega
      have v3 : (((nl.length : Nat) : Int) != ((l.length : Nat) : Int) + 1) = false := by simp; omega
      have v4 : IntKind.i64.wrap (((np.length : Nat) : Int) + 1) = ((np.length : Nat) : Int) + 1 := IntWalk.i64_in _ (by omega)
      have v5 : IntKind.i64.wrap (((l.length : Nat) : Int) + 1) = ((l.length : Nat) : Int) + 1 := IntWalk.i64_in _ (by omega)
      have v6 : (((ps.length : Nat) : Int) != ((ps.length : Nat) : Int)) = false := by simp
      have v7 : ¬ ((np.length : Nat) : Int) + 1 < ((zn : Nat) : Int) := by omega
      have v8 : ¬ ((ps.length : Nat) : Int) < ((nn : Nat) : Int) := by omega
      have v9 : ¬ ps.length < nn := by omega
      have v10 : nn ≤ ps.length := by omega
      have HSO := hide (show sortL (prs zl zr) = sortL (prs l r) from prs_perm r2)
      obtain ⟨so, hso⟩ : ∃ q, q = sortL (prs l r) := ⟨_, rfl⟩
      have HP1 := hide (fun (W : World) (u : Value) (h : CU W u zl zr ps) => show Calls Try.prog 32 #[u] W (RetOw W so) by rw [hso, ← HSO.out]; exact pairs_any u zl zr ps W W.heap.size h (Nat.le_refl _) wf3.1)
      have HP2 := hide (fun (W : World) (u : Value) (h : CU W u l r ps) => show Calls Try.prog 32 #[u] W (RetOw W so) by rw [hso]; exact pairs_any u l r ps W W.heap.size h (Nat.le_refl _) hll)
      have HSOW := hide (show ∀ x ∈ so, I64 x from fun x hx => prs_wf l r x (sortL_mem.1 (by rw [hso] at hx; exact hx)))
      clear hso HSO h1 h2 h3 h4 h5 r2 r4 hb1 hb2 wf2 wf3 hnp HSAY HRD HBD WF2 hl3 hl4 HS KX
      have c00 : w7.cell? ⟨b0, 0, none⟩ = some (.slice a1 l.length c1) := X.out.cell 0 0 rfl rfl
      have c01 : w7.cell? ⟨b0, 1, none⟩ = some (.slice a2 r.length c2) := X.out.cell 0 1 rfl rfl
      have c02 : w7.cell? ⟨b0, 2, none⟩ = some (.slice a3 ps.length c3) := X.out.cell 0 2 rfl rfl
      have c10 : w7.cell? ⟨b0 + 1, 0, none⟩ = some (.int .i64 f) := X.out.cell 1 0 rfl rfl
      have c11 : w7.cell? ⟨b0 + 1, 1, none⟩ = some (.int .i64 t) := X.out.cell 1 1 rfl rfl
      have c20 : w7.cell? ⟨b2, 0, none⟩ = some (.slice gX1 nl.length kX1) := X.out.cell 2 0 rfl rfl
      have c21 : w7.cell? ⟨b2, 1, none⟩ = some (.slice gX2 nr.length kX2) := X.out.cell 2 1 rfl rfl
      have c22 : w7.cell? ⟨b2, 2, none⟩ = some (.slice gX3 np.length kX3) := X.out.cell 2 2 rfl rfl
      have c30 : w7.cell? ⟨b3, 0, none⟩ = some (.slice gY1 nl.length kY1) := X.out.cell 3 0 rfl rfl
      have c31 : w7.cell? ⟨b3, 1, none⟩ = some (.slice gY2 nr.length kY2) := X.out.cell 3 1 rfl rfl
      have c32 : w7.cell? ⟨b3, 2, none⟩ = some (.slice gY3 np.length kY3) := X.out.cell 3 2 rfl rfl
      go_wp2_with fail
      clear c00 c01 c02 c10 c11 c20 c21 c22 c30 c31 c32
      go_at_call 29
      refine (HI.out _ _ CX.out).mono ?_
      rintro e w8 ⟨x, y, z, loZ, hiZ, pZ1, qZ1, pZ2, qZ2, pZ3, qZ3, rfl, hlo, hhi, CZ, hb⟩
      obtain ⟨gZ1, kZ1, rfl⟩ := CZ.x.form
      obtain ⟨gZ2, kZ2, rfl⟩ := CZ.y.form
      obtain ⟨gZ3, kZ3, rfl⟩ := CZ.z.own.form
      have CZ := hide (KZ.out _ _ _ _ _ _ _ _ _ _ _ _ CZ)
      clear hlo hhi
      have X := hide (X.out.up hb)
      have CC := hide (CC.out.below hb)
      have CX := hide (CX.out.below hb)
      have N5 := hide hb.size
      clear hb
      have hbl := below1 w8 (.cells #[.slice gZ1 zl.length kZ1, .slice gZ2 zr.length kZ2, .slice gZ3 ps.length kZ3] 27)
      have X := hide (X.out.alloc #[.slice gZ1 zl.length kZ1, .slice gZ2 zr.length kZ2, .slice gZ3 ps.length kZ3] 27)
      have CC := hide (CC.out.below hbl)
      have CX := hide (CX.out.below hbl)
      have CZ := hide (CZ.out.below hbl)
      clear hbl
      obtain ⟨w9, hw9⟩ : ∃ q, q = w8.alloc (.cells #[.slice gZ1 zl.length kZ1, .slice gZ2 zr.length kZ2, .slice gZ3 ps.length kZ3] 27) := ⟨_, rfl⟩
      obtain ⟨b4, hb4⟩ : ∃ q, q = w8.heap.size := ⟨_, rfl⟩
      have N6 := hide (show b4 = w8.heap.size ∧ w9.heap.size = w8.heap.size + 1 by rw [hw9, hb4]; simp)
      rw [← hw9] at X CC CX CZ
      rw [← hb4] at X
      simp only [List.cons_append, List.nil_append] at X
      have c00 : w9.cell? ⟨b0, 0, none⟩ = some (.slice a1 l.length c1) := X.out.cell 0 0 rfl rfl
      have c01 : w9.cell? ⟨b0, 1, none⟩ = some (.slice a2 r.length c2) := X.out.cell 0 1 rfl rfl
      have c02 : w9.cell? ⟨b0, 2, none⟩ = some (.slice a3 ps.length c3) := X.out.cell 0 2 rfl rfl
      have c10 : w9.cell? ⟨b0 + 1, 0, none⟩ = some (.int .i64 f) := X.out.cell 1 0 rfl rfl
      have c11 : w9.cell? ⟨b0 + 1, 1, none⟩ = some (.int .i64 t) := X.out.cell 1 1 rfl rfl
      have c20 : w9.cell? ⟨b2, 0, none⟩ = some (.slice gX1 nl.length kX1) := X.out.cell 2 0 rfl rfl
      have c21 : w9.cell? ⟨b2, 1, none⟩ = some (.slice gX2 nr.length kX2) := X.out.cell 2 1 rfl rfl
      have c22 : w9.cell? ⟨b2, 2, none⟩ = some (.slice gX3 np.length kX3) := X.out.cell 2 2 rfl rfl
      have c30 : w9.cell? ⟨b3, 0, none⟩ = some (.slice gY1 nl.length kY1) := X.out.cell 3 0 rfl rfl
      have c31 : w9.cell? ⟨b3, 1, none⟩ = some (.slice gY2 nr.length kY2) := X.out.cell 3 1 rfl rfl
      have c32 : w9.cell? ⟨b3, 2, none⟩ = some (.slice gY3 np.length kY3) := X.out.cell 3 2 rfl rfl
      have c40 : w9.cell? ⟨b4, 0, none⟩ = some (.slice gZ1 zl.length kZ1) := X.out.cell 4 0 rfl rfl
      have c41 : w9.cell? ⟨b4, 1, none⟩ = some (.slice gZ2 zr.length kZ2) := X.out.cell 4 1 rfl rfl
      have c42 : w9.cell? ⟨b4, 2, none⟩ = some (.slice gZ3 ps.length kZ3) := X.out.cell 4 2 rfl rfl
      rw [hw9] at c00 c01 c02 c10 c11 c20 c21 c22 c30 c31 c32 c40 c41 c42
      go_upto_region 10 with fail
      rw [← hw9]
      try rw [← hb4]
      clear hw9 hb4 c00 c01 c02 c10 c11 c20 c21 c22 c30 c31 c32 c40 c41 c42
      have X1 := X
      refine wp_region_any (by kernel_rfl) ?_
      refine wpAny_facts (w0 := w9) (fun i => ([(fun lo hi s W => s 67 = .bool true),
        (fun lo hi s W => s 68 = .bool false),
        (fun lo hi s W => s 69 = .bool false),
        (fun lo hi s W => s 70 = .int .i64 (zn)),
        (fun lo hi s W => s 71 = .pointer (some ⟨b2, 2, none⟩)),
        (fun lo hi s W => s 72 = .slice gX3 np.length kX3),
        (fun lo hi s W => s 73 = .int .i64 ((np.length : Nat))),
        (fun lo hi s W => s 74 = .int .i64 ((np.length : Nat) + 1)),
        (fun lo hi s W => s 75 = .bool false),
        (fun lo hi s W => s 76 = .bool false),
        (fun lo hi s W => s 77 = .bool false),
        (fun lo hi s W => s 78 = .int .i64 (nn)),
        (fun lo hi s W => s 79 = .pointer (some ⟨b0, 2, none⟩)),
        (fun lo hi s W => s 80 = .slice a3 ps.length c3),
        (fun lo hi s W => s 81 = .int .i64 ((ps.length : Nat))),
        (fun lo hi s W => s 82 = .bool false),
        (fun lo hi s W => s 83 = .bool false),
        (fun lo hi s W => s 84 = .bool false),
        (fun lo hi s W => s 85 = .agg #[.slice gX1 nl.length kX1, .slice gX2 nr.length kX2, .slice gX3 np.length kX3]),
        (fun lo hi s W => s 86 = .bool true),
        (fun lo hi s W => s 87 = .bool false),
        (fun lo hi s W => s 88 = .bool false),
        (fun lo hi s W => s 89 = .bool false),
        (fun lo hi s W => s 90 = .pointer (some ⟨b2, 0, none⟩)),
        (fun lo hi s W => s 91 = .slice gX1 nl.length kX1),
        (fun lo hi s W => s 92 = .int .i64 ((nl.length : Nat))),
        (fun lo hi s W => s 93 = .pointer (some ⟨b0, 0, none⟩)),
        (fun lo hi s W => s 94 = .slice a1 l.length c1),
        (fun lo hi s W => s 95 = .int .i64 ((l.length : Nat))),
        (fun lo hi s W => s 96 = .int .i64 ((l.length : Nat) + 1)),
        (fun lo hi s W => s 97 = .bool false),
        (fun lo hi s W => s 98 = .bool false),
        (fun lo hi s W => s 99 = .bool false),
        (fun lo hi s W => s 100 = .agg #[.slice gZ1 zl.length kZ1, .slice gZ2 zr.length kZ2, .slice gZ3 ps.length kZ3]),
        (fun lo hi s W => Ow W (s 101) so lo hi),
        (fun lo hi s W => s 102 = .agg #[.slice a1 l.length c1, .slice a2 r.length c2, .slice a3 ps.length c3]),
        (fun lo hi s W => Ow W (s 103) so lo hi),
        (fun lo hi s W => s 104 = .bool true),
        (fun lo hi s W => s 105 = .bool false),
        (fun lo hi s W => s 106 = .bool false),
        (fun lo hi s W => s 107 = .bool false),
        (fun lo hi s W => s 108 = .pointer (some ⟨b4, 2, none⟩)),
        (fun lo hi s W => s 109 = .slice gZ3 ps.length kZ3),
        (fun lo hi s W => s 110 = .int .i64 ((ps.length : Nat))),
        (fun lo hi s W => s 111 = .pointer (some ⟨b0, 2, none⟩)),
        (fun lo hi s W => s 112 = .slice a3 ps.length c3),
        (fun lo hi s W => s 113 = .int .i64 ((ps.length : Nat))),
        (fun lo hi s W => s 114 = .bool false),
        (fun lo hi s W => s 115 = .bool false)] : List (Nat → Nat → (Nat → Value) → World → Prop)).getD i (fun _ _ _ _ => True)) [[], [0], [0, 1], [0, 1, 2], [0, 1, 2], [0, 1, 2, 4], [0, 1, 2, 4, 5], [0, 1, 2, 4, 5, 6], [0, 1, 2, 3, 4, 5, 6, 7], [0, 1, 2, 3, 4, 5, 6, 7, 8], [0, 1, 2, 3, 4, 5, 6, 7, 8, 9], [0, 1, 2, 3, 4, 5, 6, 7, 8, 9, 10], [0, 1, 2, 3, 4, 5, 6, 7, 8, 9, 10], [0, 1, 2, 3, 4, 5, 6, 7, 8, 9, 10, 12], [0, 1, 2, 3, 4, 5, 6, 7, 8, 9, 10, 12, 13], [0, 1, 2, 3, 4, 5, 6, 7, 8, 9, 10, 11, 12, 13, 14], [0, 1, 2, 3, 4, 5, 6, 7, 8, 9, 10, 11, 12, 13, 14, 15], [0, 1, 2, 3, 4, 5, 6, 7, 8, 9, 10, 11, 12, 13, 14, 15, 16], [0, 1, 2, 3, 4, 5, 6, 7, 8, 9, 10, 11, 12, 13, 14, 15, 16, 17], [0, 1, 2, 3, 4, 5, 6, 7, 8, 9, 10, 11, 12, 13, 14, 15, 16, 17, 18], [0, 1, 2, 3, 4, 5, 6, 7, 8, 9, 10, 11, 12, 13, 14, 15, 16, 17, 18, 19], [0, 1, 2, 3, 4, 5, 6, 7, 8, 9, 10, 11, 12, 13, 14, 15, 16, 17, 18, 19, 20], [0, 1, 2, 3, 4, 5, 6, 7, 8, 9, 10, 11, 12, 13, 14, 15, 16, 17, 18, 19, 20, 21], [0, 1, 2, 3, 4, 5, 6, 7, 8, 9, 10, 11, 12, 13, 14, 15, 16, 17, 18, 19, 20, 21, 22], [0, 1, 2, 3, 4, 5, 6, 7, 8, 9, 10, 11, 12, 13, 14, 15, 16, 17, 18, 19, 20, 21, 22, 23], [0, 1, 2, 3, 4, 5, 6, 7, 8, 9, 10, 11, 12, 13, 14, 15, 16, 17, 18, 19, 20, 21, 22, 23, 24], [0, 1, 2, 3, 4, 5, 6, 7, 8, 9, 10, 11, 12, 13, 14, 15, 16, 17, 18, 19, 20, 21, 22], [0, 1, 2, 3, 4, 5, 6, 7, 8, 9, 10, 11, 12, 13, 14, 15, 16, 17, 18, 19, 20, 21, 22, 26], [0, 1, 2, 3, 4, 5, 6, 7, 8, 9, 10, 11, 12, 13, 14, 15, 16, 17, 18, 19, 20, 21, 22, 26, 27], [0, 1, 2, 3, 4, 5, 6, 7, 8, 9, 10, 11, 12, 13, 14, 15, 16, 17, 18, 19, 20, 21, 22, 26, 27, 28], [0, 1, 2, 3, 4, 5, 6, 7, 8, 9, 10, 11, 12, 13, 14, 15, 16, 17, 18, 19, 20, 21, 22, 23, 24, 25, 26, 27, 28, 29], [0, 1, 2, 3, 4, 5, 6, 7, 8, 9, 10, 11, 12, 13, 14, 15, 16, 17, 18, 19, 20, 21, 22, 23, 24, 25, 26, 27, 28, 29, 30], [0, 1, 2, 3, 4, 5, 6, 7, 8, 9, 10, 11, 12, 13, 14, 15, 16, 17, 18, 19, 20, 21, 22, 23, 24, 25, 26, 27, 28, 29, 30, 31], [0, 1, 2, 3, 4, 5, 6, 7, 8, 9, 10, 11, 12, 13, 14, 15, 16, 17, 18, 19, 20, 21, 22, 23, 24, 25, 26, 27, 28, 29, 30, 31, 32], [0, 1, 2, 3, 4, 5, 6, 7, 8, 9, 10, 11, 12, 13, 14, 15, 16, 17, 18, 19, 20, 21, 22, 23, 24, 25, 26, 27, 28, 29, 30, 31, 32, 33], [0, 1, 2, 3, 4, 5, 6, 7, 8, 9, 10, 11, 12, 13, 14, 15, 16, 17, 18, 19, 20, 21, 22, 23, 24, 25, 26, 27, 28, 29, 30, 31, 32], [0, 1, 2, 3, 4, 5, 6, 7, 8, 9, 10, 11, 12, 13, 14, 15, 16, 17, 18, 19, 20, 21, 22, 23, 24, 25, 26, 27, 28, 29, 30, 31, 32, 33, 34, 35], [0, 1, 2, 3, 4, 5, 6, 7, 8, 9, 10, 11, 12, 13, 14, 15, 16, 17, 18, 19, 20, 21, 22, 23, 24, 25, 26, 27, 28, 29, 30, 31, 32, 33, 34, 35, 36], [0, 1, 2, 3, 4, 5, 6, 7, 8, 9, 10, 11, 12, 13, 14, 15, 16, 17, 18, 19, 20, 21, 22, 23, 24, 25, 26, 27, 28, 29, 30, 31, 32, 33, 34, 35, 36, 37], [0, 1, 2, 3, 4, 5, 6, 7, 8, 9, 10, 11, 12, 13, 14, 15, 16, 17, 18, 19, 20, 21, 22, 23, 24, 25, 26, 27, 28, 29, 30, 31, 32, 33, 34, 35, 36, 37, 38], [0, 1, 2, 3, 4, 5, 6, 7, 8, 9, 10, 11, 12, 13, 14, 15, 16, 17, 18, 19, 20, 21, 22, 23, 24, 25, 26, 27, 28, 29, 30, 31, 32, 33, 34, 35, 36, 37, 38, 39], [0, 1, 2, 3, 4, 5, 6, 7, 8, 9, 10, 11, 12, 13, 14, 15, 16, 17, 18, 19, 20, 21, 22, 23, 24, 25, 26, 27, 28, 29, 30, 31, 32, 33, 34, 35, 36, 37, 38, 39, 40], [0, 1, 2, 3, 4, 5, 6, 7, 8, 9, 10, 11, 12, 13, 14, 15, 16, 17, 18, 19, 20, 21, 22, 23, 24, 25, 26, 27, 28, 29, 30, 31, 32, 33, 34, 35, 36, 37, 38, 39, 40, 41], [0, 1, 2, 3, 4, 5, 6, 7, 8, 9, 10, 11, 12, 13, 14, 15, 16, 17, 18, 19, 20, 21, 22, 23, 24, 25, 26, 27, 28, 29, 30, 31, 32, 33, 34, 35, 36, 37, 38, 39, 40, 41, 42], [0, 1, 2, 3, 4, 5, 6, 7, 8, 9, 10, 11, 12, 13, 14, 15, 16, 17, 18, 19, 20, 21, 22, 23, 24, 25, 26, 27, 28, 29, 30, 31, 32, 33, 34, 35, 36, 37, 38, 39, 40], [0, 1, 2, 3, 4, 5, 6, 7, 8, 9, 10, 11, 12, 13, 14, 15, 16, 17, 18, 19, 20, 21, 22, 23, 24, 25, 26, 27, 28, 29, 30, 31, 32, 33, 34, 35, 36, 37, 38, 39, 40, 44], [0, 1, 2, 3, 4, 5, 6, 7, 8, 9, 10, 11, 12, 13, 14, 15, 16, 17, 18, 19, 20, 21, 22, 23, 24, 25, 26, 27, 28, 29, 30, 31, 32, 33, 34, 35, 36, 37, 38, 39, 40, 44, 45], [0, 1, 2, 3, 4, 5, 6, 7, 8, 9, 10, 11, 12, 13, 14, 15, 16, 17, 18, 19, 20, 21, 22, 23, 24, 25, 26, 27, 28, 29, 30, 31, 32, 33, 34, 35, 36, 37, 38, 39, 40, 41, 42, 43, 44, 45, 46], [0, 1, 2, 3, 4, 5, 6, 7, 8, 9, 10, 11, 12, 13, 14, 15, 16, 17, 18, 19, 20, 21, 22, 23, 24, 25, 26, 27, 28, 29, 30, 31, 32, 33, 34, 35, 36, 37, 38, 39, 40, 41, 42, 43, 44, 45, 46, 47]] [0, 1, 2, 3, 4, 5, 6, 7, 8, 9, 10, 11, 12, 13, 14, 15, 16, 17, 18, 19, 20, 21, 22, 23, 24, 25, 26, 27, 28, 29, 30, 31, 32, 33, 34, 35, 36, 37, 38, 39, 40, 41, 42, 43, 44, 45, 46, 47, 48] [[67], [68], [69], [70], [71], [72], [73], [74], [75], [76], [77], [78], [79], [80], [81], [82], [83], [84], [85], [86], [87], [88], [89], [90], [91], [92], [93], [94], [95], [96], [97], [98], [99], [100], [101], [102], [103], [104], [105], [106], [107], [108], [109], [110], [111], [112], [113], [114], [115]] [[], [], [], [], [], [], [], [], [], [], [], [], [], [], [], [], [], [], [], [], [], [], [], [], [], [], [], [], [], [], [], [], [], [], [], [], [], [], [], [], [], [], [], [], [], [], [], [], []] (by kernel_rfl) (by kernel_rfl) ?st ?step ?fin
      case st =>
        intro i hi lo hi' s W W' h q1 q2 q3 q4 k
        have hi : i < 49 := hi
        rcases (show i = 0 ∨ i = 1 ∨ i = 2 ∨ i = 3 ∨ i = 4 ∨ i = 5 ∨ i = 6 ∨ i = 7 ∨ i = 8 ∨ i = 9 ∨ i = 10 ∨ i = 11 ∨ i = 12 ∨ i = 13 ∨ i = 14 ∨ i = 15 ∨ i = 16 ∨ i = 17 ∨ i = 18 ∨ i = 19 ∨ i = 20 ∨ i = 21 ∨ i = 22 ∨ i = 23 ∨ i = 24 ∨ i = 25 ∨ i = 26 ∨ i = 27 ∨ i = 28 ∨ i = 29 ∨ i = 30 ∨ i = 31 ∨ i = 32 ∨ i = 33 ∨ i = 34 ∨ i = 35 ∨ i = 36 ∨ i = 37 ∨ i = 38 ∨ i = 39 ∨ i = 40 ∨ i = 41 ∨ i = 42 ∨ i = 43 ∨ i = 44 ∨ i = 45 ∨ i = 46 ∨ i = 47 ∨ i = 48 by omega) with rfl | rfl | rfl | rfl | rfl | rfl | rfl | rfl | rfl | rfl | rfl | rfl | rfl | rfl | rfl | rfl | rfl | rfl | rfl | rfl | rfl | rfl | rfl | rfl | rfl | rfl | rfl | rfl | rfl | rfl | rfl | rfl | rfl | rfl | rfl | rfl | rfl | rfl | rfl | rfl | rfl | rfl | rfl | rfl | rfl | rfl | rfl | rfl | rfl
        · exact h
        · exact h
        · exact h
        · exact h
        · exact h
        · exact h
        · exact h
        · exact h
        · exact h
        · exact h
        · exact h
        · exact h
        · exact h
        · exact h
        · exact h
        · exact h
        · exact h
        · exact h
        · exact h
        · exact h
        · exact h
        · exact h
        · exact h
        · exact h
        · exact h
        · exact h
        · exact h
        · exact h
        · exact h
        · exact h
        · exact h
        · exact h
        · exact h
        · exact h
        · have h : Ow W (s 101) so lo hi' := h
          show Ow W' (s 101) so lo hi'
          exact h.on k.size k.own
        · exact h
        · have h : Ow W (s 103) so lo hi' := h
          show Ow W' (s 103) so lo hi'
          exact h.on k.size k.own
        · exact h
        · exact h
        · exact h
        · exact h
        · exact h
        · exact h
        · exact h
        · exact h
        · exact h
        · exact h
        · exact h
        · exact h
      case step =>
        intro i hi a W iv hb hsz hdf hrest hanc hivs hap K HK
        have hi : i < 49 := hi
        have HK := hide HK
        have HAN := hide hanc
        have HRS := hide hrest
        have XU := hide (X1.out.up hb)
        have HB := hide hb
        clear hanc hivs hap hrest hb hsz hdf X X1
        rcases (show i = 0 ∨ i = 1 ∨ i = 2 ∨ i = 3 ∨ i = 4 ∨ i = 5 ∨ i = 6 ∨ i = 7 ∨ i = 8 ∨ i = 9 ∨ i = 10 ∨ i = 11 ∨ i = 12 ∨ i = 13 ∨ i = 14 ∨ i = 15 ∨ i = 16 ∨ i = 17 ∨ i = 18 ∨ i = 19 ∨ i = 20 ∨ i = 21 ∨ i = 22 ∨ i = 23 ∨ i = 24 ∨ i = 25 ∨ i = 26 ∨ i = 27 ∨ i = 28 ∨ i = 29 ∨ i = 30 ∨ i = 31 ∨ i = 32 ∨ i = 33 ∨ i = 34 ∨ i = 35 ∨ i = 36 ∨ i = 37 ∨ i = 38 ∨ i = 39 ∨ i = 40 ∨ i = 41 ∨ i = 42 ∨ i = 43 ∨ i = 44 ∨ i = 45 ∨ i = 46 ∨ i = 47 ∨ i = 48 by omega) with rfl | rfl | rfl | rfl | rfl | rfl | rfl | rfl | rfl | rfl | rfl | rfl | rfl | rfl | rfl | rfl | rfl | rfl | rfl | rfl | rfl | rfl | rfl | rfl | rfl | rfl | rfl | rfl | rfl | rfl | rfl | rfl | rfl | rfl | rfl | rfl | rfl | rfl | rfl | rfl | rfl | rfl | rfl | rfl | rfl | rfl | rfl | rfl | rfl
        · refine wpOp_step (o := _) rfl fun K' hK => ?_
          rw [if_pos (by go_simp)]
          have e0 : a.tmps.getD 13 undef = .bool true := (HRS.out 13 (by decide)).trans rfl
          go_simp
          exact hK _ _ (HK.out _ _ ⟨fun _ => ⟨Below.refl _ _, rfl⟩, fun h => absurd rfl h⟩)
        · refine wpOp_step (o := _) rfl fun K' hK => ?_
          rw [if_pos (by go_simp)]
          have e0 : a.tmps.getD 67 undef = .bool true := HAN.out 0 (by decide)
          go_simp
          exact hK _ _ (HK.out _ _ ⟨fun _ => ⟨Below.refl _ _, rfl⟩, fun h => absurd rfl h⟩)
        · refine wpOp_step (o := _) rfl fun K' hK => ?_
          rw [if_pos (by go_simp)]
          have e0 : a.tmps.getD 68 undef = .bool false := HAN.out 1 (by decide)
          go_simp
          exact hK _ _ (HK.out _ _ ⟨fun _ => ⟨Below.refl _ _, rfl⟩, fun h => absurd rfl h⟩)
        · refine wpOp_step (o := _) rfl fun K' hK => ?_
          have eg : a.tmps.getD 69 undef = .bool false := HAN.out 2 (by decide)
          rw [if_pos (wanted_pos rfl (d := 69) (by kernel_rfl) eg)]
          clear eg
          have e0 : a.tmps.getD 12 undef = .int .i64 (zn) := (HRS.out 12 (by decide)).trans rfl
          go_simp
          exact hK _ _ (HK.out _ _ ⟨fun _ => ⟨Below.refl _ _, rfl⟩, fun h => absurd rfl h⟩)
        · refine wpOp_step (o := _) rfl fun K' hK => ?_
          have eg : a.tmps.getD 69 undef = .bool false := HAN.out 2 (by decide)
          rw [if_pos (wanted_pos rfl (d := 69) (by kernel_rfl) eg)]
          clear eg
          have e0 : a.tmps.getD 5 undef = .pointer (some ⟨b2, 0, none⟩) := (HRS.out 5 (by decide)).trans rfl
          go_simp
          exact hK _ _ (HK.out _ _ ⟨fun _ => ⟨Below.refl _ _, rfl⟩, fun h => absurd rfl h⟩)
        · refine wpOp_step (o := _) rfl fun K' hK => ?_
          have eg : a.tmps.getD 69 undef = .bool false := HAN.out 2 (by decide)
          rw [if_pos (wanted_pos rfl (d := 69) (by kernel_rfl) eg)]
          clear eg
          have e0 : a.tmps.getD 71 undef = .pointer (some ⟨b2, 2, none⟩) := HAN.out 4 (by decide)
          have c2 : W.cell? ⟨b2, 2, none⟩ = some (.slice gX3 np.length kX3) := XU.out.cell 2 2 rfl rfl
          go_simp
          exact hK _ _ (HK.out _ _ ⟨fun _ => ⟨Below.refl _ _, rfl⟩, fun h => absurd rfl h⟩)
        · refine wpOp_step (o := _) rfl fun K' hK => ?_
          have eg : a.tmps.getD 69 undef = .bool false := HAN.out 2 (by decide)
          rw [if_pos (wanted_pos rfl (d := 69) (by kernel_rfl) eg)]
          clear eg
          have e0 : a.tmps.getD 72 undef = .slice gX3 np.length kX3 := HAN.out 5 (by decide)
          go_simp
          exact hK _ _ (HK.out _ _ ⟨fun _ => ⟨Below.refl _ _, rfl⟩, fun h => absurd rfl h⟩)
        · refine wpOp_step (o := _) rfl fun K' hK => ?_
          have eg : a.tmps.getD 69 undef = .bool false := HAN.out 2 (by decide)
          rw [if_pos (wanted_pos rfl (d := 69) (by kernel_rfl) eg)]
          clear eg
          have e0 : a.tmps.getD 73 undef = .int .i64 ((np.length : Nat)) := HAN.out 6 (by decide)
          go_simp
          exact hK _ _ (HK.out _ _ ⟨fun _ => ⟨Below.refl _ _, rfl⟩, fun h => absurd rfl h⟩)
        · refine wpOp_step (o := _) rfl fun K' hK => ?_
          have eg : a.tmps.getD 69 undef = .bool false := HAN.out 2 (by decide)
          rw [if_pos (wanted_pos rfl (d := 69) (by kernel_rfl) eg)]
          clear eg
          have e0 : a.tmps.getD 70 undef = .int .i64 (zn) := HAN.out 3 (by decide)
          have e1 : a.tmps.getD 74 undef = .int .i64 ((np.length : Nat) + 1) := HAN.out 7 (by decide)
          go_simp
          exact hK _ _ (HK.out _ _ ⟨fun _ => ⟨Below.refl _ _, rfl⟩, fun h => absurd rfl h⟩)
        · refine wpOp_step (o := _) rfl fun K' hK => ?_
          rw [if_pos (by go_simp)]
          have e0 : a.tmps.getD 69 undef = .bool false := HAN.out 2 (by decide)
          have e1 : a.tmps.getD 75 undef = .bool false := HAN.out 8 (by decide)
          go_simp
          exact hK _ _ (HK.out _ _ ⟨fun _ => ⟨Below.refl _ _, rfl⟩, fun h => absurd rfl h⟩)
        · refine wpOp_step (o := _) rfl fun K' hK => ?_
          rw [if_pos (by go_simp)]
          have e0 : a.tmps.getD 76 undef = .bool false := HAN.out 9 (by decide)
          go_simp
          exact hK _ _ (HK.out _ _ ⟨fun _ => ⟨Below.refl _ _, rfl⟩, fun h => absurd rfl h⟩)
        · refine wpOp_step (o := _) rfl fun K' hK => ?_
          have eg : a.tmps.getD 77 undef = .bool false := HAN.out 10 (by decide)
          rw [if_pos (wanted_pos rfl (d := 77) (by kernel_rfl) eg)]
          clear eg
          have e0 : a.tmps.getD 6 undef = .int .i64 (nn) := (HRS.out 6 (by decide)).trans rfl
          go_simp
          exact hK _ _ (HK.out _ _ ⟨fun _ => ⟨Below.refl _ _, rfl⟩, fun h => absurd rfl h⟩)
        · refine wpOp_step (o := _) rfl fun K' hK => ?_
          have eg : a.tmps.getD 77 undef = .bool false := HAN.out 10 (by decide)
          rw [if_pos (wanted_pos rfl (d := 77) (by kernel_rfl) eg)]
          clear eg
          have e0 : a.tmps.getD 3 undef = .pointer (some ⟨b0, 0, none⟩) := (HRS.out 3 (by decide)).trans rfl
          go_simp
          exact hK _ _ (HK.out _ _ ⟨fun _ => ⟨Below.refl _ _, rfl⟩, fun h => absurd rfl h⟩)
        · refine wpOp_step (o := _) rfl fun K' hK => ?_
          have eg : a.tmps.getD 77 undef = .bool false := HAN.out 10 (by decide)
          rw [if_pos (wanted_pos rfl (d := 77) (by kernel_rfl) eg)]
          clear eg
          have e0 : a.tmps.getD 79 undef = .pointer (some ⟨b0, 2, none⟩) := HAN.out 12 (by decide)
          have c2 : W.cell? ⟨b0, 2, none⟩ = some (.slice a3 ps.length c3) := XU.out.cell 0 2 rfl rfl
          go_simp
          exact hK _ _ (HK.out _ _ ⟨fun _ => ⟨Below.refl _ _, rfl⟩, fun h => absurd rfl h⟩)
        · refine wpOp_step (o := _) rfl fun K' hK => ?_
          have eg : a.tmps.getD 77 undef = .bool false := HAN.out 10 (by decide)
          rw [if_pos (wanted_pos rfl (d := 77) (by kernel_rfl) eg)]
          clear eg
          have e0 : a.tmps.getD 80 undef = .slice a3 ps.length c3 := HAN.out 13 (by decide)
          go_simp
          exact hK _ _ (HK.out _ _ ⟨fun _ => ⟨Below.refl _ _, rfl⟩, fun h => absurd rfl h⟩)
        · refine wpOp_step (o := _) rfl fun K' hK => ?_
          have eg : a.tmps.getD 77 undef = .bool false := HAN.out 10 (by decide)
          rw [if_pos (wanted_pos rfl (d := 77) (by kernel_rfl) eg)]
          clear eg
          have e0 : a.tmps.getD 78 undef = .int .i64 (nn) := HAN.out 11 (by decide)
          have e1 : a.tmps.getD 81 undef = .int .i64 ((ps.length : Nat)) := HAN.out 14 (by decide)
          go_simp
          exact hK _ _ (HK.out _ _ ⟨fun _ => ⟨Below.refl _ _, rfl⟩, fun h => absurd rfl h⟩)
        · refine wpOp_step (o := _) rfl fun K' hK => ?_
          rw [if_pos (by go_simp)]
          have e0 : a.tmps.getD 77 undef = .bool false := HAN.out 10 (by decide)
          have e1 : a.tmps.getD 82 undef = .bool false := HAN.out 15 (by decide)
          go_simp
          exact hK _ _ (HK.out _ _ ⟨fun _ => ⟨Below.refl _ _, rfl⟩, fun h => absurd rfl h⟩)
        · refine wpOp_step (o := _) rfl fun K' hK => ?_
          rw [if_pos (by go_simp)]
          have e0 : a.tmps.getD 83 undef = .bool false := HAN.out 16 (by decide)
          go_simp
          exact hK _ _ (HK.out _ _ ⟨fun _ => ⟨Below.refl _ _, rfl⟩, fun h => absurd rfl h⟩)
        · refine wpOp_step (o := _) rfl fun K' hK => ?_
          have eg : a.tmps.getD 84 undef = .bool false := HAN.out 17 (by decide)
          rw [if_pos (wanted_pos rfl (d := 84) (by kernel_rfl) eg)]
          clear eg
          have e0 : a.tmps.getD 5 undef = .pointer (some ⟨b2, 0, none⟩) := (HRS.out 5 (by decide)).trans rfl
          have c0 : W.cell? ⟨b2, 0, none⟩ = some (.slice gX1 nl.length kX1) := XU.out.cell 2 0 rfl rfl
          have c1 : W.cell? ⟨b2, 1, none⟩ = some (.slice gX2 nr.length kX2) := XU.out.cell 2 1 rfl rfl
          have c2 : W.cell? ⟨b2, 2, none⟩ = some (.slice gX3 np.length kX3) := XU.out.cell 2 2 rfl rfl
          go_simp
          exact hK _ _ (HK.out _ _ ⟨fun _ => ⟨Below.refl _ _, rfl⟩, fun h => absurd rfl h⟩)
        · refine wpOp_step (o := _) rfl fun K' hK => ?_
          have eg : a.tmps.getD 84 undef = .bool false := HAN.out 17 (by decide)
          rw [if_pos (wanted_pos rfl (d := 84) (by kernel_rfl) eg)]
          clear eg
          have e0 : a.tmps.getD 85 undef = .agg #[.slice gX1 nl.length kX1, .slice gX2 nr.length kX2, .slice gX3 np.length kX3] := HAN.out 18 (by decide)
          go_simp
          go_at_call 30
          refine (iIsCk_any _ nl nr np W _ (CX.out.below HB.out) (Nat.le_refl _)).mono ?_
          rintro e W' ⟨rfl, hbb⟩
          rw [HCKX.out]
          exact hK _ _ (HK.out _ _ ⟨fun _ => ⟨hbb, rfl⟩, fun h => absurd rfl h⟩)
        · refine wpOp_step (o := _) rfl fun K' hK => ?_
          have eg : a.tmps.getD 84 undef = .bool false := HAN.out 17 (by decide)
          rw [if_pos (wanted_pos rfl (d := 84) (by kernel_rfl) eg)]
          clear eg
          have e0 : a.tmps.getD 86 undef = .bool true := HAN.out 19 (by decide)
          go_simp
          exact hK _ _ (HK.out _ _ ⟨fun _ => ⟨Below.refl _ _, rfl⟩, fun h => absurd rfl h⟩)
        · refine wpOp_step (o := _) rfl fun K' hK => ?_
          rw [if_pos (by go_simp)]
          have e0 : a.tmps.getD 84 undef = .bool false := HAN.out 17 (by decide)
          have e1 : a.tmps.getD 87 undef = .bool false := HAN.out 20 (by decide)
          go_simp
          exact hK _ _ (HK.out _ _ ⟨fun _ => ⟨Below.refl _ _, rfl⟩, fun h => absurd rfl h⟩)
        · refine wpOp_step (o := _) rfl fun K' hK => ?_
          rw [if_pos (by go_simp)]
          have e0 : a.tmps.getD 88 undef = .bool false := HAN.out 21 (by decide)
          go_simp
          exact hK _ _ (HK.out _ _ ⟨fun _ => ⟨Below.refl _ _, rfl⟩, fun h => absurd rfl h⟩)
        · refine wpOp_step (o := _) rfl fun K' hK => ?_
          have eg : a.tmps.getD 89 undef = .bool false := HAN.out 22 (by decide)
          rw [if_pos (wanted_pos rfl (d := 89) (by kernel_rfl) eg)]
          clear eg
          have e0 : a.tmps.getD 5 undef = .pointer (some ⟨b2, 0, none⟩) := (HRS.out 5 (by decide)).trans rfl
          go_simp
          exact hK _ _ (HK.out _ _ ⟨fun _ => ⟨Below.refl _ _, rfl⟩, fun h => absurd rfl h⟩)
        · refine wpOp_step (o := _) rfl fun K' hK => ?_
          have eg : a.tmps.getD 89 undef = .bool false := HAN.out 22 (by decide)
          rw [if_pos (wanted_pos rfl (d := 89) (by kernel_rfl) eg)]
          clear eg
          have e0 : a.tmps.getD 90 undef = .pointer (some ⟨b2, 0, none⟩) := HAN.out 23 (by decide)
          have c0 : W.cell? ⟨b2, 0, none⟩ = some (.slice gX1 nl.length kX1) := XU.out.cell 2 0 rfl rfl
          go_simp
          exact hK _ _ (HK.out _ _ ⟨fun _ => ⟨Below.refl _ _, rfl⟩, fun h => absurd rfl h⟩)
        · refine wpOp_step (o := _) rfl fun K' hK => ?_
          have eg : a.tmps.getD 89 undef = .bool false := HAN.out 22 (by decide)
          rw [if_pos (wanted_pos rfl (d := 89) (by kernel_rfl) eg)]
          clear eg
          have e0 : a.tmps.getD 91 undef = .slice gX1 nl.length kX1 := HAN.out 24 (by decide)
          go_simp
          exact hK _ _ (HK.out _ _ ⟨fun _ => ⟨Below.refl _ _, rfl⟩, fun h => absurd rfl h⟩)
        · refine wpOp_step (o := _) rfl fun K' hK => ?_
          have eg : a.tmps.getD 89 undef = .bool false := HAN.out 22 (by decide)
          rw [if_pos (wanted_pos rfl (d := 89) (by kernel_rfl) eg)]
          clear eg
          have e0 : a.tmps.getD 3 undef = .pointer (some ⟨b0, 0, none⟩) := (HRS.out 3 (by decide)).trans rfl
          go_simp
          exact hK _ _ (HK.out _ _ ⟨fun _ => ⟨Below.refl _ _, rfl⟩, fun h => absurd rfl h⟩)
        · refine wpOp_step (o := _) rfl fun K' hK => ?_
          have eg : a.tmps.getD 89 undef = .bool false := HAN.out 22 (by decide)
          rw [if_pos (wanted_pos rfl (d := 89) (by kernel_rfl) eg)]
          clear eg
          have e0 : a.tmps.getD 93 undef = .pointer (some ⟨b0, 0, none⟩) := HAN.out 26 (by decide)
          have c0 : W.cell? ⟨b0, 0, none⟩ = some (.slice a1 l.length c1) := XU.out.cell 0 0 rfl rfl
          go_simp
          exact hK _ _ (HK.out _ _ ⟨fun _ => ⟨Below.refl _ _, rfl⟩, fun h => absurd rfl h⟩)
        · refine wpOp_step (o := _) rfl fun K' hK => ?_
          have eg : a.tmps.getD 89 undef = .bool false := HAN.out 22 (by decide)
          rw [if_pos (wanted_pos rfl (d := 89) (by kernel_rfl) eg)]
          clear eg
          have e0 : a.tmps.getD 94 undef = .slice a1 l.length c1 := HAN.out 27 (by decide)
          go_simp
          exact hK _ _ (HK.out _ _ ⟨fun _ => ⟨Below.refl _ _, rfl⟩, fun h => absurd rfl h⟩)
        · refine wpOp_step (o := _) rfl fun K' hK => ?_
          have eg : a.tmps.getD 89 undef = .bool false := HAN.out 22 (by decide)
          rw [if_pos (wanted_pos rfl (d := 89) (by kernel_rfl) eg)]
          clear eg
          have e0 : a.tmps.getD 95 undef = .int .i64 ((l.length : Nat)) := HAN.out 28 (by decide)
          go_simp
          exact hK _ _ (HK.out _ _ ⟨fun _ => ⟨Below.refl _ _, rfl⟩, fun h => absurd rfl h⟩)
        · refine wpOp_step (o := _) rfl fun K' hK => ?_
          have eg : a.tmps.getD 89 undef = .bool false := HAN.out 22 (by decide)
          rw [if_pos (wanted_pos rfl (d := 89) (by kernel_rfl) eg)]
          clear eg
          have e0 : a.tmps.getD 92 undef = .int .i64 ((nl.length : Nat)) := HAN.out 25 (by decide)
          have e1 : a.tmps.getD 96 undef = .int .i64 ((l.length : Nat) + 1) := HAN.out 29 (by decide)
          go_simp
          exact hK _ _ (HK.out _ _ ⟨fun _ => ⟨Below.refl _ _, rfl⟩, fun h => absurd rfl h⟩)
        · refine wpOp_step (o := _) rfl fun K' hK => ?_
          rw [if_pos (by go_simp)]
          have e0 : a.tmps.getD 89 undef = .bool false := HAN.out 22 (by decide)
          have e1 : a.tmps.getD 97 undef = .bool false := HAN.out 30 (by decide)
          go_simp
          exact hK _ _ (HK.out _ _ ⟨fun _ => ⟨Below.refl _ _, rfl⟩, fun h => absurd rfl h⟩)
        · refine wpOp_step (o := _) rfl fun K' hK => ?_
          rw [if_pos (by go_simp)]
          have e0 : a.tmps.getD 98 undef = .bool false := HAN.out 31 (by decide)
          go_simp
          exact hK _ _ (HK.out _ _ ⟨fun _ => ⟨Below.refl _ _, rfl⟩, fun h => absurd rfl h⟩)
        · refine wpOp_step (o := _) rfl fun K' hK => ?_
          have eg : a.tmps.getD 99 undef = .bool false := HAN.out 32 (by decide)
          rw [if_pos (wanted_pos rfl (d := 99) (by kernel_rfl) eg)]
          clear eg
          have e0 : a.tmps.getD 11 undef = .pointer (some ⟨b4, 0, none⟩) := (HRS.out 11 (by decide)).trans rfl
          have c0 : W.cell? ⟨b4, 0, none⟩ = some (.slice gZ1 zl.length kZ1) := XU.out.cell 4 0 rfl rfl
          have c1 : W.cell? ⟨b4, 1, none⟩ = some (.slice gZ2 zr.length kZ2) := XU.out.cell 4 1 rfl rfl
          have c2 : W.cell? ⟨b4, 2, none⟩ = some (.slice gZ3 ps.length kZ3) := XU.out.cell 4 2 rfl rfl
          go_simp
          exact hK _ _ (HK.out _ _ ⟨fun _ => ⟨Below.refl _ _, rfl⟩, fun h => absurd rfl h⟩)
        · refine wpOp_step (o := _) rfl fun K' hK => ?_
          have eg : a.tmps.getD 99 undef = .bool false := HAN.out 32 (by decide)
          rw [if_pos (wanted_pos rfl (d := 99) (by kernel_rfl) eg)]
          clear eg
          have e0 : a.tmps.getD 100 undef = .agg #[.slice gZ1 zl.length kZ1, .slice gZ2 zr.length kZ2, .slice gZ3 ps.length kZ3] := HAN.out 33 (by decide)
          go_simp
          go_at_call 32
          refine (HP1.out W _ (CZ.out.below HB.out)).mono ?_
          rintro e W' ⟨vz, hx, rfl, ho, hbb⟩
          exact hK _ _ (HK.out _ _ ⟨fun _ => ⟨hbb, (show Ow W' _ so W.heap.size W'.heap.size from ⟨ho.own.imp fun F h => ⟨h.1, fun b hb => ⟨(h.2 b hb).1, Nat.lt_of_lt_of_le (h.2 b hb).2 ho.top⟩⟩, hbb.size, Nat.le_refl _⟩)⟩, fun h => absurd rfl h⟩)
        · refine wpOp_step (o := _) rfl fun K' hK => ?_
          have eg : a.tmps.getD 99 undef = .bool false := HAN.out 32 (by decide)
          rw [if_pos (wanted_pos rfl (d := 99) (by kernel_rfl) eg)]
          clear eg
          have e0 : a.tmps.getD 3 undef = .pointer (some ⟨b0, 0, none⟩) := (HRS.out 3 (by decide)).trans rfl
          have c0 : W.cell? ⟨b0, 0, none⟩ = some (.slice a1 l.length c1) := XU.out.cell 0 0 rfl rfl
          have c1 : W.cell? ⟨b0, 1, none⟩ = some (.slice a2 r.length c2) := XU.out.cell 0 1 rfl rfl
          have c2 : W.cell? ⟨b0, 2, none⟩ = some (.slice a3 ps.length c3) := XU.out.cell 0 2 rfl rfl
          go_simp
          exact hK _ _ (HK.out _ _ ⟨fun _ => ⟨Below.refl _ _, rfl⟩, fun h => absurd rfl h⟩)
        · refine wpOp_step (o := _) rfl fun K' hK => ?_
          have eg : a.tmps.getD 99 undef = .bool false := HAN.out 32 (by decide)
          rw [if_pos (wanted_pos rfl (d := 99) (by kernel_rfl) eg)]
          clear eg
          have e0 : a.tmps.getD 102 undef = .agg #[.slice a1 l.length c1, .slice a2 r.length c2, .slice a3 ps.length c3] := HAN.out 35 (by decide)
          go_simp
          go_at_call 32
          refine (HP2.out W _ (CC.out.below HB.out)).mono ?_
          rintro e W' ⟨vz, hx, rfl, ho, hbb⟩
          exact hK _ _ (HK.out _ _ ⟨fun _ => ⟨hbb, (show Ow W' _ so W.heap.size W'.heap.size from ⟨ho.own.imp fun F h => ⟨h.1, fun b hb => ⟨(h.2 b hb).1, Nat.lt_of_lt_of_le (h.2 b hb).2 ho.top⟩⟩, hbb.size, Nat.le_refl _⟩)⟩, fun h => absurd rfl h⟩)
        · refine wpOp_step (o := _) rfl fun K' hK => ?_
          have eg : a.tmps.getD 99 undef = .bool false := HAN.out 32 (by decide)
          rw [if_pos (wanted_pos rfl (d := 99) (by kernel_rfl) eg)]
          clear eg
          have o1 : Ow W (a.tmps.getD 101 undef) so _ _ := HAN.out 34 (by decide)
          have o2 : Ow W (a.tmps.getD 103 undef) so _ _ := HAN.out 36 (by decide)
          obtain ⟨y1, e1⟩ : ∃ q, a.tmps.getD 101 undef = q := ⟨_, rfl⟩
          obtain ⟨y2, e2⟩ : ∃ q, a.tmps.getD 103 undef = q := ⟨_, rfl⟩
          rw [e1] at o1
          rw [e2] at o2
          have i1 := hide (o1.ints HSOW.out)
          have i2 := hide (o2.ints HSOW.out)
          clear o1 o2
          go_simp
          go_at_call 31
          refine (same_any _ _ so _ _ i1.out i2.out).mono ?_
          rintro e W' ⟨rfl, hbb⟩
          exact hK _ _ (HK.out _ _ ⟨fun _ => ⟨hbb, rfl⟩, fun h => absurd rfl h⟩)
        · refine wpOp_step (o := _) rfl fun K' hK => ?_
          have eg : a.tmps.getD 99 undef = .bool false := HAN.out 32 (by decide)
          rw [if_pos (wanted_pos rfl (d := 99) (by kernel_rfl) eg)]
          clear eg
          have e0 : a.tmps.getD 104 undef = .bool true := HAN.out 37 (by decide)
          go_simp
          exact hK _ _ (HK.out _ _ ⟨fun _ => ⟨Below.refl _ _, rfl⟩, fun h => absurd rfl h⟩)
        · refine wpOp_step (o := _) rfl fun K' hK => ?_
          rw [if_pos (by go_simp)]
          have e0 : a.tmps.getD 99 undef = .bool false := HAN.out 32 (by decide)
          have e1 : a.tmps.getD 105 undef = .bool false := HAN.out 38 (by decide)
          go_simp
          exact hK _ _ (HK.out _ _ ⟨fun _ => ⟨Below.refl _ _, rfl⟩, fun h => absurd rfl h⟩)
        · refine wpOp_step (o := _) rfl fun K' hK => ?_
          rw [if_pos (by go_simp)]
          have e0 : a.tmps.getD 106 undef = .bool false := HAN.out 39 (by decide)
          go_simp
          exact hK _ _ (HK.out _ _ ⟨fun _ => ⟨Below.refl _ _, rfl⟩, fun h => absurd rfl h⟩)
        · refine wpOp_step (o := _) rfl fun K' hK => ?_
          have eg : a.tmps.getD 107 undef = .bool false := HAN.out 40 (by decide)
          rw [if_pos (wanted_pos rfl (d := 107) (by kernel_rfl) eg)]
          clear eg
          have e0 : a.tmps.getD 11 undef = .pointer (some ⟨b4, 0, none⟩) := (HRS.out 11 (by decide)).trans rfl
          go_simp
          exact hK _ _ (HK.out _ _ ⟨fun _ => ⟨Below.refl _ _, rfl⟩, fun h => absurd rfl h⟩)
        · refine wpOp_step (o := _) rfl fun K' hK => ?_
          have eg : a.tmps.getD 107 undef = .bool false := HAN.out 40 (by decide)
          rw [if_pos (wanted_pos rfl (d := 107) (by kernel_rfl) eg)]
          clear eg
          have e0 : a.tmps.getD 108 undef = .pointer (some ⟨b4, 2, none⟩) := HAN.out 41 (by decide)
          have c2 : W.cell? ⟨b4, 2, none⟩ = some (.slice gZ3 ps.length kZ3) := XU.out.cell 4 2 rfl rfl
          go_simp
          exact hK _ _ (HK.out _ _ ⟨fun _ => ⟨Below.refl _ _, rfl⟩, fun h => absurd rfl h⟩)
        · refine wpOp_step (o := _) rfl fun K' hK => ?_
          have eg : a.tmps.getD 107 undef = .bool false := HAN.out 40 (by decide)
          rw [if_pos (wanted_pos rfl (d := 107) (by kernel_rfl) eg)]
          clear eg
          have e0 : a.tmps.getD 109 undef = .slice gZ3 ps.length kZ3 := HAN.out 42 (by decide)
          go_simp
          exact hK _ _ (HK.out _ _ ⟨fun _ => ⟨Below.refl _ _, rfl⟩, fun h => absurd rfl h⟩)
        · refine wpOp_step (o := _) rfl fun K' hK => ?_
          have eg : a.tmps.getD 107 undef = .bool false := HAN.out 40 (by decide)
          rw [if_pos (wanted_pos rfl (d := 107) (by kernel_rfl) eg)]
          clear eg
          have e0 : a.tmps.getD 3 undef = .pointer (some ⟨b0, 0, none⟩) := (HRS.out 3 (by decide)).trans rfl
          go_simp
          exact hK _ _ (HK.out _ _ ⟨fun _ => ⟨Below.refl _ _, rfl⟩, fun h => absurd rfl h⟩)
        · refine wpOp_step (o := _) rfl fun K' hK => ?_
          have eg : a.tmps.getD 107 undef = .bool false := HAN.out 40 (by decide)
          rw [if_pos (wanted_pos rfl (d := 107) (by kernel_rfl) eg)]
          clear eg
          have e0 : a.tmps.getD 111 undef = .pointer (some ⟨b0, 2, none⟩) := HAN.out 44 (by decide)
          have c2 : W.cell? ⟨b0, 2, none⟩ = some (.slice a3 ps.length c3) := XU.out.cell 0 2 rfl rfl
          go_simp
          exact hK _ _ (HK.out _ _ ⟨fun _ => ⟨Below.refl _ _, rfl⟩, fun h => absurd rfl h⟩)
        · refine wpOp_step (o := _) rfl fun K' hK => ?_
          have eg : a.tmps.getD 107 undef = .bool false := HAN.out 40 (by decide)
          rw [if_pos (wanted_pos rfl (d := 107) (by kernel_rfl) eg)]
          clear eg
          have e0 : a.tmps.getD 112 undef = .slice a3 ps.length c3 := HAN.out 45 (by decide)
          go_simp
          exact hK _ _ (HK.out _ _ ⟨fun _ => ⟨Below.refl _ _, rfl⟩, fun h => absurd rfl h⟩)
        · refine wpOp_step (o := _) rfl fun K' hK => ?_
          have eg : a.tmps.getD 107 undef = .bool false := HAN.out 40 (by decide)
          rw [if_pos (wanted_pos rfl (d := 107) (by kernel_rfl) eg)]
          clear eg
          have e0 : a.tmps.getD 110 undef = .int .i64 ((ps.length : Nat)) := HAN.out 43 (by decide)
          have e1 : a.tmps.getD 113 undef = .int .i64 ((ps.length : Nat)) := HAN.out 46 (by decide)
          go_simp
          exact hK _ _ (HK.out _ _ ⟨fun _ => ⟨Below.refl _ _, rfl⟩, fun h => absurd rfl h⟩)
        · refine wpOp_step (o := _) rfl fun K' hK => ?_
          rw [if_pos (by go_simp)]
          have e0 : a.tmps.getD 107 undef = .bool false := HAN.out 40 (by decide)
          have e1 : a.tmps.getD 114 undef = .bool false := HAN.out 47 (by decide)
          go_simp
          exact hK _ _ (HK.out _ _ ⟨fun _ => ⟨Below.refl _ _, rfl⟩, fun h => absurd rfl h⟩)
      case fin =>
      intro a w10 iv I
      have hbY := I.below
      have F48 : slot a 115 = .bool false := (I.fact 48 (by decide) rfl).2
      rw [frame_of [67, 68, 69, 70, 71, 72, 73, 74, 75, 76, 77, 78, 79, 80, 81, 82, 83, 84, 85, 86, 87, 88, 89, 90, 91, 92, 93, 94, 95, 96, 97, 98, 99, 100, 101, 102, 103, 104, 105, 106, 107, 108, 109, 110, 111, 112, 113, 114, 115] I.size I.defers (fun s hs => I.rest s (rfDsts_spec (by kernel_rfl) hs))]
      simp only [List.foldl_cons, List.foldl_nil, List.setIfInBounds_toArray, List.set_cons_succ, List.set_cons_zero, F48]
      generalize slot a 67 = t67
      generalize slot a 68 = t68
      generalize slot a 69 = t69
      generalize slot a 70 = t70
      generalize slot a 71 = t71
      generalize slot a 72 = t72
      generalize slot a 73 = t73
      generalize slot a 74 = t74
      generalize slot a 75 = t75
      generalize slot a 76 = t76
      generalize slot a 77 = t77
      generalize slot a 78 = t78
      generalize slot a 79 = t79
      generalize slot a 80 = t80
      generalize slot a 81 = t81
      generalize slot a 82 = t82
      generalize slot a 83 = t83
      generalize slot a 84 = t84
      generalize slot a 85 = t85
      generalize slot a 86 = t86
      generalize slot a 87 = t87
      generalize slot a 88 = t88
      generalize slot a 89 = t89
      generalize slot a 90 = t90
      generalize slot a 91 = t91
      generalize slot a 92 = t92
      generalize slot a 93 = t93
      generalize slot a 94 = t94
      generalize slot a 95 = t95
      generalize slot a 96 = t96
      generalize slot a 97 = t97
      generalize slot a 98 = t98
      generalize slot a 99 = t99
      generalize slot a 100 = t100
      generalize slot a 101 = t101
      generalize slot a 102 = t102
      generalize slot a 103 = t103
      generalize slot a 104 = t104
      generalize slot a 105 = t105
      generalize slot a 106 = t106
      generalize slot a 107 = t107
      generalize slot a 108 = t108
      generalize slot a 109 = t109
      generalize slot a 110 = t110
      generalize slot a 111 = t111
      generalize slot a 112 = t112
      generalize slot a 113 = t113
      generalize slot a 114 = t114
      have X := hide (X1.out.up hbY)
      have CC := hide (CC.out.below hbY)
      have CX := hide (CX.out.below hbY)
      have CZ := hide (CZ.out.below hbY)
      clear I F48 hbY X1
      try clear iv a
      clear v1 v2 v3 v4 v5 v6 v7 v8 v9 v10 HP1 HP2 HSOW HCKX HI KZ CX
      have PZ := hide (fun (W : World) (h : Below w10.heap.size w10 W) => ck_pvs (CZ.out.below h))
      have PC := hide (fun (W : World) (h : Below w10.heap.size w10 W) => ck_pvs (CC.out.below h))
      clear CZ CC
      go_wp2_with fail
      go_loopw [14] (fun i wr => ∃ (k : Nat), k ≤ ps.length ∧ i = .int .i64 k ∧ Hid (Below w10.heap.size w10 wr)) (fun i _ => ps.length - (intOf i).toNat)
      case atStart => exact ⟨0, by omega, rfl, Below.refl _ _⟩
      case round =>
        obtain ⟨k, hk, rfl, hbw⟩ := hrel
        have X := hide (X.out.up hbw.out)
        by_cases hlt : k < ps.length
        · obtain ⟨bb, oo, rfl, hz0, hz1⟩ := pvs_at (PZ.out wr hbw.out) k hlt
          obtain ⟨bc, oc, rfl, hc0, hc1⟩ := pvs_at (PC.out wr hbw.out) k hlt
          have z0 : wr.cell? ⟨b4, 2, none⟩ = some (.slice (some ⟨bb, oo, none⟩) ps.length kZ3) := X.out.cell 4 2 rfl rfl
          obtain ⟨p1, hp1⟩ : ∃ q, q = ps[k].1 := ⟨_, rfl⟩
          obtain ⟨p2, hp2⟩ : ∃ q, q = ps[k].2 := ⟨_, rfl⟩
          rw [← hp1] at hz0 hc0
          rw [← hp2] at hz1 hc1
          have Z0 := hide hz0
          have Z1 := hide hz1
          have Q0 := hide hc0
          have Q1 := hide hc1
          clear hp1 hp2 hz0 hz1 hc0 hc1
          go_upto_region 15 with fail
          clear z0
          refine wp_region_any (by kernel_rfl) ?_
          refine wpAny_facts (w0 := wr) (fun i => ([(fun lo hi s W => s 123 = .pointer (some ⟨b4, 2, none⟩)),
            (fun lo hi s W => s 124 = .slice (some ⟨bb, oo, none⟩) ps.length kZ3),
            (fun lo hi s W => s 125 = .int .i64 (k : Int)),
            (fun lo hi s W => s 126 = .pointer (some ⟨bb, oo + k * 2, none⟩)),
            (fun lo hi s W => s 127 = .agg #[.int .i64 p1, .int .i64 p2]),
            (fun lo hi s W => s 128 = .pointer (some ⟨b0, 2, none⟩)),
            (fun lo hi s W => s 129 = .slice (some ⟨bc, oc, none⟩) ps.length c3),
            (fun lo hi s W => s 130 = .int .i64 (k : Int)),
            (fun lo hi s W => s 131 = .pointer (some ⟨bc, oc + k * 2, none⟩)),
            (fun lo hi s W => s 132 = .agg #[.int .i64 p1, .int .i64 p2]),
            (fun lo hi s W => s 133 = .bool false)] : List (Nat → Nat → (Nat → Value) → World → Prop)).getD i (fun _ _ _ _ => True)) [[], [0], [], [0, 1, 2], [0, 1, 2, 3], [], [5], [], [5, 6, 7], [5, 6, 7, 8], [0, 1, 2, 3, 4, 5, 6, 7, 8, 9]] [0, 1, 2, 3, 4, 5, 6, 7, 8, 9, 10] [[123], [124], [125], [126], [127], [128], [129], [130], [131], [132], [133]] [[], [], [], [], [], [], [], [], [], [], []] (by kernel_rfl) (by kernel_rfl) ?st ?step ?fin
          case st =>
            intro i hi lo hi' s W W' h q1 q2 q3 q4 k
            have hi : i < 11 := hi
            rcases (show i = 0 ∨ i = 1 ∨ i = 2 ∨ i = 3 ∨ i = 4 ∨ i = 5 ∨ i = 6 ∨ i = 7 ∨ i = 8 ∨ i = 9 ∨ i = 10 by omega) with rfl | rfl | rfl | rfl | rfl | rfl | rfl | rfl | rfl | rfl | rfl <;> exact h
          case step =>
            intro i hi a W iv hb hsz hdf hrest hanc hivs hap K HK
            have hi : i < 11 := hi
            have HK := hide HK
            have HAN := hide hanc
            have HRS := hide hrest
            have HB := hide hb
            clear hanc hivs hap hrest hb hsz hdf 
            rcases (show i = 0 ∨ i = 1 ∨ i = 2 ∨ i = 3 ∨ i = 4 ∨ i = 5 ∨ i = 6 ∨ i = 7 ∨ i = 8 ∨ i = 9 ∨ i = 10 by omega) with rfl | rfl | rfl | rfl | rfl | rfl | rfl | rfl | rfl | rfl | rfl
            · refine wpOp_step (o := _) rfl fun K' hK => ?_
              rw [if_pos (by go_simp)]
              have e0 : a.tmps.getD 11 undef = .pointer (some ⟨b4, 0, none⟩) := (HRS.out 11 (by decide)).trans rfl
              go_simp
              exact hK _ _ (HK.out _ _ ⟨fun _ => ⟨Below.refl _ _, rfl⟩, fun h => absurd rfl h⟩)
            · refine wpOp_step (o := _) rfl fun K' hK => ?_
              rw [if_pos (by go_simp)]
              have e0 : a.tmps.getD 123 undef = .pointer (some ⟨b4, 2, none⟩) := HAN.out 0 (by decide)
              have c0 : W.cell? ⟨b4, 2, none⟩ = some (.slice (some ⟨bb, oo, none⟩) ps.length kZ3) := (X.out.up HB.out).cell 4 2 rfl rfl
              go_simp
              exact hK _ _ (HK.out _ _ ⟨fun _ => ⟨Below.refl _ _, rfl⟩, fun h => absurd rfl h⟩)
            · refine wpOp_step (o := _) rfl fun K' hK => ?_
              rw [if_pos (by go_simp)]
              have e0 : a.tmps.getD 14 undef = .int .i64 (k : Int) := (HRS.out 14 (by decide)).trans rfl
              go_simp
              exact hK _ _ (HK.out _ _ ⟨fun _ => ⟨Below.refl _ _, rfl⟩, fun h => absurd rfl h⟩)
            · refine wpOp_step (o := _) rfl fun K' hK => ?_
              rw [if_pos (by go_simp)]
              have e0 : a.tmps.getD 124 undef = .slice (some ⟨bb, oo, none⟩) ps.length kZ3 := HAN.out 1 (by decide)
              have e1 : a.tmps.getD 125 undef = .int .i64 (k : Int) := HAN.out 2 (by decide)
              go_simp
              exact hK _ _ (HK.out _ _ ⟨fun _ => ⟨Below.refl _ _, rfl⟩, fun h => absurd rfl h⟩)
            · refine wpOp_step (o := _) rfl fun K' hK => ?_
              rw [if_pos (by go_simp)]
              have e0 : a.tmps.getD 126 undef = .pointer (some ⟨bb, oo + k * 2, none⟩) := HAN.out 3 (by decide)
              have c0 : W.cell? ⟨bb, oo + k * 2, none⟩ = _ := (HB.out.cell (p := ⟨bb, oo + k * 2, none⟩) (World.block_lt_of_cell? _ _ Z0.out)).trans Z0.out
              have c1 : W.cell? ⟨bb, oo + k * 2 + 1, none⟩ = _ := (HB.out.cell (p := ⟨bb, oo + k * 2 + 1, none⟩) (World.block_lt_of_cell? _ _ Z1.out)).trans Z1.out
              go_simp
              exact hK _ _ (HK.out _ _ ⟨fun _ => ⟨Below.refl _ _, rfl⟩, fun h => absurd rfl h⟩)
            · refine wpOp_step (o := _) rfl fun K' hK => ?_
              rw [if_pos (by go_simp)]
              have e0 : a.tmps.getD 3 undef = .pointer (some ⟨b0, 0, none⟩) := (HRS.out 3 (by decide)).trans rfl
              go_simp
              exact hK _ _ (HK.out _ _ ⟨fun _ => ⟨Below.refl _ _, rfl⟩, fun h => absurd rfl h⟩)
            · refine wpOp_step (o := _) rfl fun K' hK => ?_
              rw [if_pos (by go_simp)]
              have e0 : a.tmps.getD 128 undef = .pointer (some ⟨b0, 2, none⟩) := HAN.out 5 (by decide)
              have c0 : W.cell? ⟨b0, 2, none⟩ = some (.slice (some ⟨bc, oc, none⟩) ps.length c3) := (X.out.up HB.out).cell 0 2 rfl rfl
              go_simp
              exact hK _ _ (HK.out _ _ ⟨fun _ => ⟨Below.refl _ _, rfl⟩, fun h => absurd rfl h⟩)
            · refine wpOp_step (o := _) rfl fun K' hK => ?_
              rw [if_pos (by go_simp)]
              have e0 : a.tmps.getD 14 undef = .int .i64 (k : Int) := (HRS.out 14 (by decide)).trans rfl
              go_simp
              exact hK _ _ (HK.out _ _ ⟨fun _ => ⟨Below.refl _ _, rfl⟩, fun h => absurd rfl h⟩)
            · refine wpOp_step (o := _) rfl fun K' hK => ?_
              rw [if_pos (by go_simp)]
              have e0 : a.tmps.getD 129 undef = .slice (some ⟨bc, oc, none⟩) ps.length c3 := HAN.out 6 (by decide)
              have e1 : a.tmps.getD 130 undef = .int .i64 (k : Int) := HAN.out 7 (by decide)
              go_simp
              exact hK _ _ (HK.out _ _ ⟨fun _ => ⟨Below.refl _ _, rfl⟩, fun h => absurd rfl h⟩)
            · refine wpOp_step (o := _) rfl fun K' hK => ?_
              rw [if_pos (by go_simp)]
              have e0 : a.tmps.getD 131 undef = .pointer (some ⟨bc, oc + k * 2, none⟩) := HAN.out 8 (by decide)
              have c0 : W.cell? ⟨bc, oc + k * 2, none⟩ = _ := (HB.out.cell (p := ⟨bc, oc + k * 2, none⟩) (World.block_lt_of_cell? _ _ Q0.out)).trans Q0.out
              have c1 : W.cell? ⟨bc, oc + k * 2 + 1, none⟩ = _ := (HB.out.cell (p := ⟨bc, oc + k * 2 + 1, none⟩) (World.block_lt_of_cell? _ _ Q1.out)).trans Q1.out
              go_simp
              exact hK _ _ (HK.out _ _ ⟨fun _ => ⟨Below.refl _ _, rfl⟩, fun h => absurd rfl h⟩)
            · refine wpOp_step (o := _) rfl fun K' hK => ?_
              rw [if_pos (by go_simp)]
              have e0 : a.tmps.getD 127 undef = .agg #[.int .i64 p1, .int .i64 p2] := HAN.out 4 (by decide)
              have e1 : a.tmps.getD 132 undef = .agg #[.int .i64 p1, .int .i64 p2] := HAN.out 9 (by decide)
              go_simp
              exact hK _ _ (HK.out _ _ ⟨fun _ => ⟨Below.refl _ _, rfl⟩, fun h => absurd rfl h⟩)
          case fin =>
          intro a wz iv I
          have hbY := I.below
          have F10 : slot a 133 = .bool false := (I.fact 10 (by decide) rfl).2
          rw [frame_of [123, 124, 125, 126, 127, 128, 129, 130, 131, 132, 133] I.size I.defers (fun s hs => I.rest s (rfDsts_spec (by kernel_rfl) hs))]
          simp only [List.foldl_cons, List.foldl_nil, List.setIfInBounds_toArray, List.set_cons_succ, List.set_cons_zero, F10]
          generalize slot a 123 = t123
          generalize slot a 124 = t124
          generalize slot a 125 = t125
          generalize slot a 126 = t126
          generalize slot a 127 = t127
          generalize slot a 128 = t128
          generalize slot a 129 = t129
          generalize slot a 130 = t130
          generalize slot a 131 = t131
          generalize slot a 132 = t132
          clear I F10
          try clear iv a
          have hbz := hide (hbw.out.trans (hbY.mono hbw.out.size))
          clear hbY
          go_wp2_with fail
          go_roundw
          case rel => exact ⟨k + 1, by omega, by go_num, hbz⟩
          case measure => simp [intOf]; omega
        · have hke : k = ps.length := by omega
          subst hke
          have hle : ps.length ≤ ps.length := Nat.le_refl _
          have c00 : wr.cell? ⟨b0, 0, none⟩ = some (.slice a1 l.length c1) := X.out.cell 0 0 rfl rfl
          have c01 : wr.cell? ⟨b0, 1, none⟩ = some (.slice a2 r.length c2) := X.out.cell 0 1 rfl rfl
          have c02 : wr.cell? ⟨b0, 2, none⟩ = some (.slice a3 ps.length c3) := X.out.cell 0 2 rfl rfl
          have c10 : wr.cell? ⟨b0 + 1, 0, none⟩ = some (.int .i64 f) := X.out.cell 1 0 rfl rfl
          have c11 : wr.cell? ⟨b0 + 1, 1, none⟩ = some (.int .i64 t) := X.out.cell 1 1 rfl rfl
          have c20 : wr.cell? ⟨b2, 0, none⟩ = some (.slice gX1 nl.length kX1) := X.out.cell 2 0 rfl rfl
          have c21 : wr.cell? ⟨b2, 1, none⟩ = some (.slice gX2 nr.length kX2) := X.out.cell 2 1 rfl rfl
          have c22 : wr.cell? ⟨b2, 2, none⟩ = some (.slice gX3 np.length kX3) := X.out.cell 2 2 rfl rfl
          have c30 : wr.cell? ⟨b3, 0, none⟩ = some (.slice gY1 nl.length kY1) := X.out.cell 3 0 rfl rfl
          have c31 : wr.cell? ⟨b3, 1, none⟩ = some (.slice gY2 nr.length kY2) := X.out.cell 3 1 rfl rfl
          have c32 : wr.cell? ⟨b3, 2, none⟩ = some (.slice gY3 np.length kY3) := X.out.cell 3 2 rfl rfl
          have c40 : wr.cell? ⟨b4, 0, none⟩ = some (.slice gZ1 zl.length kZ1) := X.out.cell 4 0 rfl rfl
          have c41 : wr.cell? ⟨b4, 1, none⟩ = some (.slice gZ2 zr.length kZ2) := X.out.cell 4 1 rfl rfl
          have c42 : wr.cell? ⟨b4, 2, none⟩ = some (.slice gZ3 ps.length kZ3) := X.out.cell 4 2 rfl rfl
          go_wp2_with fail
          clear c00 c01 c02 c10 c11 c20 c21 c22 c30 c31 c32 c40 c41 c42
          go_at_call 33
          refine (HDD.out _ X.out.below).mono ?_
          rintro e w11 ⟨d1, d2, d3, m1, m2, m3, dl, dr, dp, row, rfl, hcu, hwf, hr1, hr2, hb⟩
          have X := hide (X.out.up hb)
          have CD := hide hcu
          clear hb hcu
          have hir : I64 row := ⟨by omega, by omega⟩
          have HI := hide (fun (W : World) (u : Value) (h : CU W u dl dr dp) => iRd_any u dl dr dp row W h hwf.1 hwf.2.1 (by have := hwf.2.2.1; omega) hwf.2.2.2.1 hwf.2.2.2.2.1 hwf.2.2.2.2.2 hir)
          have HS := hide (fun (W : World) (u : Value) (h : CU W u dl dr dp) => sRd_any u dl dr dp row W h hwf.1 hwf.2.1 (by have := hwf.2.2.1; omega) hwf.2.2.2.1 hwf.2.2.2.2.1 hwf.2.2.2.2.2 hir)
          have wf3 := rd_wf (l := dl) (r := dr) (ps := dp) (row := row) hwf.1 hwf.2.1 (by have := hwf.2.2.1; omega) hwf.2.2.2.1 hwf.2.2.2.2.1 hwf.2.2.2.2.2
          have hsay := fun h => rd_says (l := dl) (r := dr) (ps := dp) (row := row) h
          have hno := fun h => rd_no (l := dl) (r := dr) (ps := dp) (row := row) h
          have hdl : dl.length ≤ 1048576 := hwf.1
          have hdp : dp.length ≤ 100 := hwf.2.2.1
          clear hwf hr1 hr2 hir
          obtain ⟨el, hel⟩ : ∃ q, q = rdL dl dr dp row := ⟨_, rfl⟩
          obtain ⟨er, her⟩ : ∃ q, q = rdR dl dr dp row := ⟨_, rfl⟩
          obtain ⟨ep, hep⟩ : ∃ q, q = rdP dl dr dp row := ⟨_, rfl⟩
          obtain ⟨en, hen⟩ : ∃ q, q = rdN dl dr dp row := ⟨_, rfl⟩
          obtain ⟨ek, hek⟩ : ∃ q, q = rdOk dl dr dp row := ⟨_, rfl⟩
          rw [← hel, ← her, ← hep, ← hen, ← hek] at HI HS
          rw [← hel, ← her, ← hep] at wf3
          rw [← hek, ← hel, ← her, ← hep, ← hen] at hsay
          rw [← hek, ← hel, ← her, ← hep] at hno
          clear hel her hep hen hek
          have KE := hide (fun (W : World) (x y z : Value) (lo hi p1 q1 p2 q2 p3 q3 : Nat) (h : OC W x y z el er ep lo hi p1 q1 p2 q2 p3 q3) => (show CU W _ el er ep from h.ck wf3.2.2.2.1 wf3.2.2.2.2.1 (by have := wf3.2.2.1; omega) wf3.2.2.2.2.2))
          have HSY2 := hide hsay
          have HNO2 := hide hno
          clear hsay hno wf3
          have hm3 : (((en : Nat) : Int) != ((en : Nat) : Int)) = false := by simp
          have hm4 : (ek != ek) = false := by simp
          have hbl := below1 w11 (.cells #[.slice d1 dl.length m1, .slice d2 dr.length m2, .slice d3 dp.length m3] 27)
          have X := hide (X.out.alloc #[.slice d1 dl.length m1, .slice d2 dr.length m2, .slice d3 dp.length m3] 27)
          have CD := hide (CD.out.below hbl)
          clear hbl
          obtain ⟨w12, hw12⟩ : ∃ q, q = w11.alloc (.cells #[.slice d1 dl.length m1, .slice d2 dr.length m2, .slice d3 dp.length m3] 27) := ⟨_, rfl⟩
          obtain ⟨b5, hb5⟩ : ∃ q, q = w11.heap.size := ⟨_, rfl⟩
          have N7 := hide (show b5 = w11.heap.size ∧ w12.heap.size = w11.heap.size + 1 by rw [hw12, hb5]; simp)
          rw [← hw12] at X CD
          rw [← hb5] at X
          simp only [List.cons_append, List.nil_append] at X
          have c00 : w12.cell? ⟨b0, 0, none⟩ = some (.slice a1 l.length c1) := X.out.cell 0 0 rfl rfl
          have c01 : w12.cell? ⟨b0, 1, none⟩ = some (.slice a2 r.length c2) := X.out.cell 0 1 rfl rfl
          have c02 : w12.cell? ⟨b0, 2, none⟩ = some (.slice a3 ps.length c3) := X.out.cell 0 2 rfl rfl
          have c10 : w12.cell? ⟨b0 + 1, 0, none⟩ = some (.int .i64 f) := X.out.cell 1 0 rfl rfl
          have c11 : w12.cell? ⟨b0 + 1, 1, none⟩ = some (.int .i64 t) := X.out.cell 1 1 rfl rfl
          have c20 : w12.cell? ⟨b2, 0, none⟩ = some (.slice gX1 nl.length kX1) := X.out.cell 2 0 rfl rfl
          have c21 : w12.cell? ⟨b2, 1, none⟩ = some (.slice gX2 nr.length kX2) := X.out.cell 2 1 rfl rfl
          have c22 : w12.cell? ⟨b2, 2, none⟩ = some (.slice gX3 np.length kX3) := X.out.cell 2 2 rfl rfl
          have c30 : w12.cell? ⟨b3, 0, none⟩ = some (.slice gY1 nl.length kY1) := X.out.cell 3 0 rfl rfl
          have c31 : w12.cell? ⟨b3, 1, none⟩ = some (.slice gY2 nr.length kY2) := X.out.cell 3 1 rfl rfl
          have c32 : w12.cell? ⟨b3, 2, none⟩ = some (.slice gY3 np.length kY3) := X.out.cell 3 2 rfl rfl
          have c40 : w12.cell? ⟨b4, 0, none⟩ = some (.slice gZ1 zl.length kZ1) := X.out.cell 4 0 rfl rfl
          have c41 : w12.cell? ⟨b4, 1, none⟩ = some (.slice gZ2 zr.length kZ2) := X.out.cell 4 1 rfl rfl
          have c42 : w12.cell? ⟨b4, 2, none⟩ = some (.slice gZ3 ps.length kZ3) := X.out.cell 4 2 rfl rfl
          have c50 : w12.cell? ⟨b5, 0, none⟩ = some (.slice d1 dl.length m1) := X.out.cell 5 0 rfl rfl
          have c51 : w12.cell? ⟨b5, 1, none⟩ = some (.slice d2 dr.length m2) := X.out.cell 5 1 rfl rfl
          have c52 : w12.cell? ⟨b5, 2, none⟩ = some (.slice d3 dp.length m3) := X.out.cell 5 2 rfl rfl
          rw [hw12] at c00 c01 c02 c10 c11 c20 c21 c22 c30 c31 c32 c40 c41 c42 c50 c51 c52
          go_wp2_with fail
          rw [← hw12]
          try rw [← hb5]
          clear hw12 hb5
          clear c00 c01 c02 c10 c11 c20 c21 c22 c30 c31 c32 c40 c41 c42 c50 c51 c52
          go_at_call 29
          refine (HI.out _ _ CD.out).mono ?_
          rintro e w13 ⟨x, y, z, loE, hiE, pE1, qE1, pE2, qE2, pE3, qE3, rfl, hlo, hhi, CE, hb⟩
          obtain ⟨gE1, kE1, rfl⟩ := CE.x.form
          obtain ⟨gE2, kE2, rfl⟩ := CE.y.form
          obtain ⟨gE3, kE3, rfl⟩ := CE.z.own.form
          have CE := hide (KE.out _ _ _ _ _ _ _ _ _ _ _ _ CE)
          clear hlo hhi
          have X := hide (X.out.up hb)
          have CD := hide (CD.out.below hb)
          have N8 := hide hb.size
          clear hb
          have hbl := below1 w13 (.cells #[.slice gE1 el.length kE1, .slice gE2 er.length kE2, .slice gE3 ep.length kE3] 27)
          have X := hide (X.out.alloc #[.slice gE1 el.length kE1, .slice gE2 er.length kE2, .slice gE3 ep.length kE3] 27)
          have CD := hide (CD.out.below hbl)
          have CE := hide (CE.out.below hbl)
          clear hbl
          obtain ⟨w14, hw14⟩ : ∃ q, q = w13.alloc (.cells #[.slice gE1 el.length kE1, .slice gE2 er.length kE2, .slice gE3 ep.length kE3] 27) := ⟨_, rfl⟩
          obtain ⟨b6, hb6⟩ : ∃ q, q = w13.heap.size := ⟨_, rfl⟩
          have N9 := hide (show b6 = w13.heap.size ∧ w14.heap.size = w13.heap.size + 1 by rw [hw14, hb6]; simp)
          rw [← hw14] at X CD CE
          rw [← hb6] at X
          simp only [List.cons_append, List.nil_append] at X
          have c00 : w14.cell? ⟨b0, 0, none⟩ = some (.slice a1 l.length c1) := X.out.cell 0 0 rfl rfl
          have c01 : w14.cell? ⟨b0, 1, none⟩ = some (.slice a2 r.length c2) := X.out.cell 0 1 rfl rfl
          have c02 : w14.cell? ⟨b0, 2, none⟩ = some (.slice a3 ps.length c3) := X.out.cell 0 2 rfl rfl
          have c10 : w14.cell? ⟨b0 + 1, 0, none⟩ = some (.int .i64 f) := X.out.cell 1 0 rfl rfl
          have c11 : w14.cell? ⟨b0 + 1, 1, none⟩ = some (.int .i64 t) := X.out.cell 1 1 rfl rfl
          have c20 : w14.cell? ⟨b2, 0, none⟩ = some (.slice gX1 nl.length kX1) := X.out.cell 2 0 rfl rfl
          have c21 : w14.cell? ⟨b2, 1, none⟩ = some (.slice gX2 nr.length kX2) := X.out.cell 2 1 rfl rfl
          have c22 : w14.cell? ⟨b2, 2, none⟩ = some (.slice gX3 np.length kX3) := X.out.cell 2 2 rfl rfl
          have c30 : w14.cell? ⟨b3, 0, none⟩ = some (.slice gY1 nl.length kY1) := X.out.cell 3 0 rfl rfl
          have c31 : w14.cell? ⟨b3, 1, none⟩ = some (.slice gY2 nr.length kY2) := X.out.cell 3 1 rfl rfl
          have c32 : w14.cell? ⟨b3, 2, none⟩ = some (.slice gY3 np.length kY3) := X.out.cell 3 2 rfl rfl
          have c40 : w14.cell? ⟨b4, 0, none⟩ = some (.slice gZ1 zl.length kZ1) := X.out.cell 4 0 rfl rfl
          have c41 : w14.cell? ⟨b4, 1, none⟩ = some (.slice gZ2 zr.length kZ2) := X.out.cell 4 1 rfl rfl
          have c42 : w14.cell? ⟨b4, 2, none⟩ = some (.slice gZ3 ps.length kZ3) := X.out.cell 4 2 rfl rfl
          have c50 : w14.cell? ⟨b5, 0, none⟩ = some (.slice d1 dl.length m1) := X.out.cell 5 0 rfl rfl
          have c51 : w14.cell? ⟨b5, 1, none⟩ = some (.slice d2 dr.length m2) := X.out.cell 5 1 rfl rfl
          have c52 : w14.cell? ⟨b5, 2, none⟩ = some (.slice d3 dp.length m3) := X.out.cell 5 2 rfl rfl
          have c60 : w14.cell? ⟨b6, 0, none⟩ = some (.slice gE1 el.length kE1) := X.out.cell 6 0 rfl rfl
          have c61 : w14.cell? ⟨b6, 1, none⟩ = some (.slice gE2 er.length kE2) := X.out.cell 6 1 rfl rfl
          have c62 : w14.cell? ⟨b6, 2, none⟩ = some (.slice gE3 ep.length kE3) := X.out.cell 6 2 rfl rfl
          rw [hw14] at c00 c01 c02 c10 c11 c20 c21 c22 c30 c31 c32 c40 c41 c42 c50 c51 c52 c60 c61 c62
          go_wp2_with fail
          rw [← hw14]
          try rw [← hb6]
          clear hw14 hb6
          clear c00 c01 c02 c10 c11 c20 c21 c22 c30 c31 c32 c40 c41 c42 c50 c51 c52 c60 c61 c62
          go_at_call 34
          refine (HS.out _ _ CD.out).mono ?_
          rintro e w15 ⟨x, y, z, loF, hiF, pF1, qF1, pF2, qF2, pF3, qF3, rfl, hlo, hhi, CF, hb⟩
          obtain ⟨gF1, kF1, rfl⟩ := CF.x.form
          obtain ⟨gF2, kF2, rfl⟩ := CF.y.form
          obtain ⟨gF3, kF3, rfl⟩ := CF.z.own.form
          have CF := hide (KE.out _ _ _ _ _ _ _ _ _ _ _ _ CF)
          clear hlo hhi
          have X := hide (X.out.up hb)
          have CD := hide (CD.out.below hb)
          have CE := hide (CE.out.below hb)
          have N10 := hide hb.size
          clear hb
          have hbl := below1 w15 (.cells #[.slice gF1 el.length kF1, .slice gF2 er.length kF2, .slice gF3 ep.length kF3] 27)
          have X := hide (X.out.alloc #[.slice gF1 el.length kF1, .slice gF2 er.length kF2, .slice gF3 ep.length kF3] 27)
          have CD := hide (CD.out.below hbl)
          have CE := hide (CE.out.below hbl)
          have CF := hide (CF.out.below hbl)
          clear hbl
          obtain ⟨w16, hw16⟩ : ∃ q, q = w15.alloc (.cells #[.slice gF1 el.length kF1, .slice gF2 er.length kF2, .slice gF3 ep.length kF3] 27) := ⟨_, rfl⟩
          obtain ⟨b7, hb7⟩ : ∃ q, q = w15.heap.size := ⟨_, rfl⟩
          have N11 := hide (show b7 = w15.heap.size ∧ w16.heap.size = w15.heap.size + 1 by rw [hw16, hb7]; simp)
          rw [← hw16] at X CD CE CF
          rw [← hb7] at X
          simp only [List.cons_append, List.nil_append] at X
          have c00 : w16.cell? ⟨b0, 0, none⟩ = some (.slice a1 l.length c1) := X.out.cell 0 0 rfl rfl
          have c01 : w16.cell? ⟨b0, 1, none⟩ = some (.slice a2 r.length c2) := X.out.cell 0 1 rfl rfl
          have c02 : w16.cell? ⟨b0, 2, none⟩ = some (.slice a3 ps.length c3) := X.out.cell 0 2 rfl rfl
          have c10 : w16.cell? ⟨b0 + 1, 0, none⟩ = some (.int .i64 f) := X.out.cell 1 0 rfl rfl
          have c11 : w16.cell? ⟨b0 + 1, 1, none⟩ = some (.int .i64 t) := X.out.cell 1 1 rfl rfl
          have c20 : w16.cell? ⟨b2, 0, none⟩ = some (.slice gX1 nl.length kX1) := X.out.cell 2 0 rfl rfl
          have c21 : w16.cell? ⟨b2, 1, none⟩ = some (.slice gX2 nr.length kX2) := X.out.cell 2 1 rfl rfl
          have c22 : w16.cell? ⟨b2, 2, none⟩ = some (.slice gX3 np.length kX3) := X.out.cell 2 2 rfl rfl
          have c30 : w16.cell? ⟨b3, 0, none⟩ = some (.slice gY1 nl.length kY1) := X.out.cell 3 0 rfl rfl
          have c31 : w16.cell? ⟨b3, 1, none⟩ = some (.slice gY2 nr.length kY2) := X.out.cell 3 1 rfl rfl
          have c32 : w16.cell? ⟨b3, 2, none⟩ = some (.slice gY3 np.length kY3) := X.out.cell 3 2 rfl rfl
          have c40 : w16.cell? ⟨b4, 0, none⟩ = some (.slice gZ1 zl.length kZ1) := X.out.cell 4 0 rfl rfl
          have c41 : w16.cell? ⟨b4, 1, none⟩ = some (.slice gZ2 zr.length kZ2) := X.out.cell 4 1 rfl rfl
          have c42 : w16.cell? ⟨b4, 2, none⟩ = some (.slice gZ3 ps.length kZ3) := X.out.cell 4 2 rfl rfl
          have c50 : w16.cell? ⟨b5, 0, none⟩ = some (.slice d1 dl.length m1) := X.out.cell 5 0 rfl rfl
          have c51 : w16.cell? ⟨b5, 1, none⟩ = some (.slice d2 dr.length m2) := X.out.cell 5 1 rfl rfl
          have c52 : w16.cell? ⟨b5, 2, none⟩ = some (.slice d3 dp.length m3) := X.out.cell 5 2 rfl rfl
          have c60 : w16.cell? ⟨b6, 0, none⟩ = some (.slice gE1 el.length kE1) := X.out.cell 6 0 rfl rfl
          have c61 : w16.cell? ⟨b6, 1, none⟩ = some (.slice gE2 er.length kE2) := X.out.cell 6 1 rfl rfl
          have c62 : w16.cell? ⟨b6, 2, none⟩ = some (.slice gE3 ep.length kE3) := X.out.cell 6 2 rfl rfl
          have c70 : w16.cell? ⟨b7, 0, none⟩ = some (.slice gF1 el.length kF1) := X.out.cell 7 0 rfl rfl
          have c71 : w16.cell? ⟨b7, 1, none⟩ = some (.slice gF2 er.length kF2) := X.out.cell 7 1 rfl rfl
          have c72 : w16.cell? ⟨b7, 2, none⟩ = some (.slice gF3 ep.length kF3) := X.out.cell 7 2 rfl rfl
          rw [hw16] at c00 c01 c02 c10 c11 c20 c21 c22 c30 c31 c32 c40 c41 c42 c50 c51 c52 c60 c61 c62 c70 c71 c72
          go_wp2_with fail
          rw [← hw16]
          try rw [← hb7]
          clear hw16 hb7
          clear c00 c01 c02 c10 c11 c20 c21 c22 c30 c31 c32 c40 c41 c42 c50 c51 c52 c60 c61 c62 c70 c71 c72
          go_at_call 28
          refine (sEqCk_any _ _ el er el er ep ep _ _ CE.out CF.out (Nat.le_refl _)).mono ?_
          rintro e w17 ⟨rfl, hb⟩
          rw [eqC_same]
          have X := hide (X.out.up hb)
          have CD := hide (CD.out.below hb)
          have CE := hide (CE.out.below hb)
          have CF := hide (CF.out.below hb)
          have N12 := hide hb.size
          clear hb
          clear CF hm3 hm4 HI HS KE
          cases ek with
          | false =>
            obtain ⟨h1, h2, h3, hrow⟩ := HNO2.out rfl
            have HE2 := hide (show eqC el er ep dl dr dp = true by rw [h1, h2, h3]; simp [eqC])
            have HRZ := hide hrow
            clear h1 h2 h3 hrow HNO2 HSY2
            have c00 : w17.cell? ⟨b0, 0, none⟩ = some (.slice a1 l.length c1) := X.out.cell 0 0 rfl rfl
            have c01 : w17.cell? ⟨b0, 1, none⟩ = some (.slice a2 r.length c2) := X.out.cell 0 1 rfl rfl
            have c02 : w17.cell? ⟨b0, 2, none⟩ = some (.slice a3 ps.length c3) := X.out.cell 0 2 rfl rfl
            have c10 : w17.cell? ⟨b0 + 1, 0, none⟩ = some (.int .i64 f) := X.out.cell 1 0 rfl rfl
            have c11 : w17.cell? ⟨b0 + 1, 1, none⟩ = some (.int .i64 t) := X.out.cell 1 1 rfl rfl
            have c20 : w17.cell? ⟨b2, 0, none⟩ = some (.slice gX1 nl.length kX1) := X.out.cell 2 0 rfl rfl
            have c21 : w17.cell? ⟨b2, 1, none⟩ = some (.slice gX2 nr.length kX2) := X.out.cell 2 1 rfl rfl
            have c22 : w17.cell? ⟨b2, 2, none⟩ = some (.slice gX3 np.length kX3) := X.out.cell 2 2 rfl rfl
            have c30 : w17.cell? ⟨b3, 0, none⟩ = some (.slice gY1 nl.length kY1) := X.out.cell 3 0 rfl rfl
            have c31 : w17.cell? ⟨b3, 1, none⟩ = some (.slice gY2 nr.length kY2) := X.out.cell 3 1 rfl rfl
            have c32 : w17.cell? ⟨b3, 2, none⟩ = some (.slice gY3 np.length kY3) := X.out.cell 3 2 rfl rfl
            have c40 : w17.cell? ⟨b4, 0, none⟩ = some (.slice gZ1 zl.length kZ1) := X.out.cell 4 0 rfl rfl
            have c41 : w17.cell? ⟨b4, 1, none⟩ = some (.slice gZ2 zr.length kZ2) := X.out.cell 4 1 rfl rfl
            have c42 : w17.cell? ⟨b4, 2, none⟩ = some (.slice gZ3 ps.length kZ3) := X.out.cell 4 2 rfl rfl
            have c50 : w17.cell? ⟨b5, 0, none⟩ = some (.slice d1 dl.length m1) := X.out.cell 5 0 rfl rfl
            have c51 : w17.cell? ⟨b5, 1, none⟩ = some (.slice d2 dr.length m2) := X.out.cell 5 1 rfl rfl
            have c52 : w17.cell? ⟨b5, 2, none⟩ = some (.slice d3 dp.length m3) := X.out.cell 5 2 rfl rfl
            have c60 : w17.cell? ⟨b6, 0, none⟩ = some (.slice gE1 el.length kE1) := X.out.cell 6 0 rfl rfl
            have c61 : w17.cell? ⟨b6, 1, none⟩ = some (.slice gE2 er.length kE2) := X.out.cell 6 1 rfl rfl
            have c62 : w17.cell? ⟨b6, 2, none⟩ = some (.slice gE3 ep.length kE3) := X.out.cell 6 2 rfl rfl
            have c70 : w17.cell? ⟨b7, 0, none⟩ = some (.slice gF1 el.length kF1) := X.out.cell 7 0 rfl rfl
            have c71 : w17.cell? ⟨b7, 1, none⟩ = some (.slice gF2 er.length kF2) := X.out.cell 7 1 rfl rfl
            have c72 : w17.cell? ⟨b7, 2, none⟩ = some (.slice gF3 ep.length kF3) := X.out.cell 7 2 rfl rfl
            go_wp2_with fail
            clear c00 c01 c02 c10 c11 c20 c21 c22 c30 c31 c32 c40 c41 c42 c50 c51 c52 c60 c61 c62 c70 c71 c72
            go_at_call 28
            refine (sEqCk_any _ _ el er dl dr ep dp _ _ CE.out CD.out (Nat.le_refl _)).mono ?_
            rintro e w18 ⟨rfl, hb⟩
            rw [HE2.out]
            have X := hide (X.out.up hb)
            have CD := hide (CD.out.below hb)
            have CE := hide (CE.out.below hb)
            have N13 := hide hb.size
            clear hb
            obtain ⟨ck, hck⟩ : ∃ q, q = isCk dl dr dp := ⟨_, rfl⟩
            have HCK := hide hck
            rw [← hck] at HRZ
            clear hck
            have c00 : w18.cell? ⟨b0, 0, none⟩ = some (.slice a1 l.length c1) := X.out.cell 0 0 rfl rfl
            have c01 : w18.cell? ⟨b0, 1, none⟩ = some (.slice a2 r.length c2) := X.out.cell 0 1 rfl rfl
            have c02 : w18.cell? ⟨b0, 2, none⟩ = some (.slice a3 ps.length c3) := X.out.cell 0 2 rfl rfl
            have c10 : w18.cell? ⟨b0 + 1, 0, none⟩ = some (.int .i64 f) := X.out.cell 1 0 rfl rfl
            have c11 : w18.cell? ⟨b0 + 1, 1, none⟩ = some (.int .i64 t) := X.out.cell 1 1 rfl rfl
            have c20 : w18.cell? ⟨b2, 0, none⟩ = some (.slice gX1 nl.length kX1) := X.out.cell 2 0 rfl rfl
            have c21 : w18.cell? ⟨b2, 1, none⟩ = some (.slice gX2 nr.length kX2) := X.out.cell 2 1 rfl rfl
            have c22 : w18.cell? ⟨b2, 2, none⟩ = some (.slice gX3 np.length kX3) := X.out.cell 2 2 rfl rfl
            have c30 : w18.cell? ⟨b3, 0, none⟩ = some (.slice gY1 nl.length kY1) := X.out.cell 3 0 rfl rfl
            have c31 : w18.cell? ⟨b3, 1, none⟩ = some (.slice gY2 nr.length kY2) := X.out.cell 3 1 rfl rfl
            have c32 : w18.cell? ⟨b3, 2, none⟩ = some (.slice gY3 np.length kY3) := X.out.cell 3 2 rfl rfl
            have c40 : w18.cell? ⟨b4, 0, none⟩ = some (.slice gZ1 zl.length kZ1) := X.out.cell 4 0 rfl rfl
            have c41 : w18.cell? ⟨b4, 1, none⟩ = some (.slice gZ2 zr.length kZ2) := X.out.cell 4 1 rfl rfl
            have c42 : w18.cell? ⟨b4, 2, none⟩ = some (.slice gZ3 ps.length kZ3) := X.out.cell 4 2 rfl rfl
            have c50 : w18.cell? ⟨b5, 0, none⟩ = some (.slice d1 dl.length m1) := X.out.cell 5 0 rfl rfl
            have c51 : w18.cell? ⟨b5, 1, none⟩ = some (.slice d2 dr.length m2) := X.out.cell 5 1 rfl rfl
            have c52 : w18.cell? ⟨b5, 2, none⟩ = some (.slice d3 dp.length m3) := X.out.cell 5 2 rfl rfl
            have c60 : w18.cell? ⟨b6, 0, none⟩ = some (.slice gE1 el.length kE1) := X.out.cell 6 0 rfl rfl
            have c61 : w18.cell? ⟨b6, 1, none⟩ = some (.slice gE2 er.length kE2) := X.out.cell 6 1 rfl rfl
            have c62 : w18.cell? ⟨b6, 2, none⟩ = some (.slice gE3 ep.length kE3) := X.out.cell 6 2 rfl rfl
            have c70 : w18.cell? ⟨b7, 0, none⟩ = some (.slice gF1 el.length kF1) := X.out.cell 7 0 rfl rfl
            have c71 : w18.cell? ⟨b7, 1, none⟩ = some (.slice gF2 er.length kF2) := X.out.cell 7 1 rfl rfl
            have c72 : w18.cell? ⟨b7, 2, none⟩ = some (.slice gF3 ep.length kF3) := X.out.cell 7 2 rfl rfl
            go_wp2_with fail
            clear c00 c01 c02 c10 c11 c20 c21 c22 c30 c31 c32 c40 c41 c42 c50 c51 c52 c60 c61 c62 c70 c71 c72
            go_at_call 35
            refine (sIsCk_any _ dl dr dp _ _ CD.out (Nat.le_refl _)).mono ?_
            rintro e w19 ⟨rfl, hb⟩
            rw [← HCK.out]
            have X := hide (X.out.up hb)
            have CD := hide (CD.out.below hb)
            have CE := hide (CE.out.below hb)
            have N14 := hide hb.size
            clear hb
            cases ck with
            | false =>
              have c00 : w19.cell? ⟨b0, 0, none⟩ = some (.slice a1 l.length c1) := X.out.cell 0 0 rfl rfl
              have c01 : w19.cell? ⟨b0, 1, none⟩ = some (.slice a2 r.length c2) := X.out.cell 0 1 rfl rfl
              have c02 : w19.cell? ⟨b0, 2, none⟩ = some (.slice a3 ps.length c3) := X.out.cell 0 2 rfl rfl
              have c10 : w19.cell? ⟨b0 + 1, 0, none⟩ = some (.int .i64 f) := X.out.cell 1 0 rfl rfl
              have c11 : w19.cell? ⟨b0 + 1, 1, none⟩ = some (.int .i64 t) := X.out.cell 1 1 rfl rfl
              have c20 : w19.cell? ⟨b2, 0, none⟩ = some (.slice gX1 nl.length kX1) := X.out.cell 2 0 rfl rfl
              have c21 : w19.cell? ⟨b2, 1, none⟩ = some (.slice gX2 nr.length kX2) := X.out.cell 2 1 rfl rfl
              have c22 : w19.cell? ⟨b2, 2, none⟩ = some (.slice gX3 np.length kX3) := X.out.cell 2 2 rfl rfl
              have c30 : w19.cell? ⟨b3, 0, none⟩ = some (.slice gY1 nl.length kY1) := X.out.cell 3 0 rfl rfl
              have c31 : w19.cell? ⟨b3, 1, none⟩ = some (.slice gY2 nr.length kY2) := X.out.cell 3 1 rfl rfl
              have c32 : w19.cell? ⟨b3, 2, none⟩ = some (.slice gY3 np.length kY3) := X.out.cell 3 2 rfl rfl
              have c40 : w19.cell? ⟨b4, 0, none⟩ = some (.slice gZ1 zl.length kZ1) := X.out.cell 4 0 rfl rfl
              have c41 : w19.cell? ⟨b4, 1, none⟩ = some (.slice gZ2 zr.length kZ2) := X.out.cell 4 1 rfl rfl
              have c42 : w19.cell? ⟨b4, 2, none⟩ = some (.slice gZ3 ps.length kZ3) := X.out.cell 4 2 rfl rfl
              have c50 : w19.cell? ⟨b5, 0, none⟩ = some (.slice d1 dl.length m1) := X.out.cell 5 0 rfl rfl
              have c51 : w19.cell? ⟨b5, 1, none⟩ = some (.slice d2 dr.length m2) := X.out.cell 5 1 rfl rfl
              have c52 : w19.cell? ⟨b5, 2, none⟩ = some (.slice d3 dp.length m3) := X.out.cell 5 2 rfl rfl
              have c60 : w19.cell? ⟨b6, 0, none⟩ = some (.slice gE1 el.length kE1) := X.out.cell 6 0 rfl rfl
              have c61 : w19.cell? ⟨b6, 1, none⟩ = some (.slice gE2 er.length kE2) := X.out.cell 6 1 rfl rfl
              have c62 : w19.cell? ⟨b6, 2, none⟩ = some (.slice gE3 ep.length kE3) := X.out.cell 6 2 rfl rfl
              have c70 : w19.cell? ⟨b7, 0, none⟩ = some (.slice gF1 el.length kF1) := X.out.cell 7 0 rfl rfl
              have c71 : w19.cell? ⟨b7, 1, none⟩ = some (.slice gF2 er.length kF2) := X.out.cell 7 1 rfl rfl
              have c72 : w19.cell? ⟨b7, 2, none⟩ = some (.slice gF3 ep.length kF3) := X.out.cell 7 2 rfl rfl
              go_wp2_with fail
              clear c00 c01 c02 c10 c11 c20 c21 c22 c30 c31 c32 c40 c41 c42 c50 c51 c52 c60 c61 c62 c70 c71 c72
              go_ret
              exact ⟨rfl, X.out.below⟩
            | true =>
              have HR0 := hide (HRZ.out rfl)
              clear HRZ
              have c00 : w19.cell? ⟨b0, 0, none⟩ = some (.slice a1 l.length c1) := X.out.cell 0 0 rfl rfl
              have c01 : w19.cell? ⟨b0, 1, none⟩ = some (.slice a2 r.length c2) := X.out.cell 0 1 rfl rfl
              have c02 : w19.cell? ⟨b0, 2, none⟩ = some (.slice a3 ps.length c3) := X.out.cell 0 2 rfl rfl
              have c10 : w19.cell? ⟨b0 + 1, 0, none⟩ = some (.int .i64 f) := X.out.cell 1 0 rfl rfl
              have c11 : w19.cell? ⟨b0 + 1, 1, none⟩ = some (.int .i64 t) := X.out.cell 1 1 rfl rfl
              have c20 : w19.cell? ⟨b2, 0, none⟩ = some (.slice gX1 nl.length kX1) := X.out.cell 2 0 rfl rfl
              have c21 : w19.cell? ⟨b2, 1, none⟩ = some (.slice gX2 nr.length kX2) := X.out.cell 2 1 rfl rfl
              have c22 : w19.cell? ⟨b2, 2, none⟩ = some (.slice gX3 np.length kX3) := X.out.cell 2 2 rfl rfl
              have c30 : w19.cell? ⟨b3, 0, none⟩ = some (.slice gY1 nl.length kY1) := X.out.cell 3 0 rfl rfl
              have c31 : w19.cell? ⟨b3, 1, none⟩ = some (.slice gY2 nr.length kY2) := X.out.cell 3 1 rfl rfl
              have c32 : w19.cell? ⟨b3, 2, none⟩ = some (.slice gY3 np.length kY3) := X.out.cell 3 2 rfl rfl
              have c40 : w19.cell? ⟨b4, 0, none⟩ = some (.slice gZ1 zl.length kZ1) := X.out.cell 4 0 rfl rfl
              have c41 : w19.cell? ⟨b4, 1, none⟩ = some (.slice gZ2 zr.length kZ2) := X.out.cell 4 1 rfl rfl
              have c42 : w19.cell? ⟨b4, 2, none⟩ = some (.slice gZ3 ps.length kZ3) := X.out.cell 4 2 rfl rfl
              have c50 : w19.cell? ⟨b5, 0, none⟩ = some (.slice d1 dl.length m1) := X.out.cell 5 0 rfl rfl
              have c51 : w19.cell? ⟨b5, 1, none⟩ = some (.slice d2 dr.length m2) := X.out.cell 5 1 rfl rfl
              have c52 : w19.cell? ⟨b5, 2, none⟩ = some (.slice d3 dp.length m3) := X.out.cell 5 2 rfl rfl
              have c60 : w19.cell? ⟨b6, 0, none⟩ = some (.slice gE1 el.length kE1) := X.out.cell 6 0 rfl rfl
              have c61 : w19.cell? ⟨b6, 1, none⟩ = some (.slice gE2 er.length kE2) := X.out.cell 6 1 rfl rfl
              have c62 : w19.cell? ⟨b6, 2, none⟩ = some (.slice gE3 ep.length kE3) := X.out.cell 6 2 rfl rfl
              have c70 : w19.cell? ⟨b7, 0, none⟩ = some (.slice gF1 el.length kF1) := X.out.cell 7 0 rfl rfl
              have c71 : w19.cell? ⟨b7, 1, none⟩ = some (.slice gF2 er.length kF2) := X.out.cell 7 1 rfl rfl
              have c72 : w19.cell? ⟨b7, 2, none⟩ = some (.slice gF3 ep.length kF3) := X.out.cell 7 2 rfl rfl
              go_wp2_with fail
              clear c00 c01 c02 c10 c11 c20 c21 c22 c30 c31 c32 c40 c41 c42 c50 c51 c52 c60 c61 c62 c70 c71 c72
              go_at_call 36
              refine (iFindRow_any _ dl dr dp row _ _ CD.out (Nat.le_refl _)).mono ?_
              rintro e w20 ⟨rfl, hb⟩
              rw [HR0.out]
              have X := hide (X.out.up hb)
              have CD := hide (CD.out.below hb)
              have CE := hide (CE.out.below hb)
              have N15 := hide hb.size
              clear hb
              have c00 : w20.cell? ⟨b0, 0, none⟩ = some (.slice a1 l.length c1) := X.out.cell 0 0 rfl rfl
              have c01 : w20.cell? ⟨b0, 1, none⟩ = some (.slice a2 r.length c2) := X.out.cell 0 1 rfl rfl
              have c02 : w20.cell? ⟨b0, 2, none⟩ = some (.slice a3 ps.length c3) := X.out.cell 0 2 rfl rfl
              have c10 : w20.cell? ⟨b0 + 1, 0, none⟩ = some (.int .i64 f) := X.out.cell 1 0 rfl rfl
              have c11 : w20.cell? ⟨b0 + 1, 1, none⟩ = some (.int .i64 t) := X.out.cell 1 1 rfl rfl
              have c20 : w20.cell? ⟨b2, 0, none⟩ = some (.slice gX1 nl.length kX1) := X.out.cell 2 0 rfl rfl
              have c21 : w20.cell? ⟨b2, 1, none⟩ = some (.slice gX2 nr.length kX2) := X.out.cell 2 1 rfl rfl
              have c22 : w20.cell? ⟨b2, 2, none⟩ = some (.slice gX3 np.length kX3) := X.out.cell 2 2 rfl rfl
              have c30 : w20.cell? ⟨b3, 0, none⟩ = some (.slice gY1 nl.length kY1) := X.out.cell 3 0 rfl rfl
              have c31 : w20.cell? ⟨b3, 1, none⟩ = some (.slice gY2 nr.length kY2) := X.out.cell 3 1 rfl rfl
              have c32 : w20.cell? ⟨b3, 2, none⟩ = some (.slice gY3 np.length kY3) := X.out.cell 3 2 rfl rfl
              have c40 : w20.cell? ⟨b4, 0, none⟩ = some (.slice gZ1 zl.length kZ1) := X.out.cell 4 0 rfl rfl
              have c41 : w20.cell? ⟨b4, 1, none⟩ = some (.slice gZ2 zr.length kZ2) := X.out.cell 4 1 rfl rfl
              have c42 : w20.cell? ⟨b4, 2, none⟩ = some (.slice gZ3 ps.length kZ3) := X.out.cell 4 2 rfl rfl
              have c50 : w20.cell? ⟨b5, 0, none⟩ = some (.slice d1 dl.length m1) := X.out.cell 5 0 rfl rfl
              have c51 : w20.cell? ⟨b5, 1, none⟩ = some (.slice d2 dr.length m2) := X.out.cell 5 1 rfl rfl
              have c52 : w20.cell? ⟨b5, 2, none⟩ = some (.slice d3 dp.length m3) := X.out.cell 5 2 rfl rfl
              have c60 : w20.cell? ⟨b6, 0, none⟩ = some (.slice gE1 el.length kE1) := X.out.cell 6 0 rfl rfl
              have c61 : w20.cell? ⟨b6, 1, none⟩ = some (.slice gE2 er.length kE2) := X.out.cell 6 1 rfl rfl
              have c62 : w20.cell? ⟨b6, 2, none⟩ = some (.slice gE3 ep.length kE3) := X.out.cell 6 2 rfl rfl
              have c70 : w20.cell? ⟨b7, 0, none⟩ = some (.slice gF1 el.length kF1) := X.out.cell 7 0 rfl rfl
              have c71 : w20.cell? ⟨b7, 1, none⟩ = some (.slice gF2 er.length kF2) := X.out.cell 7 1 rfl rfl
              have c72 : w20.cell? ⟨b7, 2, none⟩ = some (.slice gF3 ep.length kF3) := X.out.cell 7 2 rfl rfl
              go_wp2_with fail
              clear c00 c01 c02 c10 c11 c20 c21 c22 c30 c31 c32 c40 c41 c42 c50 c51 c52 c60 c61 c62 c70 c71 c72
              go_ret
              exact ⟨rfl, X.out.below⟩
          | true =>
            obtain ⟨h1, -, h2, h3, h4, h5⟩ := HSY2.out rfl
            have HCK := hide h4
            have HRZ := hide h5
            have v1 : (((el.length : Nat) : Int) == ((dl.length : Nat) : Int) - 1) = true := by simp; omega
            have v1b : decide (((el.length : Nat) : Int) = ((dl.length : Nat) : Int) - 1) = true := by simp; omega
            have v2 : decide (((en : Nat) : Int) ≤ ((dp.length : Nat) : Int) + 1) = true := by simp; omega
            have v2b : ((en : Nat) : Int) ≤ ((dp.length : Nat) : Int) + 1 := by omega
            have v3 : IntKind.i64.wrap (((dl.length : Nat) : Int) - 1) = ((dl.length : Nat) : Int) - 1 := IntWalk.i64_in _ (by omega)
            have v4 : IntKind.i64.wrap (((dp.length : Nat) : Int) + 1) = ((dp.length : Nat) : Int) + 1 := IntWalk.i64_in _ (by omega)
            clear h1 h2 h3 h4 h5 HNO2 HSY2
            have c00 : w17.cell? ⟨b0, 0, none⟩ = some (.slice a1 l.length c1) := X.out.cell 0 0 rfl rfl
            have c01 : w17.cell? ⟨b0, 1, none⟩ = some (.slice a2 r.length c2) := X.out.cell 0 1 rfl rfl
            have c02 : w17.cell? ⟨b0, 2, none⟩ = some (.slice a3 ps.length c3) := X.out.cell 0 2 rfl rfl
            have c10 : w17.cell? ⟨b0 + 1, 0, none⟩ = some (.int .i64 f) := X.out.cell 1 0 rfl rfl
            have c11 : w17.cell? ⟨b0 + 1, 1, none⟩ = some (.int .i64 t) := X.out.cell 1 1 rfl rfl
            have c20 : w17.cell? ⟨b2, 0, none⟩ = some (.slice gX1 nl.length kX1) := X.out.cell 2 0 rfl rfl
            have c21 : w17.cell? ⟨b2, 1, none⟩ = some (.slice gX2 nr.length kX2) := X.out.cell 2 1 rfl rfl
            have c22 : w17.cell? ⟨b2, 2, none⟩ = some (.slice gX3 np.length kX3) := X.out.cell 2 2 rfl rfl
            have c30 : w17.cell? ⟨b3, 0, none⟩ = some (.slice gY1 nl.length kY1) := X.out.cell 3 0 rfl rfl
            have c31 : w17.cell? ⟨b3, 1, none⟩ = some (.slice gY2 nr.length kY2) := X.out.cell 3 1 rfl rfl
            have c32 : w17.cell? ⟨b3, 2, none⟩ = some (.slice gY3 np.length kY3) := X.out.cell 3 2 rfl rfl
            have c40 : w17.cell? ⟨b4, 0, none⟩ = some (.slice gZ1 zl.length kZ1) := X.out.cell 4 0 rfl rfl
            have c41 : w17.cell? ⟨b4, 1, none⟩ = some (.slice gZ2 zr.length kZ2) := X.out.cell 4 1 rfl rfl
            have c42 : w17.cell? ⟨b4, 2, none⟩ = some (.slice gZ3 ps.length kZ3) := X.out.cell 4 2 rfl rfl
            have c50 : w17.cell? ⟨b5, 0, none⟩ = some (.slice d1 dl.length m1) := X.out.cell 5 0 rfl rfl
            have c51 : w17.cell? ⟨b5, 1, none⟩ = some (.slice d2 dr.length m2) := X.out.cell 5 1 rfl rfl
            have c52 : w17.cell? ⟨b5, 2, none⟩ = some (.slice d3 dp.length m3) := X.out.cell 5 2 rfl rfl
            have c60 : w17.cell? ⟨b6, 0, none⟩ = some (.slice gE1 el.length kE1) := X.out.cell 6 0 rfl rfl
            have c61 : w17.cell? ⟨b6, 1, none⟩ = some (.slice gE2 er.length kE2) := X.out.cell 6 1 rfl rfl
            have c62 : w17.cell? ⟨b6, 2, none⟩ = some (.slice gE3 ep.length kE3) := X.out.cell 6 2 rfl rfl
            have c70 : w17.cell? ⟨b7, 0, none⟩ = some (.slice gF1 el.length kF1) := X.out.cell 7 0 rfl rfl
            have c71 : w17.cell? ⟨b7, 1, none⟩ = some (.slice gF2 er.length kF2) := X.out.cell 7 1 rfl rfl
            have c72 : w17.cell? ⟨b7, 2, none⟩ = some (.slice gF3 ep.length kF3) := X.out.cell 7 2 rfl rfl
            go_wp2_with fail
            clear c00 c01 c02 c10 c11 c20 c21 c22 c30 c31 c32 c40 c41 c42 c50 c51 c52 c60 c61 c62 c70 c71 c72
            go_at_call 30
            refine (iIsCk_any _ el er ep _ _ CE.out (Nat.le_refl _)).mono ?_
            rintro e w18 ⟨rfl, hb⟩
            rw [HCK.out]
            have X := hide (X.out.up hb)
            have CD := hide (CD.out.below hb)
            have CE := hide (CE.out.below hb)
            have N13 := hide hb.size
            clear hb
            have c00 : w18.cell? ⟨b0, 0, none⟩ = some (.slice a1 l.length c1) := X.out.cell 0 0 rfl rfl
            have c01 : w18.cell? ⟨b0, 1, none⟩ = some (.slice a2 r.length c2) := X.out.cell 0 1 rfl rfl
            have c02 : w18.cell? ⟨b0, 2, none⟩ = some (.slice a3 ps.length c3) := X.out.cell 0 2 rfl rfl
            have c10 : w18.cell? ⟨b0 + 1, 0, none⟩ = some (.int .i64 f) := X.out.cell 1 0 rfl rfl
            have c11 : w18.cell? ⟨b0 + 1, 1, none⟩ = some (.int .i64 t) := X.out.cell 1 1 rfl rfl
            have c20 : w18.cell? ⟨b2, 0, none⟩ = some (.slice gX1 nl.length kX1) := X.out.cell 2 0 rfl rfl
            have c21 : w18.cell? ⟨b2, 1, none⟩ = some (.slice gX2 nr.length kX2) := X.out.cell 2 1 rfl rfl
            have c22 : w18.cell? ⟨b2, 2, none⟩ = some (.slice gX3 np.length kX3) := X.out.cell 2 2 rfl rfl
            have c30 : w18.cell? ⟨b3, 0, none⟩ = some (.slice gY1 nl.length kY1) := X.out.cell 3 0 rfl rfl
            have c31 : w18.cell? ⟨b3, 1, none⟩ = some (.slice gY2 nr.length kY2) := X.out.cell 3 1 rfl rfl
            have c32 : w18.cell? ⟨b3, 2, none⟩ = some (.slice gY3 np.length kY3) := X.out.cell 3 2 rfl rfl
            have c40 : w18.cell? ⟨b4, 0, none⟩ = some (.slice gZ1 zl.length kZ1) := X.out.cell 4 0 rfl rfl
            have c41 : w18.cell? ⟨b4, 1, none⟩ = some (.slice gZ2 zr.length kZ2) := X.out.cell 4 1 rfl rfl
            have c42 : w18.cell? ⟨b4, 2, none⟩ = some (.slice gZ3 ps.length kZ3) := X.out.cell 4 2 rfl rfl
            have c50 : w18.cell? ⟨b5, 0, none⟩ = some (.slice d1 dl.length m1) := X.out.cell 5 0 rfl rfl
            have c51 : w18.cell? ⟨b5, 1, none⟩ = some (.slice d2 dr.length m2) := X.out.cell 5 1 rfl rfl
            have c52 : w18.cell? ⟨b5, 2, none⟩ = some (.slice d3 dp.length m3) := X.out.cell 5 2 rfl rfl
            have c60 : w18.cell? ⟨b6, 0, none⟩ = some (.slice gE1 el.length kE1) := X.out.cell 6 0 rfl rfl
            have c61 : w18.cell? ⟨b6, 1, none⟩ = some (.slice gE2 er.length kE2) := X.out.cell 6 1 rfl rfl
            have c62 : w18.cell? ⟨b6, 2, none⟩ = some (.slice gE3 ep.length kE3) := X.out.cell 6 2 rfl rfl
            have c70 : w18.cell? ⟨b7, 0, none⟩ = some (.slice gF1 el.length kF1) := X.out.cell 7 0 rfl rfl
            have c71 : w18.cell? ⟨b7, 1, none⟩ = some (.slice gF2 er.length kF2) := X.out.cell 7 1 rfl rfl
            have c72 : w18.cell? ⟨b7, 2, none⟩ = some (.slice gF3 ep.length kF3) := X.out.cell 7 2 rfl rfl
            go_wp2_with fail
            clear c00 c01 c02 c10 c11 c20 c21 c22 c30 c31 c32 c40 c41 c42 c50 c51 c52 c60 c61 c62 c70 c71 c72
            go_at_call 36
            refine (iFindRow_any _ el er ep row _ _ CE.out (Nat.le_refl _)).mono ?_
            rintro e w19 ⟨rfl, hb⟩
            rw [HRZ.out]
            have X := hide (X.out.up hb)
            have CD := hide (CD.out.below hb)
            have CE := hide (CE.out.below hb)
            have N14 := hide hb.size
            clear hb
            have c00 : w19.cell? ⟨b0, 0, none⟩ = some (.slice a1 l.length c1) := X.out.cell 0 0 rfl rfl
            have c01 : w19.cell? ⟨b0, 1, none⟩ = some (.slice a2 r.length c2) := X.out.cell 0 1 rfl rfl
            have c02 : w19.cell? ⟨b0, 2, none⟩ = some (.slice a3 ps.length c3) := X.out.cell 0 2 rfl rfl
            have c10 : w19.cell? ⟨b0 + 1, 0, none⟩ = some (.int .i64 f) := X.out.cell 1 0 rfl rfl
            have c11 : w19.cell? ⟨b0 + 1, 1, none⟩ = some (.int .i64 t) := X.out.cell 1 1 rfl rfl
            have c20 : w19.cell? ⟨b2, 0, none⟩ = some (.slice gX1 nl.length kX1) := X.out.cell 2 0 rfl rfl
            have c21 : w19.cell? ⟨b2, 1, none⟩ = some (.slice gX2 nr.length kX2) := X.out.cell 2 1 rfl rfl
            have c22 : w19.cell? ⟨b2, 2, none⟩ = some (.slice gX3 np.length kX3) := X.out.cell 2 2 rfl rfl
            have c30 : w19.cell? ⟨b3, 0, none⟩ = some (.slice gY1 nl.length kY1) := X.out.cell 3 0 rfl rfl
            have c31 : w19.cell? ⟨b3, 1, none⟩ = some (.slice gY2 nr.length kY2) := X.out.cell 3 1 rfl rfl
            have c32 : w19.cell? ⟨b3, 2, none⟩ = some (.slice gY3 np.length kY3) := X.out.cell 3 2 rfl rfl
            have c40 : w19.cell? ⟨b4, 0, none⟩ = some (.slice gZ1 zl.length kZ1) := X.out.cell 4 0 rfl rfl
            have c41 : w19.cell? ⟨b4, 1, none⟩ = some (.slice gZ2 zr.length kZ2) := X.out.cell 4 1 rfl rfl
            have c42 : w19.cell? ⟨b4, 2, none⟩ = some (.slice gZ3 ps.length kZ3) := X.out.cell 4 2 rfl rfl
            have c50 : w19.cell? ⟨b5, 0, none⟩ = some (.slice d1 dl.length m1) := X.out.cell 5 0 rfl rfl
            have c51 : w19.cell? ⟨b5, 1, none⟩ = some (.slice d2 dr.length m2) := X.out.cell 5 1 rfl rfl
            have c52 : w19.cell? ⟨b5, 2, none⟩ = some (.slice d3 dp.length m3) := X.out.cell 5 2 rfl rfl
            have c60 : w19.cell? ⟨b6, 0, none⟩ = some (.slice gE1 el.length kE1) := X.out.cell 6 0 rfl rfl
            have c61 : w19.cell? ⟨b6, 1, none⟩ = some (.slice gE2 er.length kE2) := X.out.cell 6 1 rfl rfl
            have c62 : w19.cell? ⟨b6, 2, none⟩ = some (.slice gE3 ep.length kE3) := X.out.cell 6 2 rfl rfl
            have c70 : w19.cell? ⟨b7, 0, none⟩ = some (.slice gF1 el.length kF1) := X.out.cell 7 0 rfl rfl
            have c71 : w19.cell? ⟨b7, 1, none⟩ = some (.slice gF2 er.length kF2) := X.out.cell 7 1 rfl rfl
            have c72 : w19.cell? ⟨b7, 2, none⟩ = some (.slice gF3 ep.length kF3) := X.out.cell 7 2 rfl rfl
            go_wp2_with fail
            clear c00 c01 c02 c10 c11 c20 c21 c22 c30 c31 c32 c40 c41 c42 c50 c51 c52 c60 c61 c62 c70 c71 c72
            go_ret
            exact ⟨rfl, X.out.below⟩

end Go.Proofs.Ytajfhalalnlejaa
