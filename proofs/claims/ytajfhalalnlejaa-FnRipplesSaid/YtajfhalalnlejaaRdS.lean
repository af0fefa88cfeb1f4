/- What RippleDelete of the reference returns (promise 7). Written by gen_rd.py. -/
import Derived.Test.YtajfhalalnlejaaRpB
import Derived.Test.YtajfhalalnlejaaFr
import Derived.Test.YtajfhalalnlejaaCkT
import Derived.Test.YtajfhalalnlejaaCpI
namespace Go.Proofs.Ytajfhalalnlejaa
open Go.RowKit Go.ChangeShapes
set_option linter.unusedSimpArgs false
set_option linter.unusedVariables false
set_option maxRecDepth 100000

set_option maxHeartbeats 8000000 in
theorem sRd_any (u : Value) (l r : List Int) (ps : List Pv) (row : Int) (w : World) (hv : Ck w w.heap.size u l r ps) (hl : l.length ≤ 1048576) (hr : r.length ≤ 1048576) (hp : ps.length ≤ 1048576) (wl : ∀ x ∈ l, I64 x) (wr : ∀ x ∈ r, I64 x) (wp : ∀ p ∈ ps, I64 p.1 ∧ I64 p.2) (hir : I64 row) :
    Calls Try.prog 34 #[u, .int .i64 row] w (RetRi w (rdL l r ps row) (rdR l r ps row) (rdP l r ps row) (rdN l r ps row) (rdOk l r ps row)) := by
  obtain ⟨a1, c1, a2, c2, a3, c3, rfl, i1, -⟩ := hv.form
  have X := hide (Kn.two w #[.slice a1 l.length c1, .slice a2 r.length c2, .slice a3 ps.length c3] #[.slice none 0 0, .slice none 0 0, .slice none 0 0] 27 27)
  obtain ⟨w1, hw1⟩ : ∃ w1, w1 = (w.alloc (.cells #[.slice a1 l.length c1, .slice a2 r.length c2, .slice a3 ps.length c3] 27)).alloc (.cells #[.slice none 0 0, .slice none 0 0, .slice none 0 0] 27) := ⟨_, rfl⟩
  rw [← hw1] at X
  have V := hide (fun (W : World) (h : Below w.heap.size w W) => (hv.below h (Nat.le_refl _)).mono h.size)
  have I1 := hide (fun (W : World) (h : Below w.heap.size w W) => i1.below h (Nat.le_refl _))
  clear hv i1
  have CC := hide (fun (W : World) (h : Below w.heap.size w W) => sCopy_any _ l r ps W W.heap.size (V.out W h) (Nat.le_refl _) hl hr hp)
  obtain ⟨qc, hqc⟩ : ∃ q, q = isCk l r ps := ⟨_, rfl⟩
  obtain ⟨qr, hqr⟩ : ∃ q, q = rowAt r row := ⟨_, rfl⟩
  have HCK := hide (fun (W : World) (h : Below w.heap.size w W) => show Calls Try.prog 35 #[.agg #[.slice a1 l.length c1, .slice a2 r.length c2, .slice a3 ps.length c3]] W (RetB1 W qc) by rw [hqc]; exact sIsCk_any _ l r ps W W.heap.size (V.out W h) (Nat.le_refl _))
  have HCF := hide (fun (W : World) (h : Below w.heap.size w W) => show Calls Try.prog 65 #[.agg #[.slice a1 l.length c1, .slice a2 r.length c2, .slice a3 ps.length c3], .int .i64 row] W (RetI1 W qr) by rw [hqr]; exact sFindRow_any _ l r ps row W W.heap.size (V.out W h) (Nat.le_refl _))
  obtain ⟨LL, hLL⟩ : ∃ q, q = rdL l r ps row := ⟨_, rfl⟩
  obtain ⟨RR, hRR⟩ : ∃ q, q = rdR l r ps row := ⟨_, rfl⟩
  obtain ⟨PP, hPP⟩ : ∃ q, q = rdP l r ps row := ⟨_, rfl⟩
  obtain ⟨NN, hNN⟩ : ∃ q, q = rdN l r ps row := ⟨_, rfl⟩
  obtain ⟨BB, hBB⟩ : ∃ q, q = rdOk l r ps row := ⟨_, rfl⟩
  have NO := hide (fun (h : ¬(qc = true ∧ 0 ≤ qr)) => show LL = l ∧ RR = r ∧ PP = ps ∧ NN = 0 ∧ BB = false by
    have e : rdOk l r ps row = false := by
      cases hb : rdOk l r ps row with
      | false => rfl
      | true =>
        unfold rdOk at hb
        simp only [Bool.and_eq_true, decide_eq_true_eq, ← hqc, ← hqr] at hb
        exact absurd ⟨hb.1, hb.2⟩ h
    rw [hLL, hRR, hPP, hNN, hBB, e]
    unfold rdL rdR rdP rdN
    rw [e]
    exact ⟨rfl, rfl, rfl, rfl, rfl⟩)
  obtain ⟨T, hT⟩ : ∃ q, q = rdF l r ps row := ⟨_, rfl⟩
  obtain ⟨ix, hix⟩ : ∃ q, q = idxL r row := ⟨_, rfl⟩
  obtain ⟨v, hv⟩ : ∃ q, q = l.getD ix 0 := ⟨_, rfl⟩
  have YES := hide (fun (h1 : qc = true) (h3 : 0 ≤ qr) => show LL = T.l.take (l.length - 1) ∧ RR = T.r.take (l.length - 1) ∧ PP = T.ps ∧ NN = T.n ∧ BB = true ∧ qr = (ix : Int) ∧ ix < l.length ∧ r.length = l.length by
    have e : rdOk l r ps row = true := by
      unfold rdOk
      simp only [Bool.and_eq_true, decide_eq_true_eq, ← hqc, ← hqr]
      exact ⟨h1, h3⟩
    have hrl := (isCk_parts (hqc ▸ h1)).2.1
    have hy := rowAt_yes (hqr ▸ h3)
    rw [hLL, hRR, hPP, hNN, hBB, e, hT]
    unfold rdL rdR rdP rdN
    rw [e]
    exact ⟨rfl, rfl, rfl, rfl, rfl, by rw [hqr, hix]; exact hy.1, by rw [hix, ← hrl]; exact hy.2, hrl⟩)
  have ST := hide (fun (h1 : qc = true) (h3 : 0 ≤ qr) => show (⟨l, r, ps, ix, 0⟩ : RP).OkD v l.length ps.length 0 by rw [hv, hix]; exact rd_start (hqc ▸ h1) (hqr ▸ h3) hl wl wr wp)
  rw [← hLL, ← hRR, ← hPP, ← hNN, ← hBB]
  have HT := hide (show (RP.downs v ps.length 0 ⟨l, r, ps, ix, 0⟩).fill (l.length - 1) = T by rw [hT, hv, hix]; rfl)
  have HL := hide (And.intro hl (And.intro hr hp))
  have HV := hide hv
  clear hqc hqr hLL hRR hPP hNN hBB hT hir hl hr hp wl wr wp hix hv
  go_enter Try.func34, Try.ntmps34
  go_wp2_with fail
  rw [← hw1]
  clear hw1
  have KA := hide (fun (W : World) (h : Kn w W [(w.heap.size, #[.slice a1 l.length c1, .slice a2 r.length c2, .slice a3 ps.length c3], 27), (w.heap.size + 1, #[.slice none 0 0, .slice none 0 0, .slice none 0 0], 27)]) => show W.cell? ⟨w.heap.size, 0, none⟩ = some (.slice a1 l.length c1) ∧ W.cell? ⟨w.heap.size, 1, none⟩ = some (.slice a2 r.length c2) ∧ W.cell? ⟨w.heap.size, 2, none⟩ = some (.slice a3 ps.length c3) ∧ W.cell? ⟨w.heap.size + 1, 0, none⟩ = some (.slice none 0 0) ∧ W.cell? ⟨w.heap.size + 1, 1, none⟩ = some (.slice none 0 0) ∧ W.cell? ⟨w.heap.size + 1, 2, none⟩ = some (.slice none 0 0) ∧ W.frozen? ⟨w.heap.size + 1, 0, none⟩ = false ∧ W.frozen? ⟨w.heap.size + 1, 1, none⟩ = false ∧ W.frozen? ⟨w.heap.size + 1, 2, none⟩ = false from ⟨h.cell 0 0 rfl rfl, h.cell 0 1 rfl rfl, h.cell 0 2 rfl rfl, h.cell 1 0 rfl rfl, h.cell 1 1 rfl rfl, h.cell 1 2 rfl rfl, h.free 1 0 rfl, h.free 1 1 rfl, h.free 1 2 rfl⟩)
  obtain ⟨c00, c01, c02, c10, c11, c12, f10, f11, f12⟩ := KA.out _ X.out
  go_wp2_with fail
  go_at_call 65
  refine (HCF.out _ X.out.below).mono ?_
  rintro e w2 ⟨rfl, hb⟩
  have X := hide (X.out.up hb)
  clear hb
  clear c00 c01 c02 c10 c11 c12 f10 f11 f12
  obtain ⟨c00, c01, c02, c10, c11, c12, f10, f11, f12⟩ := KA.out _ X.out
  go_wp2_with fail
  go_at_call 35
  refine (HCK.out _ X.out.below).mono ?_
  rintro e w3 ⟨rfl, hb⟩
  have X := hide (X.out.up hb)
  clear hb
  clear c00 c01 c02 c10 c11 c12 f10 f11 f12
  cases qc with
  | false =>
    obtain ⟨rfl, rfl, rfl, rfl, rfl⟩ := NO.out (by simp; try omega)
    clear YES ST HT
    obtain ⟨c00, c01, c02, c10, c11, c12, f10, f11, f12⟩ := KA.out _ X.out
    go_wp2_with fail
    clear c00 c01 c02 c10 c11 c12 f10 f11 f12
    go_at_call 66
    refine (CC.out _ X.out.below).mono ?_
    rintro e wq ⟨x', y', z', lo, hi, n1, h1, n2, h2, n3, h3, rfl, q1, q2, O, hb⟩
    obtain ⟨g1, k1, rfl⟩ := O.x.form
    obtain ⟨g2, k2, rfl⟩ := O.y.form
    obtain ⟨g3, k3, rfl⟩ := O.z.own.form
    have Q1 := hide (show w.heap.size + 1 < lo by have := X.out.lt 1 rfl; omega)
    have X := hide (X.out.up hb)
    have O := hide O
    clear hb q1 q2
    obtain ⟨c00, c01, c02, c10, c11, c12, f10, f11, f12⟩ := KA.out _ X.out
    go_wp2_with fail
    clear c00 c01 c02 c10 c11 c12 f10 f11 f12
    have q1 := Q1.out
    have Z := ((X.out.set 1 0 rfl (.slice g1 LL.length k1)).set 1 1 rfl (.slice g2 RR.length k2)).set 1 2 rfl (.slice g3 PP.length k3)
    have z0 := Z.cell 1 0 rfl rfl
    have z1 := Z.cell 1 1 rfl rfl
    have z2 := Z.cell 1 2 rfl rfl
    have O6 := (O.out).seg (seg3 _ (w.heap.size + 1) (.slice g1 LL.length k1) (.slice g2 RR.length k2) (.slice g3 PP.length k3)) (.inr (by omega))
    exact bodyPost_ret (v := .tuple #[.agg #[.slice g1 LL.length k1, .slice g2 RR.length k2, .slice g3 PP.length k3], .int .i64 0, .bool false]) (by simp [results, Try.results34, go_sem, z0, z1, z2]) rfl
      ⟨_, _, _, _, _, _, _, _, _, _, _, rfl, by omega, O6.top.2, O6, Z.below⟩
  | true =>
    by_cases h0 : 0 ≤ qr
    case neg =>
      have t1 : decide (qr < 0) = true := decide_eq_true (by omega)
      obtain ⟨rfl, rfl, rfl, rfl, rfl⟩ := NO.out (by simp; try omega)
      clear YES ST HT
      obtain ⟨c00, c01, c02, c10, c11, c12, f10, f11, f12⟩ := KA.out _ X.out
      go_wp2_with fail
      clear c00 c01 c02 c10 c11 c12 f10 f11 f12
      go_at_call 66
      refine (CC.out _ X.out.below).mono ?_
      rintro e wq ⟨x', y', z', lo, hi, n1, h1, n2, h2, n3, h3, rfl, q1, q2, O, hb⟩
      obtain ⟨g1, k1, rfl⟩ := O.x.form
      obtain ⟨g2, k2, rfl⟩ := O.y.form
      obtain ⟨g3, k3, rfl⟩ := O.z.own.form
      have Q1 := hide (show w.heap.size + 1 < lo by have := X.out.lt 1 rfl; omega)
      have X := hide (X.out.up hb)
      have O := hide O
      clear hb q1 q2
      obtain ⟨c00, c01, c02, c10, c11, c12, f10, f11, f12⟩ := KA.out _ X.out
      go_wp2_with fail
      clear c00 c01 c02 c10 c11 c12 f10 f11 f12
      have q1 := Q1.out
      have Z := ((X.out.set 1 0 rfl (.slice g1 LL.length k1)).set 1 1 rfl (.slice g2 RR.length k2)).set 1 2 rfl (.slice g3 PP.length k3)
      have z0 := Z.cell 1 0 rfl rfl
      have z1 := Z.cell 1 1 rfl rfl
      have z2 := Z.cell 1 2 rfl rfl
      have O6 := (O.out).seg (seg3 _ (w.heap.size + 1) (.slice g1 LL.length k1) (.slice g2 RR.length k2) (.slice g3 PP.length k3)) (.inr (by omega))
      exact bodyPost_ret (v := .tuple #[.agg #[.slice g1 LL.length k1, .slice g2 RR.length k2, .slice g3 PP.length k3], .int .i64 0, .bool false]) (by simp [results, Try.results34, go_sem, z0, z1, z2]) rfl
        ⟨_, _, _, _, _, _, _, _, _, _, _, rfl, by omega, O6.top.2, O6, Z.below⟩
    have t1 : decide (qr < 0) = false := decide_eq_false (by omega)
    have hy := YES.out (by simp) h0
    have hst := hide (ST.out (by simp) h0)
    obtain ⟨rfl, rfl, rfl, rfl, rfl, rfl, hixl, hrl⟩ := hy
    have HRL := hide hrl
    have HIX := hide hixl
    clear NO YES ST HCK HCF hrl hixl
    obtain ⟨c00, c01, c02, c10, c11, c12, f10, f11, f12⟩ := KA.out _ X.out
    go_wp2_with fail
    clear c00 c01 c02 c10 c11 c12 f10 f11 f12
    clear t1 h0
    go_at_call 66
    refine (CC.out _ X.out.below).mono ?_
    rintro e w5 ⟨x', y', z', lo, hi, n1, h1, n2, h2, n3, h3, rfl, q1, q2, O, hb⟩
    obtain ⟨g1, k1, rfl⟩ := O.x.form
    obtain ⟨g2, k2, rfl⟩ := O.y.form
    obtain ⟨g3, k3, rfl⟩ := O.z.own.form
    have Q1 := hide (show w.heap.size + 1 < lo by have := X.out.lt 1 rfl; omega)
    have X := hide (X.out.up hb)
    have QL := hide (O.low)
    have O := hide (O.o3 ix 0)
    clear hb q1 q2 CC
    obtain ⟨m, hm⟩ : ∃ m, m = w5.heap.size := ⟨_, rfl⟩
    obtain ⟨w6, hw6⟩ : ∃ w6, w6 = w5.alloc (.cells #[.slice g1 l.length k1, .slice g2 r.length k2, .slice g3 ps.length k3] 27) := ⟨_, rfl⟩
    have HN := hide (show w.heap.size + 1 < n1 ∧ w.heap.size + 1 < n2 ∧ w.heap.size + 1 < n3 ∧ h1 ≤ m ∧ h2 ≤ m ∧ h3 ≤ m ∧ w.heap.size + 1 < m by
      have q0 : w.heap.size + 1 < w5.heap.size := X.out.lt 1 rfl
      have q1 := Q1.out
      have q2 := QL.out
      have q3 := O.out.x.top
      have q4 := O.out.y.top
      have q5 := O.out.z.top
      rw [hm]
      omega)
    have O := hide (O.out.below (below1 w5 (.cells #[.slice g1 l.length k1, .slice g2 r.length k2, .slice g3 ps.length k3] 27)))
    have X := hide (X.out.alloc #[.slice g1 l.length k1, .slice g2 r.length k2, .slice g3 ps.length k3] 27)
    rw [← hw6] at O X
    rw [← hm] at X
    simp only [List.cons_append, List.nil_append] at X
    clear Q1 QL
    obtain ⟨b1', c1', e1, -, -, hcell⟩ := I1.out _ X.out.below
    obtain ⟨rfl, rfl⟩ : a1 = b1' ∧ c1 = c1' := by
      simp only [Value.slice.injEq] at e1
      exact ⟨e1.1, e1.2.2⟩
    have hixl := HIX.out
    obtain ⟨bb, oo, rfl, hbB, hc⟩ := hcell ix HIX.out
    have hc : w6.cell? ⟨bb, oo + ix, none⟩ = some (.int .i64 v) := by rw [hc, HV.out, List.getD_eq_getElem?_getD, List.getElem?_eq_getElem HIX.out]; rfl
    have d0 : w6.cell? ⟨w.heap.size, 0, none⟩ = some (.slice (some ⟨bb, oo, none⟩) l.length c1) := X.out.cell 0 0 rfl rfl
    have d2 : w6.cell? ⟨m, 2, none⟩ = some (.slice g3 ps.length k3) := X.out.cell 2 2 rfl rfl
    rw [hw6] at d0 d2 hc
    clear e1 hcell hbB
    go_wp2_with fail
    rw [← hw6]
    try rw [← hm]
    clear hw6 hm d0 d2 hc hixl
    have HTT := hide (show Hid ((RP.downs v ps.length 0 ⟨l, r, ps, ix, 0⟩).fill (l.length - 1) = T) from HT)
    clear HT
    go_loopw [7, 10, 11] (fun q7 q10 q11 wr => ∃ (k j : Nat) (S : RP), k + j = ps.length ∧ q7 = .int .i64 (S.h : Int) ∧ q10 = .int .i64 (S.n : Int) ∧ q11 = .int .i64 (k : Int) ∧ Hid (S.n ≤ k) ∧ Hid (S.OkD v l.length ps.length k) ∧ Hid ((RP.downs v j k S).fill (l.length - 1) = T) ∧ Hid (Kn w wr [(w.heap.size, #[.slice (some ⟨bb, oo, none⟩) l.length c1, .slice a2 r.length c2, .slice a3 ps.length c3], 27), (w.heap.size + 1, #[.slice none 0 0, .slice none 0 0, .slice none 0 0], 27), (m, #[.slice g1 l.length k1, .slice g2 r.length k2, .slice g3 ps.length k3], 27)]) ∧ Hid (O3 wr (.slice g1 l.length k1) (.slice g2 r.length k2) (.slice g3 ps.length k3) S n1 h1 n2 h2 n3 h3)) (fun _ _ i _ => ps.length - (intOf i).toNat)
    case atStart => exact ⟨0, ps.length, ⟨l, r, ps, ix, 0⟩, by omega, rfl, rfl, rfl, Nat.le_refl _, hst.out, HTT.out, X.out, O.out⟩
    case round =>
      clear X O hst HTT
      obtain ⟨k, j, S, hkj, rfl, rfl, rfl, HNK, OK, HT, X, O⟩ := hrel
      have HKJ := hide hkj
      have hkb : (k : Int) ≤ 1048576 := by have := HL.out; omega
      have e20 : wr.cell? ⟨m, 2, none⟩ = some (.slice g3 ps.length k3) := X.out.cell 2 2 rfl rfl
      cases j with
      | zero =>
        have hkl : decide ((k : Int) < (ps.length : Int)) = false := decide_eq_false (by omega)
        have hkl2 : decide (k < ps.length) = false := decide_eq_false (by omega)
        have hlen0 : 1 ≤ l.length := by have := HIX.out; omega
        obtain ⟨a, ha⟩ : ∃ a, a = l.length - 1 := ⟨_, rfl⟩
        have hal := hide (show a < l.length by omega)
        have HTZ := hide (show S.fill a = T by rw [ha]; exact HT.out)
        have HA1 := hide (show a + 1 = l.length by omega)
        have ea : (l.length : Int) - 1 = (a : Int) := by omega
        have e00 : wr.cell? ⟨m, 0, none⟩ = some (.slice g1 l.length k1) := X.out.cell 2 0 rfl rfl
        obtain ⟨S2, hS2⟩ : ∃ q, q = S.fill a := ⟨_, rfl⟩
        have hps := hide (show S2.ps = S.ps by rw [hS2]; exact RP.fill_ps _ _)
        have hhh := hide (show S2.h = a by rw [hS2]; exact RP.fill_h _ _)
        have hnn := hide (show S2.n ≤ S.n + 1 ∧ S.n ≤ S2.n by rw [hS2]; unfold RP.fill; split <;> simp)
        have OK2 := hide (show S2.Ok l.length ps.length 0 by rw [hS2]; exact OK.out.ok.fill hal.out)
        obtain ⟨dd, hdd⟩ : ∃ q : Int, q = (S2.n : Int) - S.n := ⟨_, rfl⟩
        have CM := hide (fun (W : World) (h1' : Kn w W [(w.heap.size, #[.slice (some ⟨bb, oo, none⟩) l.length c1, .slice a2 r.length c2, .slice a3 ps.length c3], 27), (w.heap.size + 1, #[.slice none 0 0, .slice none 0 0, .slice none 0 0], 27), (m, #[.slice g1 l.length k1, .slice g2 r.length k2, .slice g3 ps.length k3], 27)]) (h2' : O3 W (.slice g1 l.length k1) (.slice g2 r.length k2) (.slice g3 ps.length k3) S n1 h1 n2 h2 n3 h3) => show Calls Try.prog 67 #[.pointer (some ⟨m, 0, none⟩), .int .i64 ((l.length : Int) - 1), .int .i64 S.h] W (RetMv W (.slice g1 l.length k1) (.slice g2 r.length k2) (.slice g3 ps.length k3) n1 h1 n2 h2 n3 h3 S2 dd) by
          rw [hdd, hS2, ea]
          exact sMove_oc m _ _ _ S a l.length ps.length 0 n1 h1 n2 h2 n3 h3 W h2' (h1'.mem 2 rfl) (by have := HN.out; unfold P3; omega) OK.out.ok hal.out)
        have hd0 : 0 ≤ dd := by have := hnn.out; omega
        have hd1 : dd ≤ 1 := by have := hnn.out; omega
        have hsn : (S.n : Int) ≤ 1048576 := by have := HNK.out; have := HL.out; omega
        have hll : (l.length : Int) ≤ 1048576 := by have := HL.out; omega
        have hl1 : (1 : Int) ≤ (l.length : Int) := by omega
        have HDD := hide hdd
        have H22 := hide hS2
        have EA := hide ea
        clear hdd hS2 ha hkj ea
        go_wp2_with fail
        clear e00 e20 hkl hkl2
        go_at_call 67
        refine (CM.out _ X.out O.out).mono ?_
        rintro e w12 ⟨rfl, O2, T2⟩
        have O2 := hide O2
        have X2 := hide (X.out.trn T2 (fun b hb => by have := HN.out; unfold P3 at hb; omega) (by intro e he; have := HN.out; unfold P3; simp at he; rcases he with rfl | rfl | rfl <;> simp <;> omega))
        clear X O T2 CM
        skip
        have HT2 := hide (show S2 = T by rw [H22.out]; exact HTZ.out)
        have htn : ((l.length : Int) - 1).toNat = a := by have := EA.out; omega
        have hge : (0 : Int) ≤ (l.length : Int) - 1 := by omega
        obtain ⟨gx, e1, -, x1, x2, -⟩ := O2.out.x.at (by have := OK2.out.l; omega)
        obtain ⟨gy, e2, -, y1, y2, -⟩ := O2.out.y.at (by have := OK2.out.r; omega)
        have E1 := hide e1
        have E2 := hide e2
        obtain ⟨cpx, cpy⟩ : l.length ≤ k1 ∧ r.length ≤ k2 := by
          obtain ⟨_, _, _, q1, q2, _⟩ := Ow.cap O2.out.x
          obtain ⟨_, _, _, q3, q4, _⟩ := Ow.cap O2.out.y
          simp only [Value.slice.injEq] at q1 q3
          omega
        have hkx : (l.length : Int) - 1 ≤ (k1 : Int) := by omega
        have hky : (l.length : Int) - 1 ≤ (k2 : Int) := by have := HRL.out; omega
        have hryl : (r.length : Int) - 1 = (l.length : Int) - 1 := by have := HRL.out; omega
        have HRY := hide hryl
        have d0 : w12.cell? ⟨m, 0, none⟩ = some (.slice (some ⟨gx, 0, none⟩) l.length k1) := by rw [← e1]; exact X2.out.cell 2 0 rfl rfl
        have d1 : w12.cell? ⟨m, 1, none⟩ = some (.slice (some ⟨gy, 0, none⟩) r.length k2) := by rw [← e2]; exact X2.out.cell 2 1 rfl rfl
        have d2 : w12.cell? ⟨m, 2, none⟩ = some (.slice g3 ps.length k3) := X2.out.cell 2 2 rfl rfl
        have f0 : w12.frozen? ⟨m, 0, none⟩ = false := X2.out.free 2 0 rfl
        have f1 : w12.frozen? ⟨m, 1, none⟩ = false := X2.out.free 2 1 rfl
        have v0 : w12.cell? ⟨w.heap.size + 1, 0, none⟩ = some (.slice none 0 0) := X2.out.cell 1 0 rfl rfl
        have v1 : w12.cell? ⟨w.heap.size + 1, 1, none⟩ = some (.slice none 0 0) := X2.out.cell 1 1 rfl rfl
        have v2 : w12.cell? ⟨w.heap.size + 1, 2, none⟩ = some (.slice none 0 0) := X2.out.cell 1 2 rfl rfl
        have v3 : w12.frozen? ⟨w.heap.size + 1, 0, none⟩ = false := X2.out.free 1 0 rfl
        have v4 : w12.frozen? ⟨w.heap.size + 1, 1, none⟩ = false := X2.out.free 1 1 rfl
        have v5 : w12.frozen? ⟨w.heap.size + 1, 2, none⟩ = false := X2.out.free 1 2 rfl
        have nm1 : m ≠ w.heap.size + 1 := by have := HN.out; omega
        have nm2 : w.heap.size + 1 ≠ m := by have := HN.out; omega
        have hrb : (r.length : Int) ≤ 1048576 := by have := HL.out; omega
        have hr1 : (1 : Int) ≤ (r.length : Int) := by have := HRL.out; omega
        have hkr : (r.length : Int) - 1 ≤ (k2 : Int) := by omega
        have hrn : ((r.length : Int) - 1).toNat = a := by have := EA.out; omega
        have hgr : (0 : Int) ≤ (r.length : Int) - 1 := by omega
        clear e1 e2 x1 x2 y1 y2 hryl
        go_wp2_with fail
        skip
        have X3 := hide ((X2.out.set 2 0 rfl (.slice (some ⟨gx, 0, none⟩) a k1)).set 2 1 rfl (.slice (some ⟨gy, 0, none⟩) a k2))
        have O3' := O2.out
        rw [E1.out, E2.out, HT2.out] at O3'
        have OT := hide ((((O3'.takeX HA1.out).takeY (by rw [HRL.out]; exact HA1.out)).set (g := m) (by have := HN.out; unfold P3; omega) 0 (.slice (some ⟨gx, 0, none⟩) a k1)).set (g := m) (by have := HN.out; unfold P3; omega) 1 (.slice (some ⟨gy, 0, none⟩) a k2))
        have q1 := HN.out
        have hTn : (T.n : Int) = (S.n : Int) + dd := by have := HDD.out; rw [← HT2.out]; omega
        have ha9 : l.length - 1 = a := by have := HA1.out; omega
        simp only [List.set_cons_zero, List.set_cons_succ] at X3
        rw [ha9]
        have Z := ((X3.out.set 1 0 rfl (.slice (some ⟨gx, 0, none⟩) a k1)).set 1 1 rfl (.slice (some ⟨gy, 0, none⟩) a k2)).set 1 2 rfl (.slice g3 ps.length k3)
        have z0 := Z.cell 1 0 rfl rfl
        have z1 := Z.cell 1 1 rfl rfl
        have z2 := Z.cell 1 2 rfl rfl
        have O6 := (OT.out.oc (lo := w.heap.size + 1 + 1) (by omega)).seg (seg3 _ (w.heap.size + 1) (.slice (some ⟨gx, 0, none⟩) a k1) (.slice (some ⟨gy, 0, none⟩) a k2) (.slice g3 ps.length k3)) (.inr (by omega))
        exact bodyPost_ret (v := .tuple #[.agg #[.slice (some ⟨gx, 0, none⟩) a k1, .slice (some ⟨gy, 0, none⟩) a k2, .slice g3 ps.length k3], .int .i64 ((S.n : Int) + dd), .bool true]) (by simp [results, Try.results34, go_sem, z0, z1, z2]) rfl
          ⟨_, _, _, _, _, _, _, _, _, _, _, by rw [hTn], by omega, O6.top.2, O6, Z.below⟩
      | succ j =>
        clear e20
        have hkp : k < S.ps.length := by have := OK.out.p; omega
        have hkl : decide ((k : Int) < (ps.length : Int)) = true := decide_eq_true (by omega)
        have hkl2 : decide (k < ps.length) = true := decide_eq_true (by omega)
        obtain ⟨gz, e3, hn3, z1, z2, zc⟩ := O.out.z.at (by omega)
        have E3 := hide e3
        have Z12 := hide (And.intro z1 z2)
        have HN3 := hide hn3
        obtain ⟨q0, q1', fz0, fz1⟩ := zc k hkp
        obtain ⟨pv, hpv⟩ : ∃ q, q = (S.ps.getD k (0, 0)).1 := ⟨_, rfl⟩
        rw [← hpv] at q0
        have e20 : wr.cell? ⟨m, 2, none⟩ = some (.slice (some ⟨gz, 0, none⟩) ps.length k3) := by rw [← e3]; exact X.out.cell 2 2 rfl rfl
        have hkl3 : k < ps.length := by omega
        clear e3 hn3 z1 z2 zc
        by_cases hgt : pv ≤ v
        case pos =>
          have HTZ := hide (show (RP.downs v j (k + 1) S).fill (l.length - 1) = T by have h9 := HT.out; rwa [RP.downs_no (by rw [← hpv]; omega)] at h9)
          have t1 : decide (pv ≤ v) = true := decide_eq_true hgt
          clear hpv q1' hkj
          go_wp2_with fail
          go_roundw
          case rel => exact ⟨k + 1, j, S, by have := HKJ.out; omega, rfl, rfl, by go_num, by have := HNK.out; show S.n ≤ k + 1; omega, OK.out.next, HTZ.out, X.out, O.out⟩
          case measure => simp [intOf]; omega
        have hpl := OK.out.pl k (Nat.le_refl _) (by omega) (by rw [← hpv]; omega)
        obtain ⟨a, ha⟩ : ∃ a : Nat, S.pl k = (a : Int) + 1 := ⟨(S.pl k - 1).toNat, by omega⟩
        have q1 : wr.cell? ⟨gz, k * 2 + 1, none⟩ = some (.int .i64 ((a : Int) + 1)) := by rw [q1', ← ha]; rfl
        have HA := hide ha
        have hal := hide (show a < l.length by omega)
        have HU := hide (show (RP.downs v j (k + 1) (S.down k)).fill (l.length - 1) = T by have h9 := HT.out; rwa [RP.downs_yes (by rw [← hpv]; omega)] at h9)
        have OKN := hide (OK.out.down (by omega) (by rw [← hpv]; omega))
        have t1 : decide (pv ≤ v) = false := decide_eq_false hgt
        obtain ⟨S2, hS2⟩ : ∃ q, q = S.fill a := ⟨_, rfl⟩
        have hps := hide (show S2.ps = S.ps by rw [hS2]; exact RP.fill_ps _ _)
        have hhh := hide (show S2.h = a by rw [hS2]; exact RP.fill_h _ _)
        have hnn := hide (show S2.n ≤ S.n + 1 ∧ S.n ≤ S2.n by rw [hS2]; unfold RP.fill; split <;> simp)
        have OK2 := hide (show S2.Ok l.length ps.length 0 by rw [hS2]; exact OK.out.ok.fill hal.out)
        obtain ⟨dd, hdd⟩ : ∃ q : Int, q = (S2.n : Int) - S.n := ⟨_, rfl⟩
        have hup := hide (show S.down k = S2.at k (a : Int) by
          unfold RP.down
          rw [HA.out, hS2, show ((a : Int) + 1 - 1) = (a : Int) by omega]
          simp)
        have hxa : wrap64 ((a : Int) + 1 - 1) = (a : Int) := by rw [IntWalk.wrap64_in _ (by have := hal.out; have := HL.out; omega)]; omega
        have hab : (a : Int) + 1 - 1 = (a : Int) := by omega
        have CM := hide (fun (W : World) (h1' : Kn w W [(w.heap.size, #[.slice (some ⟨bb, oo, none⟩) l.length c1, .slice a2 r.length c2, .slice a3 ps.length c3], 27), (w.heap.size + 1, #[.slice none 0 0, .slice none 0 0, .slice none 0 0], 27), (m, #[.slice g1 l.length k1, .slice g2 r.length k2, .slice g3 ps.length k3], 27)]) (h2' : O3 W (.slice g1 l.length k1) (.slice g2 r.length k2) (.slice g3 ps.length k3) S n1 h1 n2 h2 n3 h3) => show Calls Try.prog 67 #[.pointer (some ⟨m, 0, none⟩), .int .i64 (a : Int), .int .i64 S.h] W (RetMv W (.slice g1 l.length k1) (.slice g2 r.length k2) (.slice g3 ps.length k3) n1 h1 n2 h2 n3 h3 S2 dd) by
          rw [hdd, hS2]
          exact sMove_oc m _ _ _ S a l.length ps.length 0 n1 h1 n2 h2 n3 h3 W h2' (h1'.mem 2 rfl) (by have := HN.out; unfold P3; omega) OK.out.ok hal.out)
        have hd0 : 0 ≤ dd := by have := hnn.out; omega
        have hd1 : dd ≤ 1 := by have := hnn.out; omega
        have hsn : (S.n : Int) ≤ 1048576 := by have := HNK.out; have := HL.out; omega
        have ha2 : (a : Int) ≤ 1048576 := by have := hal.out; have := HL.out; omega
        have HDD := hide hdd
        have HKP := hide hkp
        have HKL := hide hkl3
        clear hdd hS2 ha hkj hpv hgt hpl q1' hkp
        go_wp2_with fail
        clear e20 q0 q1 fz0 fz1 t1 hkl hkl2 hxa hab
        go_at_call 67
        refine (CM.out _ X.out O.out).mono ?_
        rintro e w12 ⟨rfl, O2, T2⟩
        have O2 := hide O2
        have X2 := hide (X.out.trn T2 (fun b hb => by have := HN.out; unfold P3 at hb; omega) (by intro e he; have := HN.out; unfold P3; simp at he; rcases he with rfl | rfl | rfl <;> simp <;> omega))
        clear X O T2 CM
        skip
        have e20 : w12.cell? ⟨m, 2, none⟩ = some (.slice (some ⟨gz, 0, none⟩) ps.length k3) := by rw [← E3.out]; exact X2.out.cell 2 2 rfl rfl
        have OZ := O2.out
        rw [E3.out] at OZ
        have hk2 : k < S2.ps.length := by rw [hps.out]; exact HKP.out
        obtain ⟨gz', e4, -, -, -, zc⟩ := OZ.z.at (by omega)
        obtain rfl : gz = gz' := by injection e4 with e4; injection e4
        obtain ⟨-, q1', -, fz1⟩ := zc k hk2
        obtain ⟨y9, hy9⟩ : ∃ q, q = (S2.ps.getD k (0, 0)).2 := ⟨_, rfl⟩
        rw [← hy9] at q1'
        clear hy9 zc e4
        have O3' := hide (OZ.putZ (by rw [hps.out]; exact HN3.out) Z12.out.1 Z12.out.2 k (a : Int) hk2)
        have T3 := (Trn.refl (P3 n1 h1 n2 h2 n3 h3) w12).setCell (.inr (.inr Z12.out)) (k * 2 + 1) (.int .i64 (a : Int))
        have X3 := hide (X2.out.trn T3 (fun b hb => by have := HN.out; unfold P3 at hb; omega) (by intro e he; have := HN.out; unfold P3; simp at he; rcases he with rfl | rfl | rfl <;> simp <;> omega))
        clear T3 OZ O2 hk2
        go_wp2_with fail
        go_roundw
        case rel =>
          refine ⟨k + 1, j, S2.at k (a : Int), by have := HKJ.out; omega, ?_, ?_, by go_num, ?_, ?_, ?_, ?_, ?_⟩
          · show _ = Value.int .i64 (S2.h : Int); rw [hhh.out]
          · show _ = Value.int .i64 (S2.n : Int); have := HDD.out; congr 1; omega
          · show S2.n ≤ k + 1; have := hnn.out; have := HNK.out; omega
          · show RP.OkD _ _ _ _ _; rw [← hup.out]; exact OKN.out
          · show (RP.downs v j (k + 1) (S2.at k (a : Int))).fill (l.length - 1) = T; rw [← hup.out]; exact HU.out
          · exact X3.out
          · show O3 _ _ _ _ _ _ _ _ _ _ _; rw [E3.out]; exact O3'.out
        case measure => simp [intOf]; omega

end Go.Proofs.Ytajfhalalnlejaa
