/- What RippleDelete of the program returns (promise 7). Written by gen_rdi.py. -/
import Derived.Test.YtajfhalalnlejaaRpB
import Derived.Test.YtajfhalalnlejaaFr
import Derived.Test.YtajfhalalnlejaaCkQ
import Derived.Test.YtajfhalalnlejaaRpF
import Derived.Test.YtajfhalalnlejaaKv
import Derived.Test.YtajfhalalnlejaaCpI
namespace Go.Proofs.Ytajfhalalnlejaa
open Go.RowKit Go.ChangeShapes
set_option linter.unusedSimpArgs false
set_option linter.unusedVariables false
set_option maxRecDepth 100000

set_option maxHeartbeats 8000000 in
theorem iRd_any (u : Value) (l r : List Int) (ps : List Pv) (row : Int) (w : World) (hv : Ck w w.heap.size u l r ps) (hl : l.length ≤ 1048576) (hr : r.length ≤ 1048576) (hp : ps.length ≤ 1048576) (wl : ∀ x ∈ l, I64 x) (wr : ∀ x ∈ r, I64 x) (wp : ∀ p ∈ ps, I64 p.1 ∧ I64 p.2) (hir : I64 row) :
    Calls Try.prog 29 #[u, .int .i64 row] w (RetRi w (rdL l r ps row) (rdR l r ps row) (rdP l r ps row) (rdN l r ps row) (rdOk l r ps row)) := by
  obtain ⟨a1, c1, a2, c2, a3, c3, rfl, i1, -⟩ := hv.form
  have X := hide (Kn.two w #[.slice a1 l.length c1, .slice a2 r.length c2, .slice a3 ps.length c3] #[.slice none 0 0, .slice none 0 0, .slice none 0 0] 27 27)
  obtain ⟨w1, hw1⟩ : ∃ w1, w1 = (w.alloc (.cells #[.slice a1 l.length c1, .slice a2 r.length c2, .slice a3 ps.length c3] 27)).alloc (.cells #[.slice none 0 0, .slice none 0 0, .slice none 0 0] 27) := ⟨_, rfl⟩
  rw [← hw1] at X
  have V := hide (fun (W : World) (h : Below w.heap.size w W) => (hv.below h (Nat.le_refl _)).mono h.size)
  have I1 := hide (fun (W : World) (h : Below w.heap.size w W) => i1.below h (Nat.le_refl _))
  clear hv i1
  have CC := hide (fun (W : World) (h : Below w.heap.size w W) => iCopy_any _ l r ps W W.heap.size (V.out W h) (Nat.le_refl _) hl hr hp)
  obtain ⟨qc, hqc⟩ : ∃ q, q = isCk l r ps := ⟨_, rfl⟩
  obtain ⟨qr, hqr⟩ : ∃ q, q = rowAt r row := ⟨_, rfl⟩
  have HCK := hide (fun (W : World) (h : Below w.heap.size w W) => show Calls Try.prog 30 #[.agg #[.slice a1 l.length c1, .slice a2 r.length c2, .slice a3 ps.length c3]] W (RetB1 W qc) by rw [hqc]; exact iIsCk_any _ l r ps W W.heap.size (V.out W h) (Nat.le_refl _))
  have HCF := hide (fun (W : World) (h : Below w.heap.size w W) => show Calls Try.prog 36 #[.agg #[.slice a1 l.length c1, .slice a2 r.length c2, .slice a3 ps.length c3], .int .i64 row] W (RetI1 W qr) by rw [hqr]; exact iFindRow_any _ l r ps row W W.heap.size (V.out W h) (Nat.le_refl _))
  obtain ⟨LL, hLL⟩ : ∃ q, q = rdL l r ps row := ⟨_, rfl⟩
  obtain ⟨RR, hRR⟩ : ∃ q, q = rdR l r ps row := ⟨_, rfl⟩
  obtain ⟨PP, hPP⟩ : ∃ q, q = rdP l r ps row := ⟨_, rfl⟩
  obtain ⟨NN, hNN⟩ : ∃ q, q = rdN l r ps row := ⟨_, rfl⟩
  obtain ⟨BB, hBB⟩ : ∃ q, q = rdOk l r ps row := ⟨_, rfl⟩
  have NO := hide (fun (h : ¬(qc = true ∧ 0 ≤ qr)) => show LL = l ∧ RR = r ∧ PP = ps ∧ NN = 0 ∧ BB = false by
    have e : rdOk l r ps row = false := by
      cases hb : rdOk l r ps row with
      | false => rfl
      | true =>
        unfold rdOk at hb
        simp only [Bool.and_eq_true, decide_eq_true_eq, ← hqc, ← hqr] at hb
        exact absurd ⟨hb.1, hb.2⟩ h
    rw [hLL, hRR, hPP, hNN, hBB, e]
    unfold rdL rdR rdP rdN
    rw [e]
    exact ⟨rfl, rfl, rfl, rfl, rfl⟩)
  obtain ⟨T, hT⟩ : ∃ q, q = rdF l r ps row := ⟨_, rfl⟩
  obtain ⟨ix, hix⟩ : ∃ q, q = idxL r row := ⟨_, rfl⟩
  obtain ⟨v, hv⟩ : ∃ q, q = l.getD ix 0 := ⟨_, rfl⟩
  have YES := hide (fun (h1 : qc = true) (h3 : 0 ≤ qr) => show LL = T.l.take (l.length - 1) ∧ RR = T.r.take (l.length - 1) ∧ PP = T.ps ∧ NN = T.n ∧ BB = true ∧ qr = (ix : Int) ∧ ix < l.length ∧ r.length = l.length by
    have e : rdOk l r ps row = true := by
      unfold rdOk
      simp only [Bool.and_eq_true, decide_eq_true_eq, ← hqc, ← hqr]
      exact ⟨h1, h3⟩
    have hrl := (isCk_parts (hqc ▸ h1)).2.1
    have hy := rowAt_yes (hqr ▸ h3)
    rw [hLL, hRR, hPP, hNN, hBB, e, hT]
    unfold rdL rdR rdP rdN
    rw [e]
    exact ⟨rfl, rfl, rfl, rfl, rfl, by rw [hqr, hix]; exact hy.1, by rw [hix, ← hrl]; exact hy.2, hrl⟩)
  have ST := hide (fun (h1 : qc = true) (h3 : 0 ≤ qr) => show (⟨l, r, ps, ix, 0⟩ : RP).OkD v l.length ps.length 0 by rw [hv, hix]; exact rd_start (hqc ▸ h1) (hqr ▸ h3) hl wl wr wp)
  rw [← hLL, ← hRR, ← hPP, ← hNN, ← hBB]
  have HT := hide (show (RP.downs v ps.length 0 ⟨l, r, ps, ix, 0⟩).fill (l.length - 1) = T by rw [hT, hv, hix]; rfl)
  have HL := hide (And.intro hl (And.intro hr hp))
  have HV := hide hv
  clear hqc hqr hLL hRR hPP hNN hBB hT hir hl hr hp wl wr wp hix hv
  go_enter Try.func29, Try.ntmps29
  go_wp2_with fail
  rw [← hw1]
  clear hw1
  have c00 : w1.cell? ⟨w.heap.size, 0, none⟩ = some (.slice a1 l.length c1) := X.out.cell 0 0 rfl rfl
  have c01 : w1.cell? ⟨w.heap.size, 1, none⟩ = some (.slice a2 r.length c2) := X.out.cell 0 1 rfl rfl
  have c02 : w1.cell? ⟨w.heap.size, 2, none⟩ = some (.slice a3 ps.length c3) := X.out.cell 0 2 rfl rfl
  go_upto_region 1 with fail
  have X1 := X
  go_cut [7, 8] (fun q7 q8 wx => ∃ (W' : World) (m lo hi n1 h1 n2 h2 n3 h3 k1 k2 k3 : Nat) (g1 g2 g3 : Option Addr), W' = wx ∧ q7 = .pointer (some ⟨m, 0, none⟩) ∧ q8 = .int .i64 qr ∧ Hid (Kn w1 wx [(m, #[.slice g1 l.length k1, .slice g2 r.length k2, .slice g3 ps.length k3], 27)]) ∧ Hid (OC wx (.slice g1 l.length k1) (.slice g2 r.length k2) (.slice g3 ps.length k3) l r ps lo hi n1 h1 n2 h2 n3 h3) ∧ Hid (w1.heap.size ≤ lo) ∧ Hid (m < lo ∨ hi ≤ m))
  case first =>
    have KS := hide (fun (W : World) (M : List (Nat × Array Value × TypeId)) (h : Kn w1 W M) => show W.cell? ⟨w.heap.size, 0, none⟩ = some (.slice a1 l.length c1) ∧ W.cell? ⟨w.heap.size, 1, none⟩ = some (.slice a2 r.length c2) ∧ W.cell? ⟨w.heap.size, 2, none⟩ = some (.slice a3 ps.length c3) from ⟨(X1.out.up h.below).cell 0 0 rfl rfl, (X1.out.up h.below).cell 0 1 rfl rfl, (X1.out.up h.below).cell 0 2 rfl rfl⟩)
    have BB := hide (fun (W : World) (M : List (Nat × Array Value × TypeId)) (h : Kn w1 W M) => show Below w.heap.size w W from (X1.out.up h.below).below)
    have Y0 := hide (Kv.start w1 (Bv.true w1) (Bv.true w1))
    have Y := hide Y0.out.drew
    have F3 := hide (fun (W' : World) (x y z : Value) (lo hi n1 h1 n2 h2 n3 h3 : Nat) (O : OC W' x y z l r ps lo hi n1 h1 n2 h2 n3 h3) => show Bv (fun W => OC W x y z l r ps lo hi n1 h1 n2 h2 n3 h3) W' from fun W2 hb2 => O.below hb2)
    clear X X1 NO YES ST HCK c00 c01 c02
    obtain ⟨c00, c01, c02⟩ := KS.out _ _ Y.out.kn
    go_region_held3 (fun W => W.cell? ⟨w.heap.size, 0, none⟩ = some (.slice a1 l.length c1) ∧ W.cell? ⟨w.heap.size, 1, none⟩ = some (.slice a2 r.length c2) ∧ W.cell? ⟨w.heap.size, 2, none⟩ = some (.slice a3 ps.length c3)) (first | with_reducible exact KS.out _ _ Y.out.kn | with_reducible exact KS.out _ _ (Y.out.alloc _ _).kn | with_reducible exact KS.out _ _ (Y0.out.alloc _ _).drew.kn | with_reducible exact KS.out _ _ (Y.out.kn.put3v 0 rfl _ _ _) | go_keep) (first
      | (go_at_call 70; refine (CC.out _ (by first | with_reducible exact BB.out _ _ Y.out.kn | with_reducible exact BB.out _ _ (Y.out.alloc _ _).kn | with_reducible exact BB.out _ _ (Y0.out.alloc _ _).drew.kn)).mono ?_; rintro e wq ⟨x', y', z', lo, hi, n1, h1, n2, h2, n3, h3, rfl, q1, q2, O, hb⟩; obtain ⟨g1, k1, rfl⟩ := O.x.form; obtain ⟨g2, k2, rfl⟩ := O.y.form; obtain ⟨g3, k3, rfl⟩ := O.z.own.form; (first | have HL := (by with_reducible exact Y.out.under _ q1) | have HL := (by with_reducible exact (Y.out.alloc _ _).under _ q1) | have HL := (by with_reducible exact (Y0.out.alloc _ _).drew.under _ q1) | fail); have HR := hide HL.1; have HM := hide HL.2; have HTP := hide O.top.2; clear HL q1 q2; (first | replace Y := hide (by with_reducible exact Y.out.nextA hb (F3.out _ _ _ _ _ _ _ _ _ _ _ _ O)) | replace Y := hide (by with_reducible exact (Y.out.alloc _ _).nextA hb (F3.out _ _ _ _ _ _ _ _ _ _ _ _ O)) | replace Y := hide (by with_reducible exact (Y0.out.alloc _ _).drew.nextA hb (F3.out _ _ _ _ _ _ _ _ _ _ _ _ O)) | fail); clear O; clear hb c00 c01 c02; obtain ⟨c00, c01, c02⟩ := KS.out _ _ Y.out.kn; (try simp only [World.size_alloc, World.size_drew, List.cons_append, List.nil_append] at Y); (first | clear e00 e01 e02 f00 f01 f02 f0l | skip); (first | (have e00 := Y.out.kn.cell 0 0 rfl rfl; have e01 := Y.out.kn.cell 0 1 rfl rfl; have e02 := Y.out.kn.cell 0 2 rfl rfl; have f00 := Y.out.kn.free 0 0 rfl; have f01 := Y.out.kn.free 0 1 rfl; have f02 := Y.out.kn.free 0 2 rfl; have f0l := Y.out.kn.lt 0 rfl) | skip); (try simp only [World.size_alloc, World.size_drew, List.cons_append, List.nil_append] at HM))
      | (go_at_call 36; refine (HCF.out _ (by first | with_reducible exact BB.out _ _ Y.out.kn | with_reducible exact BB.out _ _ (Y.out.alloc _ _).kn | with_reducible exact BB.out _ _ (Y0.out.alloc _ _).drew.kn)).mono ?_; rintro e wq ⟨rfl, hb⟩; (first | replace Y := hide (by with_reducible exact Y.out.up hb) | replace Y := hide (by with_reducible exact (Y.out.alloc _ _).up hb) | replace Y := hide (by with_reducible exact (Y0.out.alloc _ _).drew.up hb) | fail); clear hb c00 c01 c02; obtain ⟨c00, c01, c02⟩ := KS.out _ _ Y.out.kn; (try simp only [World.size_alloc, World.size_drew, List.cons_append, List.nil_append] at Y); (first | clear e00 e01 e02 f00 f01 f02 f0l | skip); (first | (have e00 := Y.out.kn.cell 0 0 rfl rfl; have e01 := Y.out.kn.cell 0 1 rfl rfl; have e02 := Y.out.kn.cell 0 2 rfl rfl; have f00 := Y.out.kn.free 0 0 rfl; have f01 := Y.out.kn.free 0 1 rfl; have f02 := Y.out.kn.free 0 2 rfl; have f0l := Y.out.kn.lt 0 rfl) | skip)))
    all_goals go_wp2_with fail
    all_goals go_meet
    all_goals first
      | (have Z := Y.out.kn.alloc #[.slice g1 l.length k1, .slice g2 r.length k2, .slice g3 ps.length k3] 27; (try simp only [World.size_alloc, World.size_drew, List.cons_append, List.nil_append] at Z); refine ⟨_, _, lo, hi, n1, h1, n2, h2, n3, h3, k1, k2, k3, g1, g2, g3, rfl, rfl, rfl, (by with_reducible exact hide Z), ?_, HR.out, ?_⟩; (exact Y.out.a _ (below1 _ _)); (exact .inr Y.out.a.now.top.2))
      | (have Z := Y.out.kn.put3v 0 rfl (.slice g1 l.length k1) (.slice g2 r.length k2) (.slice g3 ps.length k3); (try simp only [List.set_cons_zero, List.set_cons_succ, List.cons_append, List.nil_append] at Z); refine ⟨_, _, lo, hi, n1, h1, n2, h2, n3, h3, k1, k2, k3, g1, g2, g3, rfl, rfl, rfl, (by with_reducible exact hide Z), ?_, HR.out, ?_⟩; (exact Y.out.a.now.seg (seg3 _ _ _ _ _) (.inr (HM.out _ (List.mem_cons_self ..)))); (exact .inl (HM.out _ (List.mem_cons_self ..))))
      | (have Z := Y.out.kn.put3v 0 rfl (.slice g1 l.length k1) (.slice g2 r.length k2) (.slice g3 ps.length k3); (try simp only [List.set_cons_zero, List.set_cons_succ, List.cons_append, List.nil_append] at Z); refine ⟨_, _, lo, hi, n1, h1, n2, h2, n3, h3, k1, k2, k3, g1, g2, g3, rfl, rfl, rfl, (by with_reducible exact hide Z), ?_, HR.out, ?_⟩; (exact Y.out.a.now.seg (seg3 _ _ _ _ _) (.inl HTP.out)); (exact .inr HTP.out))
      | fail "fin"
  case rest =>
    skip
    obtain ⟨w3, m, lo, hi, n1, h1, n2, h2, n3, h3, k1, k2, k3, g1, g2, g3, rfl, rfl, rfl, Y, O, HLO, HMA⟩ := hcut
    have Q1 := hide (show w.heap.size + 1 < lo ∧ w.heap.size + 1 < m by
      have q0 : w.heap.size + 1 < w1.heap.size := X1.out.lt 1 rfl
      have q1 := HLO.out
      have q2 := Y.out.low 0 rfl
      omega)
    have X := hide (Kn.joinv X1.out Y.out)
    simp only [List.cons_append, List.nil_append] at X
    clear X1 Y HLO CC HCF c00 c01 c02
    have KA := hide (fun (W : World) (h : Kn w W [(w.heap.size, #[.slice a1 l.length c1, .slice a2 r.length c2, .slice a3 ps.length c3], 27), (w.heap.size + 1, #[.slice none 0 0, .slice none 0 0, .slice none 0 0], 27), (m, #[.slice g1 l.length k1, .slice g2 r.length k2, .slice g3 ps.length k3], 27)]) => show W.cell? ⟨w.heap.size, 0, none⟩ = some (.slice a1 l.length c1) ∧ W.cell? ⟨w.heap.size, 1, none⟩ = some (.slice a2 r.length c2) ∧ W.cell? ⟨w.heap.size, 2, none⟩ = some (.slice a3 ps.length c3) ∧ W.cell? ⟨w.heap.size + 1, 0, none⟩ = some (.slice none 0 0) ∧ W.cell? ⟨w.heap.size + 1, 1, none⟩ = some (.slice none 0 0) ∧ W.cell? ⟨w.heap.size + 1, 2, none⟩ = some (.slice none 0 0) ∧ W.frozen? ⟨w.heap.size + 1, 0, none⟩ = false ∧ W.frozen? ⟨w.heap.size + 1, 1, none⟩ = false ∧ W.frozen? ⟨w.heap.size + 1, 2, none⟩ = false ∧ W.cell? ⟨m, 0, none⟩ = some (.slice g1 l.length k1) ∧ W.cell? ⟨m, 1, none⟩ = some (.slice g2 r.length k2) ∧ W.cell? ⟨m, 2, none⟩ = some (.slice g3 ps.length k3) from ⟨h.cell 0 0 rfl rfl, h.cell 0 1 rfl rfl, h.cell 0 2 rfl rfl, h.cell 1 0 rfl rfl, h.cell 1 1 rfl rfl, h.cell 1 2 rfl rfl, h.free 1 0 rfl, h.free 1 1 rfl, h.free 1 2 rfl, h.cell 2 0 rfl rfl, h.cell 2 1 rfl rfl, h.cell 2 2 rfl rfl⟩)
    obtain ⟨c00, c01, c02, c10, c11, c12, f10, f11, f12, c20, c21, c22⟩ := KA.out _ X.out
    go_wp2_with fail
    go_at_call 30
    refine (HCK.out _ X.out.below).mono ?_
    rintro e w4 ⟨rfl, hb⟩
    have X := hide (X.out.up hb)
    have O := hide (O.out.below hb)
    clear hb
    clear c00 c01 c02 c10 c11 c12 f10 f11 f12 c20 c21 c22
    cases qc with
    | false =>
      obtain ⟨rfl, rfl, rfl, rfl, rfl⟩ := NO.out (by simp; try omega)
      clear YES ST HT
      obtain ⟨c00, c01, c02, c10, c11, c12, f10, f11, f12, c20, c21, c22⟩ := KA.out _ X.out
      go_wp2_with fail
      clear c00 c01 c02 c10 c11 c12 f10 f11 f12 c20 c21 c22
      have q1 := Q1.out
      have Z := (((X.out.set 1 0 rfl (.slice g1 LL.length k1)).set 1 1 rfl (.slice g2 RR.length k2)).set 1 2 rfl (.slice g3 PP.length k3))
      have z0 := Z.cell 1 0 rfl rfl
      have z1 := Z.cell 1 1 rfl rfl
      have z2 := Z.cell 1 2 rfl rfl
      have O6 := ((O.out).seg (seg3 _ (w.heap.size + 1) (.slice g1 LL.length k1) (.slice g2 RR.length k2) (.slice g3 PP.length k3)) (.inr (by omega)))
      exact bodyPost_ret (v := .tuple #[.agg #[.slice g1 LL.length k1, .slice g2 RR.length k2, .slice g3 PP.length k3], .int .i64 0, .bool false]) (by simp [results, Try.results29, go_sem, z0, z1, z2]) rfl
        ⟨_, _, _, _, _, _, _, _, _, _, _, rfl, by omega, O6.top.2, O6, Z.below⟩
    | true =>
      by_cases h0 : 0 ≤ qr
      case neg =>
        have t1 : decide (qr < 0) = true := decide_eq_true (by omega)
        obtain ⟨rfl, rfl, rfl, rfl, rfl⟩ := NO.out (by simp; try omega)
        clear YES ST HT
        obtain ⟨c00, c01, c02, c10, c11, c12, f10, f11, f12, c20, c21, c22⟩ := KA.out _ X.out
        go_wp2_with fail
        clear c00 c01 c02 c10 c11 c12 f10 f11 f12 c20 c21 c22
        have q1 := Q1.out
        have Z := (((X.out.set 1 0 rfl (.slice g1 LL.length k1)).set 1 1 rfl (.slice g2 RR.length k2)).set 1 2 rfl (.slice g3 PP.length k3))
        have z0 := Z.cell 1 0 rfl rfl
        have z1 := Z.cell 1 1 rfl rfl
        have z2 := Z.cell 1 2 rfl rfl
        have O6 := ((O.out).seg (seg3 _ (w.heap.size + 1) (.slice g1 LL.length k1) (.slice g2 RR.length k2) (.slice g3 PP.length k3)) (.inr (by omega)))
        exact bodyPost_ret (v := .tuple #[.agg #[.slice g1 LL.length k1, .slice g2 RR.length k2, .slice g3 PP.length k3], .int .i64 0, .bool false]) (by simp [results, Try.results29, go_sem, z0, z1, z2]) rfl
          ⟨_, _, _, _, _, _, _, _, _, _, _, rfl, by omega, O6.top.2, O6, Z.below⟩
      have t1 : decide (qr < 0) = false := decide_eq_false (by omega)
      have hy := YES.out (by simp) h0
      have hst := hide (ST.out (by simp) h0)
      obtain ⟨rfl, rfl, rfl, rfl, rfl, rfl, hixl, hrl⟩ := hy
      have HRL := hide hrl
      have HIX := hide hixl
      clear NO YES ST HCK hrl
      obtain ⟨bb, oo, rfl⟩ : ∃ bb oo, a1 = some ⟨bb, oo, none⟩ := by
        obtain ⟨b1', c1', e1, -, -, hcell⟩ := I1.out _ X.out.below
        simp only [Value.slice.injEq] at e1
        obtain ⟨bb, oo, e2, -⟩ := hcell ix HIX.out
        exact ⟨bb, oo, e1.1.trans e2⟩
      have HCV := hide (fun (W : World) (h : Below w.heap.size w W) => show W.cell? ⟨bb, oo + ix, none⟩ = some (.int .i64 v) ∧ bb < w.heap.size by
        obtain ⟨b1', c1', e1, -, -, hcell⟩ := I1.out _ h
        simp only [Value.slice.injEq] at e1
        obtain ⟨bb', oo', e2, hB, hc⟩ := hcell ix HIX.out
        have e3 := e1.1.trans e2
        simp only [Option.some.injEq, Addr.mk.injEq, and_true] at e3
        obtain ⟨rfl, rfl⟩ := e3
        exact ⟨by rw [hc, HV.out, List.getD_eq_getElem?_getD, List.getElem?_eq_getElem HIX.out]; rfl, hB⟩)
      clear hixl I1
      obtain ⟨mr, hmr⟩ : ∃ mr, mr = w4.heap.size := ⟨_, rfl⟩
      have HN := hide (show w.heap.size + 1 < n1 ∧ w.heap.size + 1 < n2 ∧ w.heap.size + 1 < n3 ∧ (m < n1 ∨ h1 ≤ m) ∧ (m < n2 ∨ h2 ≤ m) ∧ (m < n3 ∨ h3 ≤ m) ∧ h1 ≤ mr ∧ h2 ≤ mr ∧ h3 ≤ mr ∧ w.heap.size + 1 < m ∧ m < mr by
        have q1 := Q1.out
        have q2 := O.out.low
        have q3 := O.out.high
        have q4 := HMA.out
        have q5 := O.out.top.2
        have q6 : m < w4.heap.size := X.out.lt 2 rfl
        rw [hmr]
        omega)
      have O := hide (O.out.o3 ix 0)
      obtain ⟨w6, hw6⟩ : ∃ w6, w6 = w4.alloc (.cells #[.slice g1 l.length k1, .slice g2 r.length k2, .slice g3 ps.length k3, .int .i64 (ix : Int), .int .i64 0] 107) := ⟨_, rfl⟩
      have M := hide (heap_alloc_new w4 (.cells #[.slice g1 l.length k1, .slice g2 r.length k2, .slice g3 ps.length k3, .int .i64 (ix : Int), .int .i64 0] 107))
      have O := hide (O.out.below (below1 w4 (.cells #[.slice g1 l.length k1, .slice g2 r.length k2, .slice g3 ps.length k3, .int .i64 (ix : Int), .int .i64 0] 107)))
      have X0 := X
      have X := hide (X.out.up (below1 w4 (.cells #[.slice g1 l.length k1, .slice g2 r.length k2, .slice g3 ps.length k3, .int .i64 (ix : Int), .int .i64 0] 107)))
      rw [← hw6] at O X M
      rw [← hmr] at M
      clear Q1 HMA
      obtain ⟨c00, c01, c02, c10, c11, c12, f10, f11, f12, c20, c21, c22⟩ := KA.out _ X0.out
      have d2 : w6.cell? ⟨m, 2, none⟩ = some (.slice g3 ps.length k3) := X.out.cell 2 2 rfl rfl
      rw [hw6] at d2
      go_wp2_with fail
      rw [← hw6]
      try rw [← hmr]
      clear hw6 hmr d2 t1 h0 X0
      clear c00 c01 c02 c10 c11 c12 f10 f11 f12 c20 c21 c22
      skip
      have HTT := hide (show Hid ((RP.downs v ps.length 0 ⟨l, r, ps, ix, 0⟩).fill (l.length - 1) = T) from HT)
      clear HT
      go_loopw [32] (fun q32 wr => ∃ (k j : Nat) (S : RP), k + j = ps.length ∧ q32 = .int .i64 (k : Int) ∧ Hid (S.n ≤ k) ∧ Hid (S.OkD v l.length ps.length k) ∧ Hid ((RP.downs v j k S).fill (l.length - 1) = T) ∧ Hid (Kn w wr [(w.heap.size, #[.slice (some ⟨bb, oo, none⟩) l.length c1, .slice a2 r.length c2, .slice a3 ps.length c3], 27), (w.heap.size + 1, #[.slice none 0 0, .slice none 0 0, .slice none 0 0], 27), (m, #[.slice g1 l.length k1, .slice g2 r.length k2, .slice g3 ps.length k3], 27)]) ∧ Hid (O3 wr (.slice g1 l.length k1) (.slice g2 r.length k2) (.slice g3 ps.length k3) S n1 h1 n2 h2 n3 h3) ∧ Hid (wr.heap[mr]? = some (.cells #[.slice g1 l.length k1, .slice g2 r.length k2, .slice g3 ps.length k3, .int .i64 (S.h : Int), .int .i64 (S.n : Int)] 107 (0, 0)))) (fun i _ => ps.length - (intOf i).toNat)
      case atStart => exact ⟨0, ps.length, ⟨l, r, ps, ix, 0⟩, by omega, rfl, Nat.le_refl _, hst.out, HTT.out, X.out, O.out, M.out⟩
      case round =>
        clear X O M hst HTT
        obtain ⟨k, j, S, hkj, rfl, HNK, OK, HT, X, O, M⟩ := hrel
        have HKJ := hide hkj
        have hkb : (k : Int) ≤ 1048576 := by have := HL.out; omega
        have CF := hide (fun (S' : RP) (a : Nat) (W : World) (h1' : Hid (W.heap[mr]? = some (.cells #[.slice g1 l.length k1, .slice g2 r.length k2, .slice g3 ps.length k3, .int .i64 (S'.h : Int), .int .i64 (S'.n : Int)] 107 (0, 0)))) (h2' : O3 W (.slice g1 l.length k1) (.slice g2 r.length k2) (.slice g3 ps.length k3) S' n1 h1 n2 h2 n3 h3) (ok : S'.Ok l.length ps.length 0) (ha : a < l.length) (hn : S'.n ≤ 1048576) => iFill_oc mr _ _ _ S' a l.length ps.length 0 n1 h1 n2 h2 n3 h3 W h2' h1'.out (by have := HN.out; unfold P3; omega) ok ha hn)
        cases j with
        | zero =>
          have hkl : decide ((k : Int) < (ps.length : Int)) = false := decide_eq_false (by omega)
          have hkl2 : decide (k < ps.length) = false := decide_eq_false (by omega)
          have hlen0 : 1 ≤ l.length := by have := HIX.out; omega
          obtain ⟨a, ha⟩ : ∃ a, a = l.length - 1 := ⟨_, rfl⟩
          have hal := hide (show a < l.length by omega)
          have HTZ := hide (show S.fill a = T by rw [ha]; exact HT.out)
          have HA1 := hide (show a + 1 = l.length by omega)
          have ea : (l.length : Int) - 1 = (a : Int) := by omega
          have e00 : wr.cell? ⟨m, 0, none⟩ = some (.slice g1 l.length k1) := X.out.cell 2 0 rfl rfl
          have CM := hide (show Calls Try.prog 72 #[.pointer (some ⟨mr, 0, none⟩), .int .i64 ((l.length : Int) - 1)] wr (RetFi wr mr (.slice g1 l.length k1) (.slice g2 r.length k2) (.slice g3 ps.length k3) n1 h1 n2 h2 n3 h3 T) by
            rw [ea, ← HTZ.out]
            exact CF.out S a wr M O.out OK.out.ok hal.out (by have := HNK.out; have := HL.out; omega))
          have hll : (l.length : Int) ≤ 1048576 := by have := HL.out; omega
          have hl1 : (1 : Int) ≤ (l.length : Int) := by omega
          have EA := hide ea
          have OKT := hide (show T.Ok l.length ps.length 0 by rw [← HTZ.out]; exact OK.out.ok.fill hal.out)
          clear ha hkj ea
          go_wp2_with fail
          clear e00 hkl hkl2
          go_at_call 72
          refine (CM.out).mono ?_
          rintro e w12 ⟨⟨_, rfl⟩, O2, M2, T2⟩
          have O2 := hide O2
          have M2 := hide M2
          have X2 := hide (X.out.trn T2 (fun b hb => by have := HN.out; unfold P3 at hb; omega) (by intro e he; have := HN.out; unfold P3; simp at he; rcases he with rfl | rfl | rfl <;> simp <;> omega))
          clear X O M T2 CM CF
          skip
          have htn : ((l.length : Int) - 1).toNat = a := by have := EA.out; omega
          have hge : (0 : Int) ≤ (l.length : Int) - 1 := by omega
          obtain ⟨gx, e1, -, x1, x2, -⟩ := O2.out.x.at (by have := OKT.out.l; omega)
          obtain ⟨gy, e2, -, y1, y2, -⟩ := O2.out.y.at (by have := OKT.out.r; omega)
          have E1 := hide e1
          have E2 := hide e2
          obtain ⟨cpx, cpy⟩ : l.length ≤ k1 ∧ r.length ≤ k2 := by
            obtain ⟨_, _, _, q1, q2, _⟩ := Ow.cap O2.out.x
            obtain ⟨_, _, _, q3, q4, _⟩ := Ow.cap O2.out.y
            simp only [Value.slice.injEq] at q1 q3
            omega
          have hkx : (l.length : Int) - 1 ≤ (k1 : Int) := by omega
          have hky : (l.length : Int) - 1 ≤ (k2 : Int) := by have := HRL.out; omega
          have d0 : w12.cell? ⟨m, 0, none⟩ = some (.slice (some ⟨gx, 0, none⟩) l.length k1) := by rw [← e1]; exact X2.out.cell 2 0 rfl rfl
          have d1 : w12.cell? ⟨m, 1, none⟩ = some (.slice (some ⟨gy, 0, none⟩) r.length k2) := by rw [← e2]; exact X2.out.cell 2 1 rfl rfl
          have d2 : w12.cell? ⟨m, 2, none⟩ = some (.slice g3 ps.length k3) := X2.out.cell 2 2 rfl rfl
          have d3 : w12.cell? ⟨mr, 4, none⟩ = some (.int .i64 (T.n : Int)) := cell_of_row w12 mr 4 _ _ (0, 0) M2.out
          have v0 : w12.cell? ⟨w.heap.size + 1, 0, none⟩ = some (.slice none 0 0) := X2.out.cell 1 0 rfl rfl
          have v1 : w12.cell? ⟨w.heap.size + 1, 1, none⟩ = some (.slice none 0 0) := X2.out.cell 1 1 rfl rfl
          have v2 : w12.cell? ⟨w.heap.size + 1, 2, none⟩ = some (.slice none 0 0) := X2.out.cell 1 2 rfl rfl
          have v3 : w12.frozen? ⟨w.heap.size + 1, 0, none⟩ = false := X2.out.free 1 0 rfl
          have v4 : w12.frozen? ⟨w.heap.size + 1, 1, none⟩ = false := X2.out.free 1 1 rfl
          have v5 : w12.frozen? ⟨w.heap.size + 1, 2, none⟩ = false := X2.out.free 1 2 rfl
          clear e1 e2 x1 x2 y1 y2
          go_wp2_with fail
          go_region
          go_wp2_with fail
          skip
          have O3' := O2.out
          rw [E1.out, E2.out] at O3'
          have OT := hide ((O3'.takeX HA1.out).takeY (by rw [HRL.out]; exact HA1.out))
          have q1 := HN.out
          have ha9 : l.length - 1 = a := by have := HA1.out; omega
          rw [ha9]
          have Z := (((X2.out.set 1 0 rfl (.slice (some ⟨gx, 0, none⟩) a k1)).set 1 1 rfl (.slice (some ⟨gy, 0, none⟩) a k2)).set 1 2 rfl (.slice g3 ps.length k3)).drew
          have z0 := Z.cell 1 0 rfl rfl
          have z1 := Z.cell 1 1 rfl rfl
          have z2 := Z.cell 1 2 rfl rfl
          have O6 := ((OT.out.oc (lo := w.heap.size + 1 + 1) (by omega)).seg (seg3 _ (w.heap.size + 1) (.slice (some ⟨gx, 0, none⟩) a k1) (.slice (some ⟨gy, 0, none⟩) a k2) (.slice g3 ps.length k3)) (.inr (by omega))).below (Below.refl _ _).drew
          exact bodyPost_ret (v := .tuple #[.agg #[.slice (some ⟨gx, 0, none⟩) a k1, .slice (some ⟨gy, 0, none⟩) a k2, .slice g3 ps.length k3], .int .i64 (T.n : Int), .bool true]) (by simp [results, Try.results29, go_sem, z0, z1, z2]) rfl
            ⟨_, _, _, _, _, _, _, _, _, _, _, rfl, by omega, O6.top.2, O6, Z.below⟩
        | succ j =>
          have HB1 := hide (fun (c : Array Value) (t : TypeId) => show (wr.alloc (.cells c t)).heap[mr]? = some (.cells #[.slice g1 l.length k1, .slice g2 r.length k2, .slice g3 ps.length k3, .int .i64 (S.h : Int), .int .i64 (S.n : Int)] 107 (0, 0)) from ((below1 wr (.cells c t)).block mr (Array.getElem?_eq_some_iff.1 M.out).1).trans M.out)
          have hkp : k < S.ps.length := by have := OK.out.p; omega
          have hkl : decide ((k : Int) < (ps.length : Int)) = true := decide_eq_true (by omega)
          have hkl2 : decide (k < ps.length) = true := decide_eq_true (by omega)
          obtain ⟨gz, rfl, hn3, z1, z2, zc⟩ := O.out.z.at (by omega)
          have Z12 := hide (And.intro z1 z2)
          have HN3 := hide hn3
          obtain ⟨q0, q1', fz0, fz1⟩ := zc k hkp
          obtain ⟨pv, hpv⟩ : ∃ q, q = (S.ps.getD k (0, 0)).1 := ⟨_, rfl⟩
          rw [← hpv] at q0
          have hkl3 : k < ps.length := by omega
          have u0 : wr.cell? ⟨w.heap.size, 0, none⟩ = some (.slice (some ⟨bb, oo, none⟩) l.length c1) := X.out.cell 0 0 rfl rfl
          have e20 : wr.cell? ⟨m, 2, none⟩ = some (.slice (some ⟨gz, 0, none⟩) ps.length k3) := X.out.cell 2 2 rfl rfl
          have hlt0 : w.heap.size < wr.heap.size := X.out.lt 0 rfl
          have hltm : m < wr.heap.size := X.out.lt 2 rfl
          obtain ⟨hcv, hlbw⟩ := HCV.out wr X.out.below
          have hlb : bb < wr.heap.size := Nat.lt_of_lt_of_le hlbw X.out.below.size
          have hix1 : (ix : Int) < (l.length : Int) := by have := HIX.out; omega
          have hix2 : ix < l.length := HIX.out
          clear hn3 z1 z2 zc hlbw
          by_cases hgt : v < pv
          case neg =>
            have HTZ := hide (show (RP.downs v j (k + 1) S).fill (l.length - 1) = T by have h9 := HT.out; rwa [RP.downs_no (by rw [← hpv]; omega)] at h9)
            have t1 : decide (v < pv) = false := decide_eq_false hgt
            have t2 : decide (pv > v) = false := decide_eq_false hgt
            obtain ⟨pl, hpl⟩ : ∃ q, q = (S.ps.getD k (0, 0)).2 := ⟨_, rfl⟩
            rw [← hpl] at q1'
            clear hpv hkj hpl
            go_wp2_with fail
            go_region
            go_wp2_with fail
            go_roundw
            case rel => exact ⟨k + 1, j, S, by have := HKJ.out; omega, by go_num, by have := HNK.out; show S.n ≤ k + 1; omega, OK.out.next, HTZ.out, (X.out.alloc _ _).drew.sub (List.sublist_append_left _ _), (O.out.below (below1 _ _)).drew, HB1.out _ _⟩
            case measure => simp [intOf]; omega
          skip
          have hpl := OK.out.pl k (Nat.le_refl _) (by omega) (by rw [← hpv]; omega)
          obtain ⟨a, ha⟩ : ∃ a : Nat, S.pl k = (a : Int) + 1 := ⟨(S.pl k - 1).toNat, by omega⟩
          have q1 : wr.cell? ⟨gz, k * 2 + 1, none⟩ = some (.int .i64 ((a : Int) + 1)) := by rw [q1', ← ha]; rfl
          have HA := hide ha
          have hal := hide (show a < l.length by omega)
          have HU := hide (show (RP.downs v j (k + 1) (S.down k)).fill (l.length - 1) = T by have h9 := HT.out; rwa [RP.downs_yes (by rw [← hpv]; omega)] at h9)
          have OKN := hide (OK.out.down (by omega) (by rw [← hpv]; omega))
          have t1 : decide (v < pv) = true := decide_eq_true hgt
          have t2 : decide (pv > v) = true := decide_eq_true hgt
          have ha2 : (a : Int) ≤ 1048576 := by have := hal.out; have := HL.out; omega
          have hup := hide (show S.down k = (S.at k (a : Int)).fill a by
            unfold RP.down
            rw [RP.fill_at, HA.out, show ((a : Int) + 1 - 1) = (a : Int) by omega]
            simp)
          have OKA := hide (show (S.at k (a : Int)).Ok l.length ps.length 0 from OK.out.ok.at (a : Int) ⟨by omega, by omega⟩ hkl3 (Nat.zero_le _))
          have hxa : wrap64 ((a : Int) + 1 - 1) = (a : Int) := by rw [IntWalk.wrap64_in _ (by omega)]; omega
          have hab : (a : Int) + 1 - 1 = (a : Int) := by omega
          have HZN := hide (show ps.length = S.ps.length from HN3.out)
          have OA := hide ((O.out.putZ HZN.out Z12.out.1 Z12.out.2 k (a : Int) hkp))
          have T3 := (Trn.refl (P3 n1 h1 n2 h2 n3 h3) wr).setCell (.inr (.inr Z12.out)) (k * 2 + 1) (.int .i64 (a : Int))
          have XA := hide (X.out.trn T3 (fun b hb => by have := HN.out; unfold P3 at hb; omega) (by intro e he; have := HN.out; unfold P3; simp at he; rcases he with rfl | rfl | rfl <;> simp <;> omega))
          have MA := hide ((T3.block mr (Array.getElem?_eq_some_iff.1 M.out).1 (by have := HN.out; unfold P3; omega)).trans M.out)
          have hgw : gz < wr.heap.size := by have := Z12.out; have := O.out.z.top; omega
          have hgn : gz ≠ wr.heap.size := by omega
          have hng : wr.heap.size ≠ gz := by omega
          have HKL := hide hkl3
          clear T3 hpv hpl ha q1' hkj hgt
          go_wp2_with fail
          go_region
          go_wp2_with fail
          skip
          obtain ⟨W9, hW9⟩ : ∃ q, q = ((wr.setCell ⟨gz, k * 2 + 1, none⟩ (.int .i64 (a : Int))).alloc (.cells #[.int .i64 pv, .int .i64 ((a : Int) + 1)] 60)).drew := ⟨_, rfl⟩
          have O9 := hide ((OA.out.below (below1 _ (.cells #[.int .i64 pv, .int .i64 ((a : Int) + 1)] 60))).drew)
          have M9 := hide (((below1 (wr.setCell ⟨gz, k * 2 + 1, none⟩ (.int .i64 (a : Int))) (.cells #[.int .i64 pv, .int .i64 ((a : Int) + 1)] 60)).block mr (Array.getElem?_eq_some_iff.1 MA.out).1).trans MA.out)
          have X9 := hide ((XA.out.alloc #[.int .i64 pv, .int .i64 ((a : Int) + 1)] 60).drew.sub (List.sublist_append_left _ _))
          rw [← hW9] at O9 X9
          have M9 := hide (show W9.heap[mr]? = some (.cells #[.slice g1 l.length k1, .slice g2 r.length k2, .slice (some ⟨gz, 0, none⟩) ps.length k3, .int .i64 (S.h : Int), .int .i64 (S.n : Int)] 107 (0, 0)) by rw [hW9]; exact M9.out)
          rw [← hW9]
          clear hW9 OA MA XA X O M u0 e20 hlt0 hltm hcv hlb hgw hgn hng q0 fz0 fz1
          refine (CF.out (S.at k (a : Int)) a W9 M9 O9.out OKA.out hal.out (by have := HNK.out; have := HL.out; show S.n ≤ 1048576; omega)).mono ?_
          rintro e w12 ⟨⟨_, rfl⟩, O2, M2, T2⟩
          have O2 := hide O2
          have M2 := hide M2
          have X2 := hide (X9.out.trn T2 (fun b hb => by have := HN.out; unfold P3 at hb; omega) (by intro e he; have := HN.out; unfold P3; simp at he; rcases he with rfl | rfl | rfl <;> simp <;> omega))
          clear T2 CF
          go_wp2_with fail
          go_roundw
          case rel =>
            refine ⟨k + 1, j, (S.at k (a : Int)).fill a, by have := HKJ.out; omega, by go_num, ?_, ?_, ?_, X2.out, O2.out, M2.out⟩
            · show ((S.at k (a : Int)).fill a).n ≤ k + 1
              have h1 := RP.fill_n (S := S.at k (a : Int)) a
              have h2 : (S.at k (a : Int)).n = S.n := rfl
              have := HNK.out
              omega
            · show RP.OkD _ _ _ _ _; rw [← hup.out]; exact OKN.out
            · show (RP.downs v j (k + 1) ((S.at k (a : Int)).fill a)).fill (l.length - 1) = T; rw [← hup.out]; exact HU.out
          case measure => simp [intOf]; omega

end Go.Proofs.Ytajfhalalnlejaa
