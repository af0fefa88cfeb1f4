/- What RippleInsert of the program returns (promise 7). Written by gen_rii.py. -/
import Derived.Test.YtajfhalalnlejaaRpB
import Derived.Test.YtajfhalalnlejaaFr
import Derived.Test.YtajfhalalnlejaaCkQ
import Derived.Test.YtajfhalalnlejaaRiV
import Derived.Test.YtajfhalalnlejaaCpI
namespace Go.Proofs.Ytajfhalalnlejaa
open Go.RowKit Go.ChangeShapes
set_option linter.unusedSimpArgs false
set_option linter.unusedVariables false
set_option maxRecDepth 100000

set_option maxHeartbeats 8000000 in
theorem iRi_any (u : Value) (l r : List Int) (ps : List Pv) (v row : Int) (w : World) (hv : Ck w w.heap.size u l r ps) (hl : l.length ≤ 1048576) (hr : r.length ≤ 1048576) (hp : ps.length ≤ 1048576) (wl : ∀ x ∈ l, I64 x) (wr : ∀ x ∈ r, I64 x) (wp : ∀ p ∈ ps, I64 p.1 ∧ I64 p.2) (hiv : I64 v) (hir : I64 row) :
    Calls Try.prog 25 #[u, .agg #[.int .i64 v, .int .i64 row]] w (RetRi w (riL l r ps v row) (riR l r ps v row) (riP l r ps v row) (riN l r ps v row) (riOk l r ps v row)) := by
  obtain ⟨a1, c1, a2, c2, a3, c3, rfl, i1, i2, i3⟩ := hv.form
  obtain ⟨nil1, nil2, nil3⟩ := hv.nils
  obtain ⟨cap1, cap2⟩ := hv.caps
  have X := hide (Kn.three w #[.slice a1 l.length c1, .slice a2 r.length c2, .slice a3 ps.length c3] #[.int .i64 v, .int .i64 row] #[.slice none 0 0, .slice none 0 0, .slice none 0 0] 27 49 27)
  obtain ⟨w1, hw1⟩ : ∃ w1, w1 = ((w.alloc (.cells #[.slice a1 l.length c1, .slice a2 r.length c2, .slice a3 ps.length c3] 27)).alloc (.cells #[.int .i64 v, .int .i64 row] 49)).alloc (.cells #[.slice none 0 0, .slice none 0 0, .slice none 0 0] 27) := ⟨_, rfl⟩
  have hz1 := hide (show w1.heap.size = w.heap.size + 1 + 1 + 1 by rw [hw1]; simp)
  rw [← hw1] at X
  have V := hide (fun (W : World) (h : Below w.heap.size w W) => (hv.below h (Nat.le_refl _)).mono h.size)
  have I1 := hide (fun (W : World) (h : Below w.heap.size w W) => i1.below h (Nat.le_refl _))
  have I2 := hide (fun (W : World) (h : Below w.heap.size w W) => i2.below h (Nat.le_refl _))
  have I3 := hide (fun (W : World) (h : Below w.heap.size w W) => clone_p a3 c3 ps W w.heap.size (i3.below h (Nat.le_refl _)) nil3 h.size hp)
  have CAPS := hide (And.intro cap1 cap2)
  clear hv i1 i2 i3 nil1 nil2 nil3 cap1 cap2
  have CC := hide (fun (W : World) (h : Below w.heap.size w W) => iCopy_any _ l r ps W W.heap.size (V.out W h) (Nat.le_refl _) hl hr hp)
  obtain ⟨qc, hqc⟩ : ∃ q, q = isCk l r ps := ⟨_, rfl⟩
  obtain ⟨qi, hqi⟩ : ∃ q, q = isIt v row := ⟨_, rfl⟩
  obtain ⟨qr, hqr⟩ : ∃ q, q = rowAt r row := ⟨_, rfl⟩
  have HCK := hide (fun (W : World) (h : Below w.heap.size w W) => show Calls Try.prog 30 #[.agg #[.slice a1 l.length c1, .slice a2 r.length c2, .slice a3 ps.length c3]] W (RetB1 W qc) by rw [hqc]; exact iIsCk_any _ l r ps W W.heap.size (V.out W h) (Nat.le_refl _))
  have HCI := hide (fun (W : World) => show Calls Try.prog 69 #[.agg #[.int .i64 v, .int .i64 row]] W (RetB1 W qi) by rw [hqi]; exact iIsIt_any v row W)
  have HCF := hide (fun (W : World) (h : Below w.heap.size w W) => show Calls Try.prog 36 #[.agg #[.slice a1 l.length c1, .slice a2 r.length c2, .slice a3 ps.length c3], .int .i64 row] W (RetI1 W qr) by rw [hqr]; exact iFindRow_any _ l r ps row W W.heap.size (V.out W h) (Nat.le_refl _))
  obtain ⟨LL, hLL⟩ : ∃ q, q = riL l r ps v row := ⟨_, rfl⟩
  obtain ⟨RR, hRR⟩ : ∃ q, q = riR l r ps v row := ⟨_, rfl⟩
  obtain ⟨PP, hPP⟩ : ∃ q, q = riP l r ps v row := ⟨_, rfl⟩
  obtain ⟨NN, hNN⟩ : ∃ q, q = riN l r ps v row := ⟨_, rfl⟩
  obtain ⟨BB, hBB⟩ : ∃ q, q = riOk l r ps v row := ⟨_, rfl⟩
  have NO := hide (fun (h : ¬(qc = true ∧ qi = true ∧ qr < 0 ∧ l.length < 64)) => show LL = l ∧ RR = r ∧ PP = ps ∧ NN = 0 ∧ BB = false by
    have e : riOk l r ps v row = false := by
      cases hb : riOk l r ps v row with
      | false => rfl
      | true =>
        unfold riOk at hb
        simp only [Bool.and_eq_true, decide_eq_true_eq, ← hqc, ← hqi, ← hqr] at hb
        exact absurd ⟨hb.1, hb.2.1, hb.2.2.1, hb.2.2.2⟩ h
    rw [hLL, hRR, hPP, hNN, hBB, e]
    unfold riL riR riP riN
    rw [e]
    exact ⟨rfl, rfl, rfl, rfl, rfl⟩)
  obtain ⟨T, hT⟩ : ∃ q, q = riF l r ps v row := ⟨_, rfl⟩
  have YES := hide (fun (h1 : qc = true) (h2 : qi = true) (h3 : qr < 0) (h4 : l.length < 64) => show LL = T.l ∧ RR = T.r ∧ PP = T.ps ∧ NN = T.n ∧ BB = true by
    have e : riOk l r ps v row = true := by
      unfold riOk
      simp only [Bool.and_eq_true, decide_eq_true_eq, ← hqc, ← hqi, ← hqr]
      exact ⟨h1, h2, h3, h4⟩
    rw [hLL, hRR, hPP, hNN, hBB, e, hT]
    unfold riL riR riP riN
    rw [e]
    exact ⟨rfl, rfl, rfl, rfl, rfl⟩)
  have ST := hide (fun (h1 : qc = true) => ri_start (a := v) (b := row) (hqc ▸ h1) hl wl wr wp hiv hir)
  have CKL := hide (fun (h1 : qc = true) => show r.length = l.length ∧ l.length ≤ 64 from ⟨(isCk_parts (hqc ▸ h1)).2.1, areVals_len (isCk_parts (hqc ▸ h1)).1⟩)
  rw [← hLL, ← hRR, ← hPP, ← hNN, ← hBB]
  have HT := hide (fun (hrl0 : r.length = l.length) => show (RP.ups v ps.length ⟨l ++ [v], r ++ [row], ps, l.length, 0⟩).put v row = T by rw [hT]; exact ri_any l r ps v row v row hrl0)
  have HI := hide (And.intro hiv hir)
  have HL := hide (And.intro hl (And.intro hr hp))
  clear hqc hqi hqr hLL hRR hPP hNN hBB hT hiv hir hl hr hp wl wr wp
  go_enter Try.func25, Try.ntmps25
  go_wp2_with fail
  rw [← hw1]
  clear hw1
  have KA := hide (fun (W : World) (h : Kn w W [(w.heap.size, #[.slice a1 l.length c1, .slice a2 r.length c2, .slice a3 ps.length c3], 27), (w.heap.size + 1, #[.int .i64 v, .int .i64 row], 49), (w.heap.size + 1 + 1, #[.slice none 0 0, .slice none 0 0, .slice none 0 0], 27)]) => show W.cell? ⟨w.heap.size, 0, none⟩ = some (.slice a1 l.length c1) ∧ W.cell? ⟨w.heap.size, 1, none⟩ = some (.slice a2 r.length c2) ∧ W.cell? ⟨w.heap.size, 2, none⟩ = some (.slice a3 ps.length c3) ∧ W.cell? ⟨w.heap.size + 1, 0, none⟩ = some (.int .i64 v) ∧ W.cell? ⟨w.heap.size + 1, 1, none⟩ = some (.int .i64 row) ∧ W.cell? ⟨w.heap.size + 1 + 1, 0, none⟩ = some (.slice none 0 0) ∧ W.cell? ⟨w.heap.size + 1 + 1, 1, none⟩ = some (.slice none 0 0) ∧ W.cell? ⟨w.heap.size + 1 + 1, 2, none⟩ = some (.slice none 0 0) ∧ W.frozen? ⟨w.heap.size + 1 + 1, 0, none⟩ = false ∧ W.frozen? ⟨w.heap.size + 1 + 1, 1, none⟩ = false ∧ W.frozen? ⟨w.heap.size + 1 + 1, 2, none⟩ = false from ⟨h.cell 0 0 rfl rfl, h.cell 0 1 rfl rfl, h.cell 0 2 rfl rfl, h.cell 1 0 rfl rfl, h.cell 1 1 rfl rfl, h.cell 2 0 rfl rfl, h.cell 2 1 rfl rfl, h.cell 2 2 rfl rfl, h.free 2 0 rfl, h.free 2 1 rfl, h.free 2 2 rfl⟩)
  obtain ⟨c00, c01, c02, c10, c11, c20, c21, c22, f20, f21, f22⟩ := KA.out _ X.out
  go_wp2_with fail
  go_at_call 30
  refine (HCK.out _ X.out.below).mono ?_
  rintro e w2 ⟨rfl, hb⟩
  have X := hide (X.out.up hb)
  clear hb
  clear c00 c01 c02 c10 c11 c20 c21 c22 f20 f21 f22
  cases qc with
  | false =>
    obtain ⟨rfl, rfl, rfl, rfl, rfl⟩ := NO.out (by simp; try omega)
    clear YES ST CKL HT
    obtain ⟨c00, c01, c02, c10, c11, c20, c21, c22, f20, f21, f22⟩ := KA.out _ X.out
    go_wp2_with fail
    clear c00 c01 c02 c10 c11 c20 c21 c22 f20 f21 f22
    go_at_call 70
    refine (CC.out _ X.out.below).mono ?_
    rintro e wq ⟨x', y', z', lo, hi, n1, h1, n2, h2, n3, h3, rfl, q1, q2, O, hb⟩
    obtain ⟨g1, k1, rfl⟩ := O.x.form
    obtain ⟨g2, k2, rfl⟩ := O.y.form
    obtain ⟨g3, k3, rfl⟩ := O.z.own.form
    have Q1 := hide (show w.heap.size + 1 + 1 < lo by have := X.out.lt 2 rfl; omega)
    have X := hide (X.out.up hb)
    have O := hide O
    clear hb q1 q2
    obtain ⟨c00, c01, c02, c10, c11, c20, c21, c22, f20, f21, f22⟩ := KA.out _ X.out
    go_wp2_with fail
    clear c00 c01 c02 c10 c11 c20 c21 c22 f20 f21 f22
    have Z := ((X.out.set 2 0 rfl (.slice g1 LL.length k1)).set 2 1 rfl (.slice g2 RR.length k2)).set 2 2 rfl (.slice g3 PP.length k3)
    have z0 := Z.cell 2 0 rfl rfl
    have z1 := Z.cell 2 1 rfl rfl
    have z2 := Z.cell 2 2 rfl rfl
    have q1 := Q1.out
    have O6 := (O.out).seg (seg3 _ (w.heap.size + 1 + 1) (.slice g1 LL.length k1) (.slice g2 RR.length k2) (.slice g3 PP.length k3)) (.inr (by omega))
    exact bodyPost_ret (v := .tuple #[.agg #[.slice g1 LL.length k1, .slice g2 RR.length k2, .slice g3 PP.length k3], .int .i64 0, .bool false]) (by simp [results, Try.results25, go_sem, z0, z1, z2]) rfl
      ⟨_, _, _, _, _, _, _, _, _, _, _, rfl, by omega, O6.top.2, O6, Z.below⟩
  | true =>
    have CK64 := hide (CKL.out (by simp))
    obtain ⟨c00, c01, c02, c10, c11, c20, c21, c22, f20, f21, f22⟩ := KA.out _ X.out
    go_wp2_with fail
    go_at_call 69
    refine (HCI.out _).mono ?_
    rintro e w3 ⟨rfl, hb⟩
    have X := hide (X.out.up hb)
    clear hb
    clear c00 c01 c02 c10 c11 c20 c21 c22 f20 f21 f22
    cases qi with
    | false =>
      obtain ⟨rfl, rfl, rfl, rfl, rfl⟩ := NO.out (by simp; try omega)
      clear YES ST CKL HT
      obtain ⟨c00, c01, c02, c10, c11, c20, c21, c22, f20, f21, f22⟩ := KA.out _ X.out
      go_wp2_with fail
      clear c00 c01 c02 c10 c11 c20 c21 c22 f20 f21 f22
      go_at_call 70
      refine (CC.out _ X.out.below).mono ?_
      rintro e wq ⟨x', y', z', lo, hi, n1, h1, n2, h2, n3, h3, rfl, q1, q2, O, hb⟩
      obtain ⟨g1, k1, rfl⟩ := O.x.form
      obtain ⟨g2, k2, rfl⟩ := O.y.form
      obtain ⟨g3, k3, rfl⟩ := O.z.own.form
      have Q1 := hide (show w.heap.size + 1 + 1 < lo by have := X.out.lt 2 rfl; omega)
      have X := hide (X.out.up hb)
      have O := hide O
      clear hb q1 q2
      obtain ⟨c00, c01, c02, c10, c11, c20, c21, c22, f20, f21, f22⟩ := KA.out _ X.out
      go_wp2_with fail
      clear c00 c01 c02 c10 c11 c20 c21 c22 f20 f21 f22
      have Z := ((X.out.set 2 0 rfl (.slice g1 LL.length k1)).set 2 1 rfl (.slice g2 RR.length k2)).set 2 2 rfl (.slice g3 PP.length k3)
      have z0 := Z.cell 2 0 rfl rfl
      have z1 := Z.cell 2 1 rfl rfl
      have z2 := Z.cell 2 2 rfl rfl
      have q1 := Q1.out
      have O6 := (O.out).seg (seg3 _ (w.heap.size + 1 + 1) (.slice g1 LL.length k1) (.slice g2 RR.length k2) (.slice g3 PP.length k3)) (.inr (by omega))
      exact bodyPost_ret (v := .tuple #[.agg #[.slice g1 LL.length k1, .slice g2 RR.length k2, .slice g3 PP.length k3], .int .i64 0, .bool false]) (by simp [results, Try.results25, go_sem, z0, z1, z2]) rfl
        ⟨_, _, _, _, _, _, _, _, _, _, _, rfl, by omega, O6.top.2, O6, Z.below⟩
    | true =>
      obtain ⟨c00, c01, c02, c10, c11, c20, c21, c22, f20, f21, f22⟩ := KA.out _ X.out
      go_wp2_with fail
      go_at_call 36
      refine (HCF.out _ X.out.below).mono ?_
      rintro e w4 ⟨rfl, hb⟩
      have X := hide (X.out.up hb)
      clear hb
      clear c00 c01 c02 c10 c11 c20 c21 c22 f20 f21 f22
      by_cases h0 : qr < 0
      case neg =>
        have t1 : decide (0 ≤ qr) = true := decide_eq_true (by omega)
        have t2 : decide (qr ≥ 0) = true := decide_eq_true (by omega)
        obtain ⟨rfl, rfl, rfl, rfl, rfl⟩ := NO.out (by simp; try omega)
        clear YES ST CKL HT
        obtain ⟨c00, c01, c02, c10, c11, c20, c21, c22, f20, f21, f22⟩ := KA.out _ X.out
        go_wp2_with fail
        clear c00 c01 c02 c10 c11 c20 c21 c22 f20 f21 f22
        go_at_call 70
        refine (CC.out _ X.out.below).mono ?_
        rintro e wq ⟨x', y', z', lo, hi, n1, h1, n2, h2, n3, h3, rfl, q1, q2, O, hb⟩
        obtain ⟨g1, k1, rfl⟩ := O.x.form
        obtain ⟨g2, k2, rfl⟩ := O.y.form
        obtain ⟨g3, k3, rfl⟩ := O.z.own.form
        have Q1 := hide (show w.heap.size + 1 + 1 < lo by have := X.out.lt 2 rfl; omega)
        have X := hide (X.out.up hb)
        have O := hide O
        clear hb q1 q2
        obtain ⟨c00, c01, c02, c10, c11, c20, c21, c22, f20, f21, f22⟩ := KA.out _ X.out
        go_wp2_with fail
        clear c00 c01 c02 c10 c11 c20 c21 c22 f20 f21 f22
        have Z := ((X.out.set 2 0 rfl (.slice g1 LL.length k1)).set 2 1 rfl (.slice g2 RR.length k2)).set 2 2 rfl (.slice g3 PP.length k3)
        have z0 := Z.cell 2 0 rfl rfl
        have z1 := Z.cell 2 1 rfl rfl
        have z2 := Z.cell 2 2 rfl rfl
        have q1 := Q1.out
        have O6 := (O.out).seg (seg3 _ (w.heap.size + 1 + 1) (.slice g1 LL.length k1) (.slice g2 RR.length k2) (.slice g3 PP.length k3)) (.inr (by omega))
        exact bodyPost_ret (v := .tuple #[.agg #[.slice g1 LL.length k1, .slice g2 RR.length k2, .slice g3 PP.length k3], .int .i64 0, .bool false]) (by simp [results, Try.results25, go_sem, z0, z1, z2]) rfl
          ⟨_, _, _, _, _, _, _, _, _, _, _, rfl, by omega, O6.top.2, O6, Z.below⟩
      have t1 : decide (0 ≤ qr) = false := decide_eq_false (by omega)
      have t2 : decide (qr ≥ 0) = false := decide_eq_false (by omega)
      by_cases h64 : l.length < 64
      case neg =>
        have h65 : l.length = 64 := by have := CK64.out.2; omega
        have t3 : decide (l.length = 64) = true := decide_eq_true h65
        have t4 : ((l.length : Int) == 64) = true := by simp; omega
        clear h65
        obtain ⟨rfl, rfl, rfl, rfl, rfl⟩ := NO.out (by simp; try omega)
        clear YES ST CKL HT
        obtain ⟨c00, c01, c02, c10, c11, c20, c21, c22, f20, f21, f22⟩ := KA.out _ X.out
        go_wp2_with fail
        clear c00 c01 c02 c10 c11 c20 c21 c22 f20 f21 f22
        go_at_call 70
        refine (CC.out _ X.out.below).mono ?_
        rintro e wq ⟨x', y', z', lo, hi, n1, h1, n2, h2, n3, h3, rfl, q1, q2, O, hb⟩
        obtain ⟨g1, k1, rfl⟩ := O.x.form
        obtain ⟨g2, k2, rfl⟩ := O.y.form
        obtain ⟨g3, k3, rfl⟩ := O.z.own.form
        have Q1 := hide (show w.heap.size + 1 + 1 < lo by have := X.out.lt 2 rfl; omega)
        have X := hide (X.out.up hb)
        have O := hide O
        clear hb q1 q2
        obtain ⟨c00, c01, c02, c10, c11, c20, c21, c22, f20, f21, f22⟩ := KA.out _ X.out
        go_wp2_with fail
        clear c00 c01 c02 c10 c11 c20 c21 c22 f20 f21 f22
        have Z := ((X.out.set 2 0 rfl (.slice g1 LL.length k1)).set 2 1 rfl (.slice g2 RR.length k2)).set 2 2 rfl (.slice g3 PP.length k3)
        have z0 := Z.cell 2 0 rfl rfl
        have z1 := Z.cell 2 1 rfl rfl
        have z2 := Z.cell 2 2 rfl rfl
        have q1 := Q1.out
        have O6 := (O.out).seg (seg3 _ (w.heap.size + 1 + 1) (.slice g1 LL.length k1) (.slice g2 RR.length k2) (.slice g3 PP.length k3)) (.inr (by omega))
        exact bodyPost_ret (v := .tuple #[.agg #[.slice g1 LL.length k1, .slice g2 RR.length k2, .slice g3 PP.length k3], .int .i64 0, .bool false]) (by simp [results, Try.results25, go_sem, z0, z1, z2]) rfl
          ⟨_, _, _, _, _, _, _, _, _, _, _, rfl, by omega, O6.top.2, O6, Z.below⟩
      have t3 : decide (l.length = 64) = false := decide_eq_false (by omega)
      have t4 : ((l.length : Int) == 64) = false := by simp; omega
      obtain ⟨rfl, rfl, rfl, rfl, rfl⟩ := YES.out (by simp) (by simp) h0 h64
      have hrl := hide CK64.out.1
      have hst := hide (ST.out (by simp))
      have HT := hide (HT.out hrl.out)
      clear NO YES ST CKL HCK HCI HCF CK64 CC
      obtain ⟨c00, c01, c02, c10, c11, c20, c21, c22, f20, f21, f22⟩ := KA.out _ X.out
      go_wp2_with fail
      clear c00 c01 c02 c10 c11 c20 c21 c22 f20 f21 f22
      clear t1 t2 t3 t4
      go_at_call 71
      refine (I3.out _ X.out.below).mono ?_
      rintro e w5 ⟨z', rfl, OZ, hb⟩
      obtain ⟨g3, k3, rfl⟩ := OZ.form
      have OZ := hide (Owp.of OZ hb.size)
      have hw4 := hide (show w.heap.size + 1 + 1 < w4.heap.size from X.out.lt 2 rfl)
      have X := hide (X.out.up hb)
      clear hb I3
      skip
      have c00 : w5.cell? ⟨w.heap.size, 0, none⟩ = some (.slice a1 l.length c1) := X.out.cell 0 0 rfl rfl
      go_upto_region 5 with fail
      clear c00
      have hcap1 : (l.length : Int) ≤ (c1 : Int) := by have := CAPS.out.1; omega
      have hcap2 : (l.length : Int) ≤ (c2 : Int) := by have := CAPS.out.2; have := hrl.out; omega
      have hll : (l.length : Int) ≤ 64 := by omega
      have hll2 : l.length ≤ c1 := CAPS.out.1
      have hll3 : l.length ≤ c2 := by have := CAPS.out.2; have := hrl.out; omega
      have X1 := X
      go_cut [9] (fun q9 wx => ∃ (W' : World) (m gx gy kx ky : Nat), W' = wx ∧ q9 = .pointer (some ⟨m, 0, none⟩) ∧ Hid (Kn w5 wx [(m, #[.slice (some ⟨gx, 0, none⟩) (l.length + 1) kx, .slice (some ⟨gy, 0, none⟩) (l.length + 1) ky, .slice g3 ps.length k3], 27)]) ∧ Hid (Ow wx (.slice (some ⟨gx, 0, none⟩) (l.length + 1) kx) (l ++ [v]) gx (gx + 1)) ∧ Hid (Ow wx (.slice (some ⟨gy, 0, none⟩) (l.length + 1) ky) (r ++ [row]) gy (gy + 1)) ∧ Hid (w5.heap.size ≤ gx ∧ w5.heap.size ≤ gy ∧ gx ≠ gy ∧ gx ≠ m ∧ gy ≠ m))
      case first => as_aux_lemma =>
        have KS := hide (fun (W : World) (M : List (Nat × Array Value × TypeId)) (h : Kn w5 W M) => show W.cell? ⟨w.heap.size, 0, none⟩ = some (.slice a1 l.length c1) ∧ W.cell? ⟨w.heap.size, 1, none⟩ = some (.slice a2 r.length c2) ∧ W.cell? ⟨w.heap.size + 1, 0, none⟩ = some (.int .i64 v) ∧ W.cell? ⟨w.heap.size + 1, 1, none⟩ = some (.int .i64 row) from ⟨(X1.out.up h.below).cell 0 0 rfl rfl, (X1.out.up h.below).cell 0 1 rfl rfl, (X1.out.up h.below).cell 1 0 rfl rfl, (X1.out.up h.below).cell 1 1 rfl rfl⟩)
        have J1 := hide (fun (W : World) (M : List (Nat × Array Value × TypeId)) (h : Kn w5 W M) => show Ints W w.heap.size (.slice a1 l.length l.length) l from (I1.out W (X1.out.up h.below).below).full)
        have J2 := hide (fun (W : World) (M : List (Nat × Array Value × TypeId)) (h : Kn w5 W M) => show Ints W w.heap.size (.slice a2 l.length l.length) r from by
          have h2 := I2.out W (X1.out.up h.below).below
          rw [hrl.out] at h2
          exact h2.full)
        have Y0 := hide (Kv.start w5 (Bv.true w5) (Bv.true w5))
        have Y := hide Y0.out.drew
        clear X X1 OZ hst HT I1 I2 CAPS
        obtain ⟨c00, c01, c10, c11⟩ := KS.out _ _ Y.out.kn
        skip
        go_region_held3 (fun W => W.cell? ⟨w.heap.size, 0, none⟩ = some (.slice a1 l.length c1) ∧ W.cell? ⟨w.heap.size, 1, none⟩ = some (.slice a2 r.length c2) ∧ W.cell? ⟨w.heap.size + 1, 0, none⟩ = some (.int .i64 v) ∧ W.cell? ⟨w.heap.size + 1, 1, none⟩ = some (.int .i64 row)) (first | with_reducible exact KS.out _ _ Y.out.kn | with_reducible exact KS.out _ _ (Y.out.alloc _ _).kn | with_reducible exact KS.out _ _ ((Y.out.alloc _ _).alloc _ _).kn | with_reducible exact KS.out _ _ (((Y.out.alloc _ _).alloc _ _).alloc _ _).kn | with_reducible exact KS.out _ _ (Y0.out.alloc _ _).drew.kn | with_reducible exact KS.out _ _ ((Y0.out.alloc _ _).alloc _ _).drew.kn | with_reducible exact KS.out _ _ (((Y0.out.alloc _ _).alloc _ _).alloc _ _).drew.kn | with_reducible exact KS.out _ _ (Y.out.kn.put3v 0 rfl _ _ _) | with_reducible exact KS.out _ _ (Y.out.kn.put3v 1 rfl _ _ _) | with_reducible exact KS.out _ _ (Y.out.kn.put3v 2 rfl _ _ _) | go_keep) (first
          | ((refine step_growK rfl (.tmp 43) (.tmp 46) rfl a1 l.length w.heap.size l w5 _ rfl (by first | with_reducible exact Y.out.kn | with_reducible exact (Y.out.alloc _ _).kn | with_reducible exact ((Y.out.alloc _ _).alloc _ _).kn | with_reducible exact (((Y.out.alloc _ _).alloc _ _).alloc _ _).kn | with_reducible exact (Y0.out.alloc _ _).drew.kn | with_reducible exact ((Y0.out.alloc _ _).alloc _ _).drew.kn | with_reducible exact (((Y0.out.alloc _ _).alloc _ _).alloc _ _).drew.kn) (J1.out _ _) (by simp [Act.eval, Act.put]) v 1 _ (by (first | exact List.mem_cons_self .. | exact List.mem_append_right _ (List.mem_cons_self ..) | exact List.mem_append_left _ (List.mem_append_right _ (List.mem_cons_self ..)) | exact List.mem_append_left _ (List.mem_cons_self ..) | exact List.mem_append_left _ (List.mem_append_left _ (List.mem_cons_self ..)) | exact List.mem_cons_of_mem _ (List.mem_cons_self ..) | exact List.mem_cons_of_mem _ (List.mem_cons_of_mem _ (List.mem_cons_self ..)))) (by simp [Act.eval, Act.put]) (by omega) ?_); intro gx kx wx A1 A2 A3; have A4 := A3.size; (try simp only [World.size_alloc, World.size_drew] at A2 A4); have Qx := hide (And.intro A2 (And.intro A1.top A4)); (first | replace Y := hide (by with_reducible exact Y.out.nextA A3 (Bv.ow A1)) | replace Y := hide (by with_reducible exact (Y.out.alloc _ _).nextA A3 (Bv.ow A1)) | replace Y := hide (by with_reducible exact ((Y.out.alloc _ _).alloc _ _).nextA A3 (Bv.ow A1)) | replace Y := hide (by with_reducible exact (((Y.out.alloc _ _).alloc _ _).alloc _ _).nextA A3 (Bv.ow A1)) | replace Y := hide (by with_reducible exact (Y0.out.alloc _ _).drew.nextA A3 (Bv.ow A1)) | replace Y := hide (by with_reducible exact ((Y0.out.alloc _ _).alloc _ _).drew.nextA A3 (Bv.ow A1)) | replace Y := hide (by with_reducible exact (((Y0.out.alloc _ _).alloc _ _).alloc _ _).drew.nextA A3 (Bv.ow A1)) | fail); clear A1 A2 A3 A4 c00 c01 c10 c11; obtain ⟨c00, c01, c10, c11⟩ := KS.out _ _ Y.out.kn; (try simp only [World.size_alloc, World.size_drew, List.cons_append, List.nil_append] at Y); (first | clear e00 e01 e02 f00 f01 f02 f0l | skip); (first | (have e02 := Y.out.kn.cell 0 2 rfl rfl; have e01 := Y.out.kn.cell 0 1 rfl rfl; have e00 := Y.out.kn.cell 0 0 rfl rfl; have f00 := Y.out.kn.free 0 0 rfl; have f01 := Y.out.kn.free 0 1 rfl; have f02 := Y.out.kn.free 0 2 rfl; have f0l := Y.out.kn.lt 0 rfl) | (have e02 := Y.out.kn.cell 1 2 rfl rfl; have e01 := Y.out.kn.cell 1 1 rfl rfl; have e00 := Y.out.kn.cell 1 0 rfl rfl; have f00 := Y.out.kn.free 1 0 rfl; have f01 := Y.out.kn.free 1 1 rfl; have f02 := Y.out.kn.free 1 2 rfl; have f0l := Y.out.kn.lt 1 rfl) | (have e02 := Y.out.kn.cell 2 2 rfl rfl; have e01 := Y.out.kn.cell 2 1 rfl rfl; have e00 := Y.out.kn.cell 2 0 rfl rfl; have f00 := Y.out.kn.free 2 0 rfl; have f01 := Y.out.kn.free 2 1 rfl; have f02 := Y.out.kn.free 2 2 rfl; have f0l := Y.out.kn.lt 2 rfl) | skip))
          | ((refine step_growK rfl (.tmp 52) (.tmp 55) rfl a2 l.length w.heap.size r w5 _ hrl.out.symm (by first | with_reducible exact Y.out.kn | with_reducible exact (Y.out.alloc _ _).kn | with_reducible exact ((Y.out.alloc _ _).alloc _ _).kn | with_reducible exact (((Y.out.alloc _ _).alloc _ _).alloc _ _).kn | with_reducible exact (Y0.out.alloc _ _).drew.kn | with_reducible exact ((Y0.out.alloc _ _).alloc _ _).drew.kn | with_reducible exact (((Y0.out.alloc _ _).alloc _ _).alloc _ _).drew.kn) (J2.out _ _) (by simp [Act.eval, Act.put]) row 1 _ (by (first | exact List.mem_cons_self .. | exact List.mem_append_right _ (List.mem_cons_self ..) | exact List.mem_append_left _ (List.mem_append_right _ (List.mem_cons_self ..)) | exact List.mem_append_left _ (List.mem_cons_self ..) | exact List.mem_append_left _ (List.mem_append_left _ (List.mem_cons_self ..)) | exact List.mem_cons_of_mem _ (List.mem_cons_self ..) | exact List.mem_cons_of_mem _ (List.mem_cons_of_mem _ (List.mem_cons_self ..)))) (by simp [Act.eval, Act.put]) (by omega) ?_); intro gy ky wy A1 A2 A3; have A4 := A3.size; (try simp only [World.size_alloc, World.size_drew] at A2 A4); have Qy := hide (And.intro A2 (And.intro A1.top A4)); (first | replace Y := hide (by with_reducible exact Y.out.nextB A3 (Bv.ow A1)) | replace Y := hide (by with_reducible exact (Y.out.alloc _ _).nextB A3 (Bv.ow A1)) | replace Y := hide (by with_reducible exact ((Y.out.alloc _ _).alloc _ _).nextB A3 (Bv.ow A1)) | replace Y := hide (by with_reducible exact (((Y.out.alloc _ _).alloc _ _).alloc _ _).nextB A3 (Bv.ow A1)) | replace Y := hide (by with_reducible exact (Y0.out.alloc _ _).drew.nextB A3 (Bv.ow A1)) | replace Y := hide (by with_reducible exact ((Y0.out.alloc _ _).alloc _ _).drew.nextB A3 (Bv.ow A1)) | replace Y := hide (by with_reducible exact (((Y0.out.alloc _ _).alloc _ _).alloc _ _).drew.nextB A3 (Bv.ow A1)) | fail); clear A1 A2 A3 A4 c00 c01 c10 c11; obtain ⟨c00, c01, c10, c11⟩ := KS.out _ _ Y.out.kn; (try simp only [World.size_alloc, World.size_drew, List.cons_append, List.nil_append] at Y); (first | clear e00 e01 e02 f00 f01 f02 f0l | skip); (first | (have e02 := Y.out.kn.cell 0 2 rfl rfl; have e01 := Y.out.kn.cell 0 1 rfl rfl; have e00 := Y.out.kn.cell 0 0 rfl rfl; have f00 := Y.out.kn.free 0 0 rfl; have f01 := Y.out.kn.free 0 1 rfl; have f02 := Y.out.kn.free 0 2 rfl; have f0l := Y.out.kn.lt 0 rfl) | (have e02 := Y.out.kn.cell 1 2 rfl rfl; have e01 := Y.out.kn.cell 1 1 rfl rfl; have e00 := Y.out.kn.cell 1 0 rfl rfl; have f00 := Y.out.kn.free 1 0 rfl; have f01 := Y.out.kn.free 1 1 rfl; have f02 := Y.out.kn.free 1 2 rfl; have f0l := Y.out.kn.lt 1 rfl) | (have e02 := Y.out.kn.cell 2 2 rfl rfl; have e01 := Y.out.kn.cell 2 1 rfl rfl; have e00 := Y.out.kn.cell 2 0 rfl rfl; have f00 := Y.out.kn.free 2 0 rfl; have f01 := Y.out.kn.free 2 1 rfl; have f02 := Y.out.kn.free 2 2 rfl; have f0l := Y.out.kn.lt 2 rfl) | skip)))
        all_goals go_wp2_with fail
        all_goals go_meet
        all_goals first
          | (have Z := Y.out.kn.alloc #[.slice (some ⟨gx, 0, none⟩) (l.length + 1) kx, .slice (some ⟨gy, 0, none⟩) (l.length + 1) ky, .slice g3 ps.length k3] 27; (try simp only [World.size_alloc, World.size_drew] at Z); refine ⟨_, _, gx, gy, kx, ky, rfl, rfl, (by with_reducible exact hide (Z.pick (List.mem_append_right _ (List.mem_cons_self ..)))), ?_, ?_, ?_⟩; (exact hide (Y.out.a _ (below1 _ _))); (exact hide (Y.out.b _ (below1 _ _))); (have q1 := Qx.out; have q2 := Qy.out; have t1 := Y.out.a.now.top; have t2 := Y.out.b.now.top; exact hide ⟨by omega, by omega, by omega, by omega, by omega⟩))
          | (have Z := Y.out.kn.put3v 0 rfl (.slice (some ⟨gx, 0, none⟩) (l.length + 1) kx) (.slice (some ⟨gy, 0, none⟩) (l.length + 1) ky) (.slice g3 ps.length k3); (try simp only [List.set_cons_zero, List.set_cons_succ] at Z); refine ⟨_, _, gx, gy, kx, ky, rfl, rfl, (by with_reducible exact hide (Z.pick (List.mem_cons_self ..))), ?_, ?_, ?_⟩; (have q1 := Qx.out; have q2 := Qy.out; have t1 := Y.out.a.now.top; have t2 := Y.out.b.now.top; exact hide (Y.out.a.now.seg (seg3 _ _ _ _ _) (by omega))); (have q1 := Qx.out; have q2 := Qy.out; have t1 := Y.out.a.now.top; have t2 := Y.out.b.now.top; exact hide (Y.out.b.now.seg (seg3 _ _ _ _ _) (by omega))); (have q1 := Qx.out; have q2 := Qy.out; have t1 := Y.out.a.now.top; have t2 := Y.out.b.now.top; exact hide ⟨by omega, by omega, by omega, by omega, by omega⟩))
          | (have Z := Y.out.kn.put3v 1 rfl (.slice (some ⟨gx, 0, none⟩) (l.length + 1) kx) (.slice (some ⟨gy, 0, none⟩) (l.length + 1) ky) (.slice g3 ps.length k3); (try simp only [List.set_cons_zero, List.set_cons_succ] at Z); refine ⟨_, _, gx, gy, kx, ky, rfl, rfl, (by with_reducible exact hide (Z.pick (List.mem_cons_of_mem _ (List.mem_cons_self ..)))), ?_, ?_, ?_⟩; (have q1 := Qx.out; have q2 := Qy.out; have t1 := Y.out.a.now.top; have t2 := Y.out.b.now.top; exact hide (Y.out.a.now.seg (seg3 _ _ _ _ _) (by omega))); (have q1 := Qx.out; have q2 := Qy.out; have t1 := Y.out.a.now.top; have t2 := Y.out.b.now.top; exact hide (Y.out.b.now.seg (seg3 _ _ _ _ _) (by omega))); (have q1 := Qx.out; have q2 := Qy.out; have t1 := Y.out.a.now.top; have t2 := Y.out.b.now.top; exact hide ⟨by omega, by omega, by omega, by omega, by omega⟩))
          | (have Z := Y.out.kn.put3v 2 rfl (.slice (some ⟨gx, 0, none⟩) (l.length + 1) kx) (.slice (some ⟨gy, 0, none⟩) (l.length + 1) ky) (.slice g3 ps.length k3); (try simp only [List.set_cons_zero, List.set_cons_succ] at Z); refine ⟨_, _, gx, gy, kx, ky, rfl, rfl, (by with_reducible exact hide (Z.pick (List.mem_cons_of_mem _ (List.mem_cons_of_mem _ (List.mem_cons_self ..))))), ?_, ?_, ?_⟩; (have q1 := Qx.out; have q2 := Qy.out; have t1 := Y.out.a.now.top; have t2 := Y.out.b.now.top; exact hide (Y.out.a.now.seg (seg3 _ _ _ _ _) (by omega))); (have q1 := Qx.out; have q2 := Qy.out; have t1 := Y.out.a.now.top; have t2 := Y.out.b.now.top; exact hide (Y.out.b.now.seg (seg3 _ _ _ _ _) (by omega))); (have q1 := Qx.out; have q2 := Qy.out; have t1 := Y.out.a.now.top; have t2 := Y.out.b.now.top; exact hide ⟨by omega, by omega, by omega, by omega, by omega⟩))
          | fail "fin"
      case rest =>
        skip
        obtain ⟨w6, m, gx, gy, kx, ky, rfl, rfl, Y, AX, AY, AP⟩ := hcut
        have hw5 := hide (show w.heap.size + 1 + 1 < w5.heap.size ∧ w4.heap.size ≤ w5.heap.size ∧ w.heap.size + 1 + 1 < w4.heap.size from ⟨X1.out.lt 2 rfl, OZ.out.le, hw4.out⟩)
        have hmm := hide (show w5.heap.size ≤ m ∧ m < w6.heap.size from ⟨Y.out.low 0 rfl, Y.out.lt 0 rfl⟩)
        have O := hide (show O3 w6 (.slice (some ⟨gx, 0, none⟩) (l.length + 1) kx) (.slice (some ⟨gy, 0, none⟩) (l.length + 1) ky) (.slice g3 ps.length k3) ⟨l ++ [v], r ++ [row], ps, l.length, 0⟩ gx (gx + 1) gy (gy + 1) w4.heap.size w5.heap.size from ⟨AX.out, AY.out, OZ.out.trn (P := fun _ => False) (Trn.below Y.out.below) (fun _ _ _ => id), by have := AP.out; omega⟩)
        have X := hide (Kn.joinv X1.out Y.out)
        simp only [List.cons_append, List.nil_append] at X
        obtain ⟨mr, hmr⟩ : ∃ mr, mr = w6.heap.size := ⟨_, rfl⟩
        obtain ⟨n3, hn3⟩ : ∃ q, q = w4.heap.size := ⟨_, rfl⟩
        obtain ⟨h3, hh3⟩ : ∃ q, q = w5.heap.size := ⟨_, rfl⟩
        have HN := hide (show w.heap.size + 1 + 1 < gx ∧ w.heap.size + 1 + 1 < gy ∧ w.heap.size + 1 + 1 < n3 ∧ m ≠ gx ∧ m ≠ gy ∧ h3 ≤ m ∧ gx < mr ∧ gy < mr ∧ h3 ≤ mr ∧ w.heap.size + 1 + 1 < m ∧ m < mr ∧ gx ≠ gy by
          have q1 := hw5.out
          have q2 := hmm.out
          have q3 := AP.out
          have q4 := AX.out.top
          have q5 := AY.out.top
          omega)
        rw [← hn3, ← hh3] at O
        obtain ⟨w7, hw7⟩ : ∃ w7, w7 = w6.alloc (.cells #[.slice (some ⟨gx, 0, none⟩) (l.length + 1) kx, .slice (some ⟨gy, 0, none⟩) (l.length + 1) ky, .slice g3 ps.length k3, .int .i64 (l.length : Int), .int .i64 0] 107) := ⟨_, rfl⟩
        have M := hide (heap_alloc_new w6 (.cells #[.slice (some ⟨gx, 0, none⟩) (l.length + 1) kx, .slice (some ⟨gy, 0, none⟩) (l.length + 1) ky, .slice g3 ps.length k3, .int .i64 (l.length : Int), .int .i64 0] 107))
        have O := hide (O.out.below (below1 w6 (.cells #[.slice (some ⟨gx, 0, none⟩) (l.length + 1) kx, .slice (some ⟨gy, 0, none⟩) (l.length + 1) ky, .slice g3 ps.length k3, .int .i64 (l.length : Int), .int .i64 0] 107)))
        have u0 : w6.cell? ⟨m, 0, none⟩ = some (.slice (some ⟨gx, 0, none⟩) (l.length + 1) kx) := X.out.cell 3 0 rfl rfl
        have u1 : w6.cell? ⟨m, 1, none⟩ = some (.slice (some ⟨gy, 0, none⟩) (l.length + 1) ky) := X.out.cell 3 1 rfl rfl
        have u2 : w6.cell? ⟨m, 2, none⟩ = some (.slice g3 ps.length k3) := X.out.cell 3 2 rfl rfl
        have X := hide (X.out.up (below1 w6 (.cells #[.slice (some ⟨gx, 0, none⟩) (l.length + 1) kx, .slice (some ⟨gy, 0, none⟩) (l.length + 1) ky, .slice g3 ps.length k3, .int .i64 (l.length : Int), .int .i64 0] 107)))
        rw [← hw7] at O X M
        rw [← hmr] at M
        have hpl : (ps.length : Int) ≤ 1048576 := by have := HL.out; omega
        clear X1 Y AX AY OZ hw5 hmm AP hn3 hh3
        go_wp2_with fail
        rw [← hw7]
        try rw [← hmr]
        clear hw7 hmr u0 u1 u2 hpl
        skip
        have HST := hide (show RP.Ok _ _ _ _ from hst.out)
        have HTT := hide (show Hid ((RP.ups v ps.length ⟨l ++ [v], r ++ [row], ps, l.length, 0⟩).put v row = T) from HT)
        clear HT hst
        go_loopw [11] (fun q11 wr => ∃ (k : Nat) (S : RP), k ≤ ps.length ∧ q11 = .int .i64 ((k : Int) - 1) ∧ Hid (S.n + k ≤ ps.length) ∧ Hid (S.Ok (l.length + 1) ps.length k) ∧ Hid ((RP.ups v k S).put v row = T) ∧ Hid (Kn w wr [(w.heap.size, #[.slice a1 l.length c1, .slice a2 r.length c2, .slice a3 ps.length c3], 27), (w.heap.size + 1, #[.int .i64 v, .int .i64 row], 49), (w.heap.size + 1 + 1, #[.slice none 0 0, .slice none 0 0, .slice none 0 0], 27), (m, #[.slice (some ⟨gx, 0, none⟩) (l.length + 1) kx, .slice (some ⟨gy, 0, none⟩) (l.length + 1) ky, .slice g3 ps.length k3], 27)]) ∧ Hid (O3 wr (.slice (some ⟨gx, 0, none⟩) (l.length + 1) kx) (.slice (some ⟨gy, 0, none⟩) (l.length + 1) ky) (.slice g3 ps.length k3) S gx (gx + 1) gy (gy + 1) n3 h3) ∧ Hid (wr.heap[mr]? = some (.cells #[.slice (some ⟨gx, 0, none⟩) (l.length + 1) kx, .slice (some ⟨gy, 0, none⟩) (l.length + 1) ky, .slice g3 ps.length k3, .int .i64 (S.h : Int), .int .i64 (S.n : Int)] 107 (0, 0)))) (fun i _ => (intOf i + 1).toNat)
        case atStart => exact ⟨ps.length, ⟨l ++ [v], r ++ [row], ps, l.length, 0⟩, Nat.le_refl _, rfl, by show 0 + ps.length ≤ ps.length; omega, HST.out, HTT.out, X.out, O.out, M.out⟩
        case round =>
          clear X O M HST HTT
          obtain ⟨k, S, hk, rfl, HNK, OK, HT, X, O, M⟩ := hrel
          have CF := hide (fun (S' : RP) (a c' : Nat) (W : World) (h1' : Hid (W.heap[mr]? = some (.cells #[.slice (some ⟨gx, 0, none⟩) (l.length + 1) kx, .slice (some ⟨gy, 0, none⟩) (l.length + 1) ky, .slice g3 ps.length k3, .int .i64 (S'.h : Int), .int .i64 (S'.n : Int)] 107 (0, 0)))) (h2' : O3 W (.slice (some ⟨gx, 0, none⟩) (l.length + 1) kx) (.slice (some ⟨gy, 0, none⟩) (l.length + 1) ky) (.slice g3 ps.length k3) S' gx (gx + 1) gy (gy + 1) n3 h3) (ok : S'.Ok (l.length + 1) ps.length c') (ha : a < l.length + 1) (hn : S'.n ≤ 1048576) => iFill_oc mr _ _ _ S' a (l.length + 1) ps.length c' gx (gx + 1) gy (gy + 1) n3 h3 W h2' h1'.out (by have := HN.out; unfold P3; omega) ok ha hn)
          cases k with
          | zero => as_aux_lemma =>
            have HTZ := hide (show S.put v row = T from HT.out)
            rw [show (((0 : Nat) : Int) - 1) = -1 from rfl]
            go_wp2_with fail
            go_region
            obtain ⟨gx', e1, hn1, x1, x2, xc⟩ := O.out.x.at (by have := OK.out.l; omega)
            obtain rfl : gx = gx' := by injection e1 with e1; injection e1
            obtain ⟨gy', e2, hn2, y1, y2, yc⟩ := O.out.y.at (by have := OK.out.r; omega)
            obtain rfl : gy = gy' := by injection e2 with e2; injection e2
            have hh1 : S.h < S.l.length := by have := OK.out.l; have := OK.out.h; omega
            have hh2 : S.h < S.r.length := by have := OK.out.r; have := OK.out.h; omega
            have O9 := (O.out.putX hn1 x1 x2 S.h v).putY hn2 y1 y2 S.h row
            have T9 := (((Trn.refl (P3 gx (gx + 1) gy (gy + 1) n3 h3) wr).setCell (.inl ⟨x1, x2⟩) S.h (.int .i64 v)).setCell (.inr (.inl ⟨y1, y2⟩)) S.h (.int .i64 row))
            obtain ⟨w11, hw11⟩ : ∃ w11, w11 = (wr.setCell ⟨gx, S.h, none⟩ (.int .i64 v)).setCell ⟨gy, S.h, none⟩ (.int .i64 row) := ⟨_, rfl⟩
            rw [← hw11] at O9 T9
            have HN9 := HN.out
            have X9 := hide (X.out.trn T9 (fun b hb => by unfold P3 at hb; omega) (by intro e he; unfold P3; simp at he; rcases he with rfl | rfl | rfl | rfl <;> simp <;> omega))
            have M9 := hide ((T9.block mr (Array.getElem?_eq_some_iff.1 M.out).1 (by unfold P3; omega)).trans M.out)
            have O9 := hide (show O3 w11 (.slice (some ⟨gx, 0, none⟩) (l.length + 1) kx) (.slice (some ⟨gy, 0, none⟩) (l.length + 1) ky) (.slice g3 ps.length k3) (S.put v row) gx (gx + 1) gy (gy + 1) n3 h3 from O9)
            rw [HTZ.out] at O9
            obtain ⟨qx, fx⟩ := xc S.h hh1
            obtain ⟨qy, fy⟩ := yc S.h hh2
            have b10 : wr.cell? ⟨w.heap.size + 1, 0, none⟩ = some (.int .i64 v) := X.out.cell 1 0 rfl rfl
            have b11 : wr.cell? ⟨w.heap.size + 1, 1, none⟩ = some (.int .i64 row) := X.out.cell 1 1 rfl rfl
            have bm0 : wr.cell? ⟨m, 0, none⟩ = some (.slice (some ⟨gx, 0, none⟩) (l.length + 1) kx) := X.out.cell 3 0 rfl rfl
            have bm1 : wr.cell? ⟨m, 1, none⟩ = some (.slice (some ⟨gy, 0, none⟩) (l.length + 1) ky) := X.out.cell 3 1 rfl rfl
            have br3 : wr.cell? ⟨mr, 3, none⟩ = some (.int .i64 (S.h : Int)) := cell_of_row wr mr 3 _ _ (0, 0) M.out
            have ne1 : gx ≠ gy := by omega
            have ne2 : gy ≠ gx := by omega
            have ne3 : gx ≠ m := by omega
            have ne4 : m ≠ gx := by omega
            have ne5 : gx ≠ mr := by omega
            have ne6 : mr ≠ gx := by omega
            have ne7 : gx ≠ w.heap.size + 1 := by omega
            have ne8 : w.heap.size + 1 ≠ gx := by omega
            have lx : S.h < l.length + 1 := by omega
            have lx2 : (S.h : Int) < (l.length : Int) + 1 := by omega
            clear xc yc e1 e2 x1 x2 y1 y2 hn1 hn2 hh1 hh2 T9 HN9
            go_wp2_with fail
            go_region
            clear b10 b11 bm0 bm1 br3 qx fx qy fy lx lx2 ne1 ne2 ne3 ne4 ne5 ne6 ne7 ne8
            skip
            have u0 : w11.cell? ⟨m, 0, none⟩ = some (.slice (some ⟨gx, 0, none⟩) (l.length + 1) kx) := X9.out.cell 3 0 rfl rfl
            have u1 : w11.cell? ⟨m, 1, none⟩ = some (.slice (some ⟨gy, 0, none⟩) (l.length + 1) ky) := X9.out.cell 3 1 rfl rfl
            have u2 : w11.cell? ⟨m, 2, none⟩ = some (.slice g3 ps.length k3) := X9.out.cell 3 2 rfl rfl
            have u3 : w11.cell? ⟨w.heap.size + 1 + 1, 0, none⟩ = some (.slice none 0 0) := X9.out.cell 2 0 rfl rfl
            have u4 : w11.cell? ⟨w.heap.size + 1 + 1, 1, none⟩ = some (.slice none 0 0) := X9.out.cell 2 1 rfl rfl
            have u5 : w11.cell? ⟨w.heap.size + 1 + 1, 2, none⟩ = some (.slice none 0 0) := X9.out.cell 2 2 rfl rfl
            have u6 : w11.frozen? ⟨w.heap.size + 1 + 1, 0, none⟩ = false := X9.out.free 2 0 rfl
            have u7 : w11.frozen? ⟨w.heap.size + 1 + 1, 1, none⟩ = false := X9.out.free 2 1 rfl
            have u8 : w11.frozen? ⟨w.heap.size + 1 + 1, 2, none⟩ = false := X9.out.free 2 2 rfl
            have u9 : w11.cell? ⟨mr, 4, none⟩ = some (.int .i64 (S.n : Int)) := cell_of_row w11 mr 4 _ _ (0, 0) M9.out
            have m1 : mr ≠ w.heap.size + 1 + 1 := by have := HN.out; omega
            have m2 : w.heap.size + 1 + 1 ≠ mr := fun h => m1 h.symm
            have m3 : m ≠ w.heap.size + 1 + 1 := by have := HN.out; omega
            have m4 : w.heap.size + 1 + 1 ≠ m := fun h => m3 h.symm
            rw [← hw11]
            clear hw11
            go_wp2_with fail
            go_region
            clear m1 m2 m3 m4 u0 u1 u2 u3 u4 u5 u6 u7 u8 u9
            rename_i KK aa
            refine aa _ _ ?_
            apply wp_ret
            have hTn : T.n = S.n := by rw [← HTZ.out]; rfl
            have q9 := HN.out
            skip
            have Z := (((X9.out.set 2 0 rfl (.slice (some ⟨gx, 0, none⟩) (l.length + 1) kx)).set 2 1 rfl (.slice (some ⟨gy, 0, none⟩) (l.length + 1) ky)).set 2 2 rfl (.slice g3 ps.length k3)).drew.drew.drew
            obtain ⟨W13, hW13⟩ : ∃ q, q = (((w11.setCell ⟨w.heap.size + 1 + 1, 0, none⟩ (.slice (some ⟨gx, 0, none⟩) (l.length + 1) kx)).setCell ⟨w.heap.size + 1 + 1, 1, none⟩ (.slice (some ⟨gy, 0, none⟩) (l.length + 1) ky)).setCell ⟨w.heap.size + 1 + 1, 2, none⟩ (.slice g3 ps.length k3)).drew.drew.drew := ⟨_, rfl⟩
            rw [← hW13] at Z
            have z0 := Z.cell 2 0 rfl rfl
            have z1 := Z.cell 2 1 rfl rfl
            have z2 := Z.cell 2 2 rfl rfl
            have O6 := ((O9.oc (lo := w.heap.size + 1 + 1 + 1) (by omega)).seg (seg3 _ (w.heap.size + 1 + 1) (.slice (some ⟨gx, 0, none⟩) (l.length + 1) kx) (.slice (some ⟨gy, 0, none⟩) (l.length + 1) ky) (.slice g3 ps.length k3)) (.inr (Nat.le_refl _))).below (Below.refl _ _).drew.drew.drew
            rw [← hW13] at O6
            rw [← hW13]
            clear hW13
            exact bodyPost_ret (v := .tuple #[.agg #[.slice (some ⟨gx, 0, none⟩) (l.length + 1) kx, .slice (some ⟨gy, 0, none⟩) (l.length + 1) ky, .slice g3 ps.length k3], .int .i64 (S.n : Int), .bool true]) (by simp [results, Try.results25, go_sem, z0, z1, z2]) rfl
              ⟨_, _, _, _, _, _, _, _, _, _, _, by rw [hTn], by omega, O6.top.2, O6, Z.below⟩
          | succ k => as_aux_lemma =>
            have e0 : (((k + 1 : Nat) : Int) - 1) = (k : Int) := by omega
            rw [e0]
            clear e0
            have hkp : k < S.ps.length := by have := OK.out.p; omega
            have CF := CF
            obtain ⟨gz, rfl, hn3, z1, z2, zc⟩ := O.out.z.at (by omega)
            have Z12 := hide (And.intro z1 z2)
            have HN3 := hide hn3
            obtain ⟨q0, q1', fz0, fz1⟩ := zc k hkp
            obtain ⟨pv, hpv⟩ : ∃ q, q = (S.ps.getD k (0, 0)).1 := ⟨_, rfl⟩
            rw [← hpv] at q0
            have hpl := OK.out.pl k (by omega) (by omega)
            obtain ⟨a, ha⟩ : ∃ a : Nat, S.pl k = (a : Int) := ⟨(S.pl k).toNat, by omega⟩
            have q1 : wr.cell? ⟨gz, k * 2 + 1, none⟩ = some (.int .i64 (a : Int)) := by rw [q1', ← ha]; rfl
            have HA := hide ha
            have hal := hide (show a < l.length + 1 by omega)
            have b10 : wr.cell? ⟨w.heap.size + 1, 0, none⟩ = some (.int .i64 v) := X.out.cell 1 0 rfl rfl
            have hkl : k < ps.length := by omega
            have hk0 : decide ((0 : Int) ≤ (k : Int)) = true := decide_eq_true (by omega)
            clear hn3 z1 z2 zc ha hpl q1'
            by_cases hgt : v < pv
            case neg => as_aux_lemma =>
              have HTZ := hide (show S.put v row = T by have h9 := HT.out; rwa [RP.ups_no (by rw [← hpv]; exact hgt)] at h9)
              have t1 : decide (v < pv) = false := decide_eq_false hgt
              have t2 : decide (pv > v) = false := decide_eq_false hgt
              clear hpv CF
              go_wp2_with fail
              go_region
              clear b10 q0 q1 fz0 fz1 t1 t2 hk0
              obtain ⟨gx', e1, hn1, x1, x2, xc⟩ := O.out.x.at (by have := OK.out.l; omega)
              obtain rfl : gx = gx' := by injection e1 with e1; injection e1
              obtain ⟨gy', e2, hn2, y1, y2, yc⟩ := O.out.y.at (by have := OK.out.r; omega)
              obtain rfl : gy = gy' := by injection e2 with e2; injection e2
              have hh1 : S.h < S.l.length := by have := OK.out.l; have := OK.out.h; omega
              have hh2 : S.h < S.r.length := by have := OK.out.r; have := OK.out.h; omega
              have O9 := (O.out.putX hn1 x1 x2 S.h v).putY hn2 y1 y2 S.h row
              have T9 := (((Trn.refl (P3 gx (gx + 1) gy (gy + 1) n3 h3) wr).setCell (.inl ⟨x1, x2⟩) S.h (.int .i64 v)).setCell (.inr (.inl ⟨y1, y2⟩)) S.h (.int .i64 row))
              obtain ⟨w11, hw11⟩ : ∃ w11, w11 = (wr.setCell ⟨gx, S.h, none⟩ (.int .i64 v)).setCell ⟨gy, S.h, none⟩ (.int .i64 row) := ⟨_, rfl⟩
              rw [← hw11] at O9 T9
              have HN9 := HN.out
              have X9 := hide (X.out.trn T9 (fun b hb => by unfold P3 at hb; omega) (by intro e he; unfold P3; simp at he; rcases he with rfl | rfl | rfl | rfl <;> simp <;> omega))
              have M9 := hide ((T9.block mr (Array.getElem?_eq_some_iff.1 M.out).1 (by unfold P3; omega)).trans M.out)
              have O9 := hide (show O3 w11 (.slice (some ⟨gx, 0, none⟩) (l.length + 1) kx) (.slice (some ⟨gy, 0, none⟩) (l.length + 1) ky) (.slice (some ⟨gz, 0, none⟩) ps.length k3) (S.put v row) gx (gx + 1) gy (gy + 1) n3 h3 from O9)
              rw [HTZ.out] at O9
              obtain ⟨qx, fx⟩ := xc S.h hh1
              obtain ⟨qy, fy⟩ := yc S.h hh2
              have b10 : wr.cell? ⟨w.heap.size + 1, 0, none⟩ = some (.int .i64 v) := X.out.cell 1 0 rfl rfl
              have b11 : wr.cell? ⟨w.heap.size + 1, 1, none⟩ = some (.int .i64 row) := X.out.cell 1 1 rfl rfl
              have bm0 : wr.cell? ⟨m, 0, none⟩ = some (.slice (some ⟨gx, 0, none⟩) (l.length + 1) kx) := X.out.cell 3 0 rfl rfl
              have bm1 : wr.cell? ⟨m, 1, none⟩ = some (.slice (some ⟨gy, 0, none⟩) (l.length + 1) ky) := X.out.cell 3 1 rfl rfl
              have br3 : wr.cell? ⟨mr, 3, none⟩ = some (.int .i64 (S.h : Int)) := cell_of_row wr mr 3 _ _ (0, 0) M.out
              have ne1 : gx ≠ gy := by omega
              have ne2 : gy ≠ gx := by omega
              have ne3 : gx ≠ m := by omega
              have ne4 : m ≠ gx := by omega
              have ne5 : gx ≠ mr := by omega
              have ne6 : mr ≠ gx := by omega
              have ne7 : gx ≠ w.heap.size + 1 := by omega
              have ne8 : w.heap.size + 1 ≠ gx := by omega
              have lx : S.h < l.length + 1 := by omega
              have lx2 : (S.h : Int) < (l.length : Int) + 1 := by omega
              clear xc yc e1 e2 x1 x2 y1 y2 hn1 hn2 hh1 hh2 T9 HN9
              go_wp2_with fail
              go_region
              clear b10 b11 bm0 bm1 br3 qx fx qy fy lx lx2 ne1 ne2 ne3 ne4 ne5 ne6 ne7 ne8
              skip
              have u0 : w11.cell? ⟨m, 0, none⟩ = some (.slice (some ⟨gx, 0, none⟩) (l.length + 1) kx) := X9.out.cell 3 0 rfl rfl
              have u1 : w11.cell? ⟨m, 1, none⟩ = some (.slice (some ⟨gy, 0, none⟩) (l.length + 1) ky) := X9.out.cell 3 1 rfl rfl
              have u2 : w11.cell? ⟨m, 2, none⟩ = some (.slice (some ⟨gz, 0, none⟩) ps.length k3) := X9.out.cell 3 2 rfl rfl
              have u3 : w11.cell? ⟨w.heap.size + 1 + 1, 0, none⟩ = some (.slice none 0 0) := X9.out.cell 2 0 rfl rfl
              have u4 : w11.cell? ⟨w.heap.size + 1 + 1, 1, none⟩ = some (.slice none 0 0) := X9.out.cell 2 1 rfl rfl
              have u5 : w11.cell? ⟨w.heap.size + 1 + 1, 2, none⟩ = some (.slice none 0 0) := X9.out.cell 2 2 rfl rfl
              have u6 : w11.frozen? ⟨w.heap.size + 1 + 1, 0, none⟩ = false := X9.out.free 2 0 rfl
              have u7 : w11.frozen? ⟨w.heap.size + 1 + 1, 1, none⟩ = false := X9.out.free 2 1 rfl
              have u8 : w11.frozen? ⟨w.heap.size + 1 + 1, 2, none⟩ = false := X9.out.free 2 2 rfl
              have u9 : w11.cell? ⟨mr, 4, none⟩ = some (.int .i64 (S.n : Int)) := cell_of_row w11 mr 4 _ _ (0, 0) M9.out
              have m1 : mr ≠ w.heap.size + 1 + 1 := by have := HN.out; omega
              have m2 : w.heap.size + 1 + 1 ≠ mr := fun h => m1 h.symm
              have m3 : m ≠ w.heap.size + 1 + 1 := by have := HN.out; omega
              have m4 : w.heap.size + 1 + 1 ≠ m := fun h => m3 h.symm
              rw [← hw11]
              clear hw11
              go_wp2_with fail
              go_region
              clear m1 m2 m3 m4 u0 u1 u2 u3 u4 u5 u6 u7 u8 u9
              rename_i KK aa
              refine aa _ _ ?_
              apply wp_ret
              have hTn : T.n = S.n := by rw [← HTZ.out]; rfl
              have q9 := HN.out
              skip
              have Z := (((X9.out.set 2 0 rfl (.slice (some ⟨gx, 0, none⟩) (l.length + 1) kx)).set 2 1 rfl (.slice (some ⟨gy, 0, none⟩) (l.length + 1) ky)).set 2 2 rfl (.slice (some ⟨gz, 0, none⟩) ps.length k3)).drew.drew.drew
              obtain ⟨W13, hW13⟩ : ∃ q, q = (((w11.setCell ⟨w.heap.size + 1 + 1, 0, none⟩ (.slice (some ⟨gx, 0, none⟩) (l.length + 1) kx)).setCell ⟨w.heap.size + 1 + 1, 1, none⟩ (.slice (some ⟨gy, 0, none⟩) (l.length + 1) ky)).setCell ⟨w.heap.size + 1 + 1, 2, none⟩ (.slice (some ⟨gz, 0, none⟩) ps.length k3)).drew.drew.drew := ⟨_, rfl⟩
              rw [← hW13] at Z
              have z0 := Z.cell 2 0 rfl rfl
              have z1 := Z.cell 2 1 rfl rfl
              have z2 := Z.cell 2 2 rfl rfl
              have O6 := ((O9.oc (lo := w.heap.size + 1 + 1 + 1) (by omega)).seg (seg3 _ (w.heap.size + 1 + 1) (.slice (some ⟨gx, 0, none⟩) (l.length + 1) kx) (.slice (some ⟨gy, 0, none⟩) (l.length + 1) ky) (.slice (some ⟨gz, 0, none⟩) ps.length k3)) (.inr (Nat.le_refl _))).below (Below.refl _ _).drew.drew.drew
              rw [← hW13] at O6
              rw [← hW13]
              clear hW13
              exact bodyPost_ret (v := .tuple #[.agg #[.slice (some ⟨gx, 0, none⟩) (l.length + 1) kx, .slice (some ⟨gy, 0, none⟩) (l.length + 1) ky, .slice (some ⟨gz, 0, none⟩) ps.length k3], .int .i64 (S.n : Int), .bool true]) (by simp [results, Try.results25, go_sem, z0, z1, z2]) rfl
                ⟨_, _, _, _, _, _, _, _, _, _, _, by rw [hTn], by omega, O6.top.2, O6, Z.below⟩
            have HU := hide (show (RP.ups v k (S.up k)).put v row = T by have h9 := HT.out; rwa [RP.ups_yes (by rw [← hpv]; exact hgt)] at h9)
            have t1 : decide (v < pv) = true := decide_eq_true hgt
            have t2 : decide (pv > v) = true := decide_eq_true hgt
            clear hpv hgt
            obtain ⟨S2, hS2⟩ : ∃ q, q = S.fill a := ⟨_, rfl⟩
            have hup := hide (show S.up k = S2.at k ((a : Int) + 1) by unfold RP.up; rw [HA.out, hS2]; simp)
            have hps := hide (show S2.ps = S.ps by rw [hS2]; exact RP.fill_ps _ _)
            have hnn := hide (show S2.n ≤ S.n + 1 by rw [hS2]; exact RP.fill_n _)
            have OK2 := hide (show S2.Ok (l.length + 1) ps.length (k + 1) by rw [hS2]; exact OK.out.fill hal.out)
            have M1 := hide (show wr.drew.heap[mr]? = some (.cells #[.slice (some ⟨gx, 0, none⟩) (l.length + 1) kx, .slice (some ⟨gy, 0, none⟩) (l.length + 1) ky, .slice (some ⟨gz, 0, none⟩) ps.length k3, .int .i64 (S.h : Int), .int .i64 (S.n : Int)] 107 (0, 0)) from M.out)
            have CM := hide (CF.out S a (k + 1) wr.drew M1 O.out.drew OK.out hal.out (by have := HNK.out; have := HL.out; omega))
            rw [← hS2] at CM
            clear hS2 M1
            go_wp2_with fail
            go_region
            go_wp2_with fail
            clear b10 q0 q1 fz0 fz1 t1 t2 hk0
            go_at_call 72
            refine (CM.out).mono ?_
            rintro e w12 ⟨⟨_, rfl⟩, O2, M2, T2⟩
            have O2 := hide O2
            have X2 := hide (X.out.drew.trn T2 (fun b hb => by have := HN.out; unfold P3 at hb; omega) (by intro e he; have := HN.out; unfold P3; simp at he; rcases he with rfl | rfl | rfl | rfl <;> simp <;> omega))
            have hk2 : k < S2.ps.length := by rw [hps.out]; exact hkp
            obtain ⟨gz', e4, -, -, -, zc⟩ := O2.out.z.at (by omega)
            obtain rfl : gz = gz' := by injection e4 with e4; injection e4
            obtain ⟨-, q1o, -, fz1⟩ := zc k hk2
            have q1 : w12.cell? ⟨gz, k * 2 + 1, none⟩ = some (.int .i64 (a : Int)) := by
              rw [q1o, hps.out]
              have := HA.out
              unfold RP.pl at this
              rw [this]
            have O3' := hide (O2.out.putZ (by rw [hps.out]; exact HN3.out) Z12.out.1 Z12.out.2 k ((a : Int) + 1) hk2)
            have T3 := (Trn.refl (P3 gx (gx + 1) gy (gy + 1) n3 h3) w12).setCell (.inr (.inr Z12.out)) (k * 2 + 1) (.int .i64 ((a : Int) + 1))
            have X3 := hide (X2.out.trn T3 (fun b hb => by have := HN.out; unfold P3 at hb; omega) (by intro e he; have := HN.out; unfold P3; simp at he; rcases he with rfl | rfl | rfl | rfl <;> simp <;> omega))
            have M3 := hide ((T3.block mr (Array.getElem?_eq_some_iff.1 M2).1 (by have := HN.out; have := Z12.out; unfold P3; omega)).trans M2)
            have hal2 : (a : Int) ≤ 1048576 := by have := hal.out; omega
            have hkb : (k : Int) ≤ 1048576 := by have := HL.out; omega
            clear T3 O2 hk2 e4 zc T2 M2 X O M CM q1o
            have HKP := hide hkp
            have hklp := hide hkl
            clear hkp
            go_wp2_with fail
            go_roundw
            case rel =>
              refine ⟨k, S2.at k ((a : Int) + 1), by omega, by go_num, ?_, ?_, ?_, X3.out, O3'.out, M3.out⟩
              · show S2.n + k ≤ ps.length; have := hnn.out; have := HNK.out; omega
              · exact (OK2.out.less (Nat.le_succ k)).at ((a : Int) + 1) ⟨by omega, by omega⟩ hklp.out (Nat.le_refl _)
              · show (RP.ups v k (S2.at k ((a : Int) + 1))).put v row = T; rw [← hup.out]; exact HU.out
            case measure => simp [intOf]

end Go.Proofs.Ytajfhalalnlejaa
