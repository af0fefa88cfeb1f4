/- What RippleInsert of the reference returns (promise 7). Written by gen_ri.py. -/
import Derived.Test.YtajfhalalnlejaaRpB
import Derived.Test.YtajfhalalnlejaaFr
import Derived.Test.YtajfhalalnlejaaCkT
import Derived.Test.YtajfhalalnlejaaCpI
namespace Go.Proofs.Ytajfhalalnlejaa
open Go.RowKit Go.ChangeShapes
set_option linter.unusedSimpArgs false
set_option linter.unusedVariables false
set_option maxRecDepth 100000

set_option maxHeartbeats 8000000 in
theorem sRi_any (u : Value) (l r : List Int) (ps : List Pv) (v row : Int) (w : World) (hv : Ck w w.heap.size u l r ps) (hl : l.length ≤ 1048576) (hr : r.length ≤ 1048576) (hp : ps.length ≤ 1048576) (wl : ∀ x ∈ l, I64 x) (wr : ∀ x ∈ r, I64 x) (wp : ∀ p ∈ ps, I64 p.1 ∧ I64 p.2) (hiv : I64 v) (hir : I64 row) :
    Calls Try.prog 22 #[u, .agg #[.int .i64 v, .int .i64 row]] w (RetRi w (riL l r ps v row) (riR l r ps v row) (riP l r ps v row) (riN l r ps v row) (riOk l r ps v row)) := by
  obtain ⟨a1, c1, a2, c2, a3, c3, rfl, -⟩ := hv.form
  have X := hide (Kn.three w #[.slice a1 l.length c1, .slice a2 r.length c2, .slice a3 ps.length c3] #[.int .i64 v, .int .i64 row] #[.slice none 0 0, .slice none 0 0, .slice none 0 0] 27 49 27)
  obtain ⟨w1, hw1⟩ : ∃ w1, w1 = ((w.alloc (.cells #[.slice a1 l.length c1, .slice a2 r.length c2, .slice a3 ps.length c3] 27)).alloc (.cells #[.int .i64 v, .int .i64 row] 49)).alloc (.cells #[.slice none 0 0, .slice none 0 0, .slice none 0 0] 27) := ⟨_, rfl⟩
  have hz1 := hide (show w1.heap.size = w.heap.size + 1 + 1 + 1 by rw [hw1]; simp)
  rw [← hw1] at X
  have V := hide (fun (W : World) (h : Below w.heap.size w W) => (hv.below h (Nat.le_refl _)).mono h.size)
  clear hv
  have CC := hide (fun (W : World) (h : Below w.heap.size w W) => sCopy_any _ l r ps W W.heap.size (V.out W h) (Nat.le_refl _) hl hr hp)
  obtain ⟨qc, hqc⟩ : ∃ q, q = isCk l r ps := ⟨_, rfl⟩
  obtain ⟨qi, hqi⟩ : ∃ q, q = isIt v row := ⟨_, rfl⟩
  obtain ⟨qr, hqr⟩ : ∃ q, q = rowAt r row := ⟨_, rfl⟩
  have HCK := hide (fun (W : World) (h : Below w.heap.size w W) => show Calls Try.prog 35 #[.agg #[.slice a1 l.length c1, .slice a2 r.length c2, .slice a3 ps.length c3]] W (RetB1 W qc) by rw [hqc]; exact sIsCk_any _ l r ps W W.heap.size (V.out W h) (Nat.le_refl _))
  have HCI := hide (fun (W : World) => show Calls Try.prog 64 #[.agg #[.int .i64 v, .int .i64 row]] W (RetB1 W qi) by rw [hqi]; exact sIsIt_any v row W)
  have HCF := hide (fun (W : World) (h : Below w.heap.size w W) => show Calls Try.prog 65 #[.agg #[.slice a1 l.length c1, .slice a2 r.length c2, .slice a3 ps.length c3], .int .i64 row] W (RetI1 W qr) by rw [hqr]; exact sFindRow_any _ l r ps row W W.heap.size (V.out W h) (Nat.le_refl _))
  obtain ⟨LL, hLL⟩ : ∃ q, q = riL l r ps v row := ⟨_, rfl⟩
  obtain ⟨RR, hRR⟩ : ∃ q, q = riR l r ps v row := ⟨_, rfl⟩
  obtain ⟨PP, hPP⟩ : ∃ q, q = riP l r ps v row := ⟨_, rfl⟩
  obtain ⟨NN, hNN⟩ : ∃ q, q = riN l r ps v row := ⟨_, rfl⟩
  obtain ⟨BB, hBB⟩ : ∃ q, q = riOk l r ps v row := ⟨_, rfl⟩
  have NO := hide (fun (h : ¬(qc = true ∧ qi = true ∧ qr < 0 ∧ l.length < 64)) => show LL = l ∧ RR = r ∧ PP = ps ∧ NN = 0 ∧ BB = false by
    have e : riOk l r ps v row = false := by
      cases hb : riOk l r ps v row with
      | false => rfl
      | true =>
        unfold riOk at hb
        simp only [Bool.and_eq_true, decide_eq_true_eq, ← hqc, ← hqi, ← hqr] at hb
        exact absurd ⟨hb.1, hb.2.1, hb.2.2.1, hb.2.2.2⟩ h
    rw [hLL, hRR, hPP, hNN, hBB, e]
    unfold riL riR riP riN
    rw [e]
    exact ⟨rfl, rfl, rfl, rfl, rfl⟩)
  obtain ⟨T, hT⟩ : ∃ q, q = riF l r ps v row := ⟨_, rfl⟩
  have YES := hide (fun (h1 : qc = true) (h2 : qi = true) (h3 : qr < 0) (h4 : l.length < 64) => show LL = T.l ∧ RR = T.r ∧ PP = T.ps ∧ NN = T.n ∧ BB = true by
    have e : riOk l r ps v row = true := by
      unfold riOk
      simp only [Bool.and_eq_true, decide_eq_true_eq, ← hqc, ← hqi, ← hqr]
      exact ⟨h1, h2, h3, h4⟩
    rw [hLL, hRR, hPP, hNN, hBB, e, hT]
    unfold riL riR riP riN
    rw [e]
    exact ⟨rfl, rfl, rfl, rfl, rfl⟩)
  have ST := hide (fun (h1 : qc = true) => ri_start (a := 0) (b := 0) (hqc ▸ h1) hl wl wr wp ⟨by omega, by omega⟩ ⟨by omega, by omega⟩)
  have CKL := hide (fun (h1 : qc = true) => show r.length = l.length from (isCk_parts (hqc ▸ h1)).2.1)
  rw [← hLL, ← hRR, ← hPP, ← hNN, ← hBB]
  have HT := hide (show (RP.ups v ps.length ⟨l ++ [0], r ++ [0], ps, l.length, 0⟩).put v row = T by rw [hT]; rfl)
  have HI := hide (And.intro hiv hir)
  have HL := hide (And.intro hl (And.intro hr hp))
  clear hqc hqi hqr hLL hRR hPP hNN hBB hT hiv hir hl hr hp wl wr wp
  go_enter Try.func22, Try.ntmps22
  go_wp2_with fail
  rw [← hw1]
  clear hw1
  have KA := hide (fun (W : World) (h : Kn w W [(w.heap.size, #[.slice a1 l.length c1, .slice a2 r.length c2, .slice a3 ps.length c3], 27), (w.heap.size + 1, #[.int .i64 v, .int .i64 row], 49), (w.heap.size + 1 + 1, #[.slice none 0 0, .slice none 0 0, .slice none 0 0], 27)]) => show W.cell? ⟨w.heap.size, 0, none⟩ = some (.slice a1 l.length c1) ∧ W.cell? ⟨w.heap.size, 1, none⟩ = some (.slice a2 r.length c2) ∧ W.cell? ⟨w.heap.size, 2, none⟩ = some (.slice a3 ps.length c3) ∧ W.cell? ⟨w.heap.size + 1, 0, none⟩ = some (.int .i64 v) ∧ W.cell? ⟨w.heap.size + 1, 1, none⟩ = some (.int .i64 row) ∧ W.cell? ⟨w.heap.size + 1 + 1, 0, none⟩ = some (.slice none 0 0) ∧ W.cell? ⟨w.heap.size + 1 + 1, 1, none⟩ = some (.slice none 0 0) ∧ W.cell? ⟨w.heap.size + 1 + 1, 2, none⟩ = some (.slice none 0 0) ∧ W.frozen? ⟨w.heap.size + 1 + 1, 0, none⟩ = false ∧ W.frozen? ⟨w.heap.size + 1 + 1, 1, none⟩ = false ∧ W.frozen? ⟨w.heap.size + 1 + 1, 2, none⟩ = false from ⟨h.cell 0 0 rfl rfl, h.cell 0 1 rfl rfl, h.cell 0 2 rfl rfl, h.cell 1 0 rfl rfl, h.cell 1 1 rfl rfl, h.cell 2 0 rfl rfl, h.cell 2 1 rfl rfl, h.cell 2 2 rfl rfl, h.free 2 0 rfl, h.free 2 1 rfl, h.free 2 2 rfl⟩)
  obtain ⟨c00, c01, c02, c10, c11, c20, c21, c22, f20, f21, f22⟩ := KA.out _ X.out
  go_wp2_with fail
  go_at_call 35
  refine (HCK.out _ X.out.below).mono ?_
  rintro e w2 ⟨rfl, hb⟩
  have X := hide (X.out.up hb)
  clear hb
  clear c00 c01 c02 c10 c11 c20 c21 c22 f20 f21 f22
  cases qc with
  | false =>
    obtain ⟨rfl, rfl, rfl, rfl, rfl⟩ := NO.out (by simp; try omega)
    clear YES ST CKL HT
    obtain ⟨c00, c01, c02, c10, c11, c20, c21, c22, f20, f21, f22⟩ := KA.out _ X.out
    go_wp2_with fail
    clear c00 c01 c02 c10 c11 c20 c21 c22 f20 f21 f22
    go_at_call 66
    refine (CC.out _ X.out.below).mono ?_
    rintro e wq ⟨x', y', z', lo, hi, n1, h1, n2, h2, n3, h3, rfl, q1, q2, O, hb⟩
    obtain ⟨g1, k1, rfl⟩ := O.x.form
    obtain ⟨g2, k2, rfl⟩ := O.y.form
    obtain ⟨g3, k3, rfl⟩ := O.z.own.form
    have Q1 := hide (show w.heap.size + 1 + 1 < lo by have := X.out.lt 2 rfl; omega)
    have X := hide (X.out.up hb)
    have O := hide O
    clear hb q1 q2
    obtain ⟨c00, c01, c02, c10, c11, c20, c21, c22, f20, f21, f22⟩ := KA.out _ X.out
    go_wp2_with fail
    clear c00 c01 c02 c10 c11 c20 c21 c22 f20 f21 f22
    have Z := ((X.out.set 2 0 rfl (.slice g1 LL.length k1)).set 2 1 rfl (.slice g2 RR.length k2)).set 2 2 rfl (.slice g3 PP.length k3)
    have z0 := Z.cell 2 0 rfl rfl
    have z1 := Z.cell 2 1 rfl rfl
    have z2 := Z.cell 2 2 rfl rfl
    have q1 := Q1.out
    have O6 := (O.out).seg (seg3 _ (w.heap.size + 1 + 1) (.slice g1 LL.length k1) (.slice g2 RR.length k2) (.slice g3 PP.length k3)) (.inr (by omega))
    exact bodyPost_ret (v := .tuple #[.agg #[.slice g1 LL.length k1, .slice g2 RR.length k2, .slice g3 PP.length k3], .int .i64 0, .bool false]) (by simp [results, Try.results22, go_sem, z0, z1, z2]) rfl
      ⟨_, _, _, _, _, _, _, _, _, _, _, rfl, by omega, O6.top.2, O6, Z.below⟩
  | true =>
    obtain ⟨c00, c01, c02, c10, c11, c20, c21, c22, f20, f21, f22⟩ := KA.out _ X.out
    go_wp2_with fail
    go_at_call 64
    refine (HCI.out _).mono ?_
    rintro e w3 ⟨rfl, hb⟩
    have X := hide (X.out.up hb)
    clear hb
    clear c00 c01 c02 c10 c11 c20 c21 c22 f20 f21 f22
    cases qi with
    | false =>
      obtain ⟨rfl, rfl, rfl, rfl, rfl⟩ := NO.out (by simp; try omega)
      clear YES ST CKL HT
      obtain ⟨c00, c01, c02, c10, c11, c20, c21, c22, f20, f21, f22⟩ := KA.out _ X.out
      go_wp2_with fail
      clear c00 c01 c02 c10 c11 c20 c21 c22 f20 f21 f22
      go_at_call 66
      refine (CC.out _ X.out.below).mono ?_
      rintro e wq ⟨x', y', z', lo, hi, n1, h1, n2, h2, n3, h3, rfl, q1, q2, O, hb⟩
      obtain ⟨g1, k1, rfl⟩ := O.x.form
      obtain ⟨g2, k2, rfl⟩ := O.y.form
      obtain ⟨g3, k3, rfl⟩ := O.z.own.form
      have Q1 := hide (show w.heap.size + 1 + 1 < lo by have := X.out.lt 2 rfl; omega)
      have X := hide (X.out.up hb)
      have O := hide O
      clear hb q1 q2
      obtain ⟨c00, c01, c02, c10, c11, c20, c21, c22, f20, f21, f22⟩ := KA.out _ X.out
      go_wp2_with fail
      clear c00 c01 c02 c10 c11 c20 c21 c22 f20 f21 f22
      have Z := ((X.out.set 2 0 rfl (.slice g1 LL.length k1)).set 2 1 rfl (.slice g2 RR.length k2)).set 2 2 rfl (.slice g3 PP.length k3)
      have z0 := Z.cell 2 0 rfl rfl
      have z1 := Z.cell 2 1 rfl rfl
      have z2 := Z.cell 2 2 rfl rfl
      have q1 := Q1.out
      have O6 := (O.out).seg (seg3 _ (w.heap.size + 1 + 1) (.slice g1 LL.length k1) (.slice g2 RR.length k2) (.slice g3 PP.length k3)) (.inr (by omega))
      exact bodyPost_ret (v := .tuple #[.agg #[.slice g1 LL.length k1, .slice g2 RR.length k2, .slice g3 PP.length k3], .int .i64 0, .bool false]) (by simp [results, Try.results22, go_sem, z0, z1, z2]) rfl
        ⟨_, _, _, _, _, _, _, _, _, _, _, rfl, by omega, O6.top.2, O6, Z.below⟩
    | true =>
      obtain ⟨c00, c01, c02, c10, c11, c20, c21, c22, f20, f21, f22⟩ := KA.out _ X.out
      go_wp2_with fail
      go_at_call 65
      refine (HCF.out _ X.out.below).mono ?_
      rintro e w4 ⟨rfl, hb⟩
      have X := hide (X.out.up hb)
      clear hb
      clear c00 c01 c02 c10 c11 c20 c21 c22 f20 f21 f22
      by_cases h0 : qr < 0
      case neg =>
        have t1 : decide (0 ≤ qr) = true := decide_eq_true (by omega)
        have t2 : decide (qr ≥ 0) = true := decide_eq_true (by omega)
        obtain ⟨rfl, rfl, rfl, rfl, rfl⟩ := NO.out (by simp; try omega)
        clear YES ST CKL HT
        obtain ⟨c00, c01, c02, c10, c11, c20, c21, c22, f20, f21, f22⟩ := KA.out _ X.out
        go_wp2_with fail
        clear c00 c01 c02 c10 c11 c20 c21 c22 f20 f21 f22
        go_at_call 66
        refine (CC.out _ X.out.below).mono ?_
        rintro e wq ⟨x', y', z', lo, hi, n1, h1, n2, h2, n3, h3, rfl, q1, q2, O, hb⟩
        obtain ⟨g1, k1, rfl⟩ := O.x.form
        obtain ⟨g2, k2, rfl⟩ := O.y.form
        obtain ⟨g3, k3, rfl⟩ := O.z.own.form
        have Q1 := hide (show w.heap.size + 1 + 1 < lo by have := X.out.lt 2 rfl; omega)
        have X := hide (X.out.up hb)
        have O := hide O
        clear hb q1 q2
        obtain ⟨c00, c01, c02, c10, c11, c20, c21, c22, f20, f21, f22⟩ := KA.out _ X.out
        go_wp2_with fail
        clear c00 c01 c02 c10 c11 c20 c21 c22 f20 f21 f22
        have Z := ((X.out.set 2 0 rfl (.slice g1 LL.length k1)).set 2 1 rfl (.slice g2 RR.length k2)).set 2 2 rfl (.slice g3 PP.length k3)
        have z0 := Z.cell 2 0 rfl rfl
        have z1 := Z.cell 2 1 rfl rfl
        have z2 := Z.cell 2 2 rfl rfl
        have q1 := Q1.out
        have O6 := (O.out).seg (seg3 _ (w.heap.size + 1 + 1) (.slice g1 LL.length k1) (.slice g2 RR.length k2) (.slice g3 PP.length k3)) (.inr (by omega))
        exact bodyPost_ret (v := .tuple #[.agg #[.slice g1 LL.length k1, .slice g2 RR.length k2, .slice g3 PP.length k3], .int .i64 0, .bool false]) (by simp [results, Try.results22, go_sem, z0, z1, z2]) rfl
          ⟨_, _, _, _, _, _, _, _, _, _, _, rfl, by omega, O6.top.2, O6, Z.below⟩
      have t1 : decide (0 ≤ qr) = false := decide_eq_false (by omega)
      have t2 : decide (qr ≥ 0) = false := decide_eq_false (by omega)
      by_cases h64 : l.length < 64
      case neg =>
        have t3 : decide (64 ≤ l.length) = true := decide_eq_true (by omega)
        have t4 : decide ((64 : Int) ≤ (l.length : Int)) = true := decide_eq_true (by omega)
        obtain ⟨rfl, rfl, rfl, rfl, rfl⟩ := NO.out (by simp; try omega)
        clear YES ST CKL HT
        obtain ⟨c00, c01, c02, c10, c11, c20, c21, c22, f20, f21, f22⟩ := KA.out _ X.out
        go_wp2_with fail
        clear c00 c01 c02 c10 c11 c20 c21 c22 f20 f21 f22
        go_at_call 66
        refine (CC.out _ X.out.below).mono ?_
        rintro e wq ⟨x', y', z', lo, hi, n1, h1, n2, h2, n3, h3, rfl, q1, q2, O, hb⟩
        obtain ⟨g1, k1, rfl⟩ := O.x.form
        obtain ⟨g2, k2, rfl⟩ := O.y.form
        obtain ⟨g3, k3, rfl⟩ := O.z.own.form
        have Q1 := hide (show w.heap.size + 1 + 1 < lo by have := X.out.lt 2 rfl; omega)
        have X := hide (X.out.up hb)
        have O := hide O
        clear hb q1 q2
        obtain ⟨c00, c01, c02, c10, c11, c20, c21, c22, f20, f21, f22⟩ := KA.out _ X.out
        go_wp2_with fail
        clear c00 c01 c02 c10 c11 c20 c21 c22 f20 f21 f22
        have Z := ((X.out.set 2 0 rfl (.slice g1 LL.length k1)).set 2 1 rfl (.slice g2 RR.length k2)).set 2 2 rfl (.slice g3 PP.length k3)
        have z0 := Z.cell 2 0 rfl rfl
        have z1 := Z.cell 2 1 rfl rfl
        have z2 := Z.cell 2 2 rfl rfl
        have q1 := Q1.out
        have O6 := (O.out).seg (seg3 _ (w.heap.size + 1 + 1) (.slice g1 LL.length k1) (.slice g2 RR.length k2) (.slice g3 PP.length k3)) (.inr (by omega))
        exact bodyPost_ret (v := .tuple #[.agg #[.slice g1 LL.length k1, .slice g2 RR.length k2, .slice g3 PP.length k3], .int .i64 0, .bool false]) (by simp [results, Try.results22, go_sem, z0, z1, z2]) rfl
          ⟨_, _, _, _, _, _, _, _, _, _, _, rfl, by omega, O6.top.2, O6, Z.below⟩
      have t3 : decide (64 ≤ l.length) = false := decide_eq_false (by omega)
      have t4 : decide ((64 : Int) ≤ (l.length : Int)) = false := decide_eq_false (by omega)
      obtain ⟨rfl, rfl, rfl, rfl, rfl⟩ := YES.out (by simp) (by simp) h0 h64
      have hrl := hide (CKL.out (by simp))
      have hst := hide (ST.out (by simp))
      clear NO YES ST CKL HCK HCI HCF
      obtain ⟨c00, c01, c02, c10, c11, c20, c21, c22, f20, f21, f22⟩ := KA.out _ X.out
      go_wp2_with fail
      clear c00 c01 c02 c10 c11 c20 c21 c22 f20 f21 f22
      clear t1 t2 t3 t4
      go_at_call 66
      refine (CC.out _ X.out.below).mono ?_
      rintro e w5 ⟨x', y', z', lo, hi, n1, h1, n2, h2, n3, h3, rfl, q1, q2, O, hb⟩
      obtain ⟨g1, k1, rfl⟩ := O.x.form
      obtain ⟨g2, k2, rfl⟩ := O.y.form
      obtain ⟨g3, k3, rfl⟩ := O.z.own.form
      have Q1 := hide (show w.heap.size + 1 + 1 < lo by have := X.out.lt 2 rfl; omega)
      have X := hide (X.out.up hb)
      have QL := hide (O.low)
      have QH := hide (O.high)
      have O := hide (O.o3 l.length 0)
      clear hb q1 q2 CC
      skip
      obtain ⟨m, hm⟩ : ∃ m, m = w5.heap.size := ⟨_, rfl⟩
      obtain ⟨w6, hw6⟩ : ∃ w6, w6 = w5.alloc (.cells #[.slice g1 l.length k1, .slice g2 r.length k2, .slice g3 ps.length k3] 27) := ⟨_, rfl⟩
      have hz6 := hide (show w6.heap.size = m + 1 by rw [hw6, hm]; simp)
      have HN := hide (show w.heap.size + 1 + 1 < n1 ∧ w.heap.size + 1 + 1 < n2 ∧ w.heap.size + 1 + 1 < n3 ∧ h1 ≤ m ∧ h2 ≤ m ∧ h3 ≤ m ∧ w.heap.size + 1 + 1 < m by
        have q0 : w.heap.size + 1 + 1 < w5.heap.size := X.out.lt 2 rfl
        have q1 := Q1.out
        have q2 := QL.out
        have q3 := O.out.x.top
        have q4 := O.out.y.top
        have q5 := O.out.z.top
        rw [hm]
        omega)
      have O := hide (O.out.below (below1 w5 (.cells #[.slice g1 l.length k1, .slice g2 r.length k2, .slice g3 ps.length k3] 27)))
      have X := hide (X.out.alloc #[.slice g1 l.length k1, .slice g2 r.length k2, .slice g3 ps.length k3] 27)
      rw [← hw6] at O X
      rw [← hm] at X
      simp only [List.cons_append, List.nil_append] at X
      clear Q1 QL QH
      have d0 : w6.cell? ⟨m, 0, none⟩ = some (.slice g1 l.length k1) := X.out.cell 3 0 rfl rfl
      have d1 : w6.frozen? ⟨m, 0, none⟩ = false := X.out.free 3 0 rfl
      rw [hw6, hm] at d0 d1
      go_wp2_with (first | (at_builtin; apply Hid.out) | fail)
      refine hide ?_
      rw [← hw6]
      try rw [← hm]
      clear hw6 hm d0 d1
      skip
      refine ow_append w6 rfl _ _ rfl (.slice g1 l.length k1) l n1 h1 O.out.x rfl 0 1 (by show _ = Value.slice (some ⟨w6.heap.size, 0, none⟩) 1 1; rw [hz6.out]; rfl) (by have := HL.out; omega) ?_
      intro gx kx w7 m1 j1 A1 A2 A3 A4
      obtain ⟨nl, hnl⟩ : ∃ q, q = (l ++ [0]).length := ⟨_, rfl⟩
      rw [← hnl] at A1 ⊢
      have HNL := hide hnl
      clear hnl
      have O := hide (O.out.appX A1 A2 A3)
      have HQ := HN
      have HN := hide (show w.heap.size + 1 + 1 < m1 ∧ w.heap.size + 1 + 1 < n2 ∧ w.heap.size + 1 + 1 < n3 ∧ (j1 ≤ m ∨ m < m1) ∧ h2 ≤ m ∧ h3 ≤ m ∧ w.heap.size + 1 + 1 < m ∧ m < w7.heap.size by
        have q1 := HN.out
        have q2 := hz6.out
        omega)
      have X := hide (X.out.trn A3 (fun b hb => by have q1 := HQ.out; omega) (by intro e he; have q1 := HQ.out; simp at he; rcases he with rfl | rfl | rfl | rfl <;> simp <;> omega))
      clear A1 A2 A3 A4
      skip
      have X0 := X
      have X := hide (X.out.set 3 0 rfl (.slice (some ⟨gx, 0, none⟩) nl kx))
      have O := hide (O.out.set (g := m) (by have := HN.out; unfold P3; omega) 0 (.slice (some ⟨gx, 0, none⟩) nl kx))
      obtain ⟨w8, hw8⟩ : ∃ w8, w8 = w7.setCell ⟨m, 0, none⟩ (.slice (some ⟨gx, 0, none⟩) nl kx) := ⟨_, rfl⟩
      have hz8 := hide (show w8.heap.size = w7.heap.size by rw [hw8]; simp)
      rw [← hw8] at X O
      simp only [List.set_cons_zero, List.set_cons_succ] at X
      have d0 : w7.cell? ⟨m, 0, none⟩ = some (.slice g1 l.length k1) := X0.out.cell 3 0 rfl rfl
      have d1 : w7.frozen? ⟨m, 0, none⟩ = false := X0.out.free 3 0 rfl
      have d2 : w7.cell? ⟨m, 1, none⟩ = some (.slice g2 r.length k2) := X0.out.cell 3 1 rfl rfl
      have d3 : w7.frozen? ⟨m, 1, none⟩ = false := X0.out.free 3 1 rfl
      clear X0
      go_wp2_with (first | (at_builtin; apply Hid.out) | fail)
      refine hide ?_
      rw [← hw8]
      clear hw8 d0 d1 d2 d3
      skip
      refine ow_append w8 rfl _ _ rfl (.slice g2 r.length k2) r n2 h2 O.out.y rfl 0 1 (by show _ = Value.slice (some ⟨w8.heap.size, 0, none⟩) 1 1; rw [hz8.out]; rfl) (by have := HL.out; omega) ?_
      intro gy ky w9 m2 j2 A1 A2 A3 A4
      obtain ⟨nr, hnr⟩ : ∃ q, q = (r ++ [0]).length := ⟨_, rfl⟩
      rw [← hnr] at A1 ⊢
      have HNR := hide hnr
      clear hnr
      have O := hide (O.out.appY A1 A2 A3)
      have HQ := HN
      have HN := hide (show w.heap.size + 1 + 1 < m1 ∧ w.heap.size + 1 + 1 < m2 ∧ w.heap.size + 1 + 1 < n3 ∧ (j1 ≤ m ∨ m < m1) ∧ (j2 ≤ m ∨ m < m2) ∧ h3 ≤ m ∧ w.heap.size + 1 + 1 < m ∧ m < w9.heap.size by
        have q1 := HN.out
        have q2 := hz8.out
        omega)
      have X := hide (X.out.trn A3 (fun b hb => by have q1 := HQ.out; omega) (by intro e he; have q1 := HQ.out; simp at he; rcases he with rfl | rfl | rfl | rfl <;> simp <;> omega))
      clear A1 A2 A3 A4 HQ hz8 hz6
      have d0 : w9.cell? ⟨m, 1, none⟩ = some (.slice g2 r.length k2) := X.out.cell 3 1 rfl rfl
      have d1 : w9.frozen? ⟨m, 1, none⟩ = false := X.out.free 3 1 rfl
      have X := hide (X.out.set 3 1 rfl (.slice (some ⟨gy, 0, none⟩) nr ky))
      have O := hide (O.out.set (g := m) (by have := HN.out; unfold P3; omega) 1 (.slice (some ⟨gy, 0, none⟩) nr ky))
      obtain ⟨w10, hw10⟩ : ∃ w10, w10 = w9.setCell ⟨m, 1, none⟩ (.slice (some ⟨gy, 0, none⟩) nr ky) := ⟨_, rfl⟩
      have hz10 := hide (show w10.heap.size = w9.heap.size by rw [hw10]; simp)
      rw [← hw10] at X O
      simp only [List.set_cons_zero, List.set_cons_succ] at X
      have d2 : w10.cell? ⟨m, 2, none⟩ = some (.slice g3 ps.length k3) := X.out.cell 3 2 rfl rfl
      have d3 : w10.cell? ⟨w.heap.size, 0, none⟩ = some (.slice a1 l.length c1) := X.out.cell 0 0 rfl rfl
      have hpl : (ps.length : Int) ≤ 1048576 := by have := HL.out; omega
      rw [hw10] at d2 d3
      go_wp2_with fail
      rw [← hw10]
      clear hw10 d0 d1 d2 d3 hpl hz10
      skip
      have HST := hide (show RP.Ok _ _ _ _ from hst.out)
      have HTT := hide (show Hid ((RP.ups v ps.length ⟨l ++ [0], r ++ [0], ps, l.length, 0⟩).put v row = T) from HT)
      clear HT hst
      go_loopw [8, 9, 10] (fun q8 q9 q10 wr => ∃ (k : Nat) (S : RP), k ≤ ps.length ∧ q8 = .int .i64 (S.h : Int) ∧ q9 = .int .i64 (S.n : Int) ∧ q10 = .int .i64 ((k : Int) - 1) ∧ Hid (S.n + k ≤ ps.length) ∧ Hid (S.Ok (l.length + 1) ps.length k) ∧ Hid ((RP.ups v k S).put v row = T) ∧ Hid (Kn w wr [(w.heap.size, #[.slice a1 l.length c1, .slice a2 r.length c2, .slice a3 ps.length c3], 27), (w.heap.size + 1, #[.int .i64 v, .int .i64 row], 49), (w.heap.size + 1 + 1, #[.slice none 0 0, .slice none 0 0, .slice none 0 0], 27), (m, #[.slice (some ⟨gx, 0, none⟩) nl kx, .slice (some ⟨gy, 0, none⟩) nr ky, .slice g3 ps.length k3], 27)]) ∧ Hid (O3 wr (.slice (some ⟨gx, 0, none⟩) nl kx) (.slice (some ⟨gy, 0, none⟩) nr ky) (.slice g3 ps.length k3) S m1 j1 m2 j2 n3 h3)) (fun _ _ i _ => (intOf i + 1).toNat)
      case atStart => exact ⟨ps.length, ⟨l ++ [0], r ++ [0], ps, l.length, 0⟩, Nat.le_refl _, rfl, rfl, rfl, by show 0 + ps.length ≤ ps.length; omega, HST.out, HTT.out, X.out, O.out⟩
      case round =>
        clear X O HST HTT
        obtain ⟨k, S, hk, rfl, rfl, rfl, HNK, OK, HT, X, O⟩ := hrel
        skip
        cases k with
        | zero =>
          have e20 : wr.cell? ⟨m, 2, none⟩ = some (.slice g3 ps.length k3) := X.out.cell 3 2 rfl rfl
          have HTZ := hide (show S.put v row = T from HT.out)
          rw [show (((0 : Nat) : Int) - 1) = -1 from rfl]
          go_wp2_with fail
          go_region
          clear e20
          obtain ⟨gx', e1, hn1, x1, x2, xc⟩ := O.out.x.at (by have := OK.out.l; omega)
          obtain rfl : gx = gx' := by injection e1 with e1; injection e1
          obtain ⟨gy', e2, hn2, y1, y2, yc⟩ := O.out.y.at (by have := OK.out.r; omega)
          obtain rfl : gy = gy' := by injection e2 with e2; injection e2
          have hh1 : S.h < S.l.length := by have := OK.out.l; have := OK.out.h; omega
          have hh2 : S.h < S.r.length := by have := OK.out.r; have := OK.out.h; omega
          have O9 := (O.out.putX hn1 x1 x2 S.h v).putY hn2 y1 y2 S.h row
          have T9 := (((Trn.refl (P3 m1 j1 m2 j2 n3 h3) wr).setCell (.inl ⟨x1, x2⟩) S.h (.int .i64 v)).setCell (.inr (.inl ⟨y1, y2⟩)) S.h (.int .i64 row))
          obtain ⟨w11, hw11⟩ : ∃ w11, w11 = (wr.setCell ⟨gx, S.h, none⟩ (.int .i64 v)).setCell ⟨gy, S.h, none⟩ (.int .i64 row) := ⟨_, rfl⟩
          rw [← hw11] at O9 T9
          have HN9 := HN.out
          have a9 := O.out.apart
          have X9 := hide (X.out.trn T9 (fun b hb => by unfold P3 at hb; omega) (by intro e he; unfold P3; simp at he; rcases he with rfl | rfl | rfl | rfl <;> simp <;> omega))
          have O9 := hide (show O3 w11 (.slice (some ⟨gx, 0, none⟩) nl kx) (.slice (some ⟨gy, 0, none⟩) nr ky) (.slice g3 ps.length k3) (S.put v row) m1 j1 m2 j2 n3 h3 from O9)
          rw [HTZ.out] at O9
          obtain ⟨qx, fx⟩ := xc S.h hh1
          obtain ⟨qy, fy⟩ := yc S.h hh2
          have b10 : wr.cell? ⟨w.heap.size + 1, 0, none⟩ = some (.int .i64 v) := X.out.cell 1 0 rfl rfl
          have b11 : wr.cell? ⟨w.heap.size + 1, 1, none⟩ = some (.int .i64 row) := X.out.cell 1 1 rfl rfl
          have bm0 : wr.cell? ⟨m, 0, none⟩ = some (.slice (some ⟨gx, 0, none⟩) nl kx) := X.out.cell 3 0 rfl rfl
          have bm1 : wr.cell? ⟨m, 1, none⟩ = some (.slice (some ⟨gy, 0, none⟩) nr ky) := X.out.cell 3 1 rfl rfl
          have u0 : w11.cell? ⟨m, 0, none⟩ = some (.slice (some ⟨gx, 0, none⟩) nl kx) := X9.out.cell 3 0 rfl rfl
          have u1 : w11.cell? ⟨m, 1, none⟩ = some (.slice (some ⟨gy, 0, none⟩) nr ky) := X9.out.cell 3 1 rfl rfl
          have u2 : w11.cell? ⟨m, 2, none⟩ = some (.slice g3 ps.length k3) := X9.out.cell 3 2 rfl rfl
          have u3 : w11.cell? ⟨w.heap.size + 1 + 1, 0, none⟩ = some (.slice none 0 0) := X9.out.cell 2 0 rfl rfl
          have u4 : w11.cell? ⟨w.heap.size + 1 + 1, 1, none⟩ = some (.slice none 0 0) := X9.out.cell 2 1 rfl rfl
          have u5 : w11.cell? ⟨w.heap.size + 1 + 1, 2, none⟩ = some (.slice none 0 0) := X9.out.cell 2 2 rfl rfl
          have u6 : w11.frozen? ⟨w.heap.size + 1 + 1, 0, none⟩ = false := X9.out.free 2 0 rfl
          have u7 : w11.frozen? ⟨w.heap.size + 1 + 1, 1, none⟩ = false := X9.out.free 2 1 rfl
          have u8 : w11.frozen? ⟨w.heap.size + 1 + 1, 2, none⟩ = false := X9.out.free 2 2 rfl
          have ne1 : gx ≠ gy := by omega
          have ne2 : gy ≠ gx := by omega
          have ne3 : gx ≠ w.heap.size + 1 := by omega
          have ne4 : w.heap.size + 1 ≠ gx := by omega
          have ne5 : gx ≠ m := by omega
          have ne6 : m ≠ gx := by omega
          have ne7 : gx ≠ w.heap.size + 1 + 1 := by omega
          have ne8 : gy ≠ w.heap.size + 1 + 1 := by omega
          have lx : S.h < nl := by omega
          have ly : S.h < nr := by omega
          rw [hw11] at u0 u1 u2 u3 u4 u5 u6 u7 u8
          clear xc yc e1 e2 x1 x2 y1 y2 hn1 hn2 hh1 hh2 T9 HN9 a9
          go_wp2_with fail
          skip
          rw [← hw11]
          clear hw11 u0 u1 u2 u3 u4 u5 u6 u7 u8 b10 b11 bm0 bm1 qx qy fx fy
          have hTn : T.n = S.n := by rw [← HTZ.out]; rfl
          have q9 := HN.out
          have Z := (((X9.out.set 2 0 rfl (.slice (some ⟨gx, 0, none⟩) nl kx)).set 2 1 rfl (.slice (some ⟨gy, 0, none⟩) nr ky)).set 2 2 rfl (.slice g3 ps.length k3)).drew
          have z0 := Z.cell 2 0 rfl rfl
          have z1 := Z.cell 2 1 rfl rfl
          have z2 := Z.cell 2 2 rfl rfl
          have O6 := ((O9.oc (lo := w.heap.size + 1 + 1 + 1) (by omega)).seg (seg3 _ (w.heap.size + 1 + 1) (.slice (some ⟨gx, 0, none⟩) nl kx) (.slice (some ⟨gy, 0, none⟩) nr ky) (.slice g3 ps.length k3)) (.inr (Nat.le_refl _))).below (Below.refl _ _).drew
          exact bodyPost_ret (v := .tuple #[.agg #[.slice (some ⟨gx, 0, none⟩) nl kx, .slice (some ⟨gy, 0, none⟩) nr ky, .slice g3 ps.length k3], .int .i64 (S.n : Int), .bool true]) (by simp [results, Try.results22, go_sem, z0, z1, z2]) rfl
            ⟨_, _, _, _, _, _, _, _, _, _, _, by rw [hTn], by omega, O6.top.2, O6, Z.below⟩
          skip
        | succ k =>
          have e0 : (((k + 1 : Nat) : Int) - 1) = (k : Int) := by omega
          rw [e0]
          clear e0
          have hkp : k < S.ps.length := by have := OK.out.p; omega
          obtain ⟨gz, e3, hn3, z1, z2, zc⟩ := O.out.z.at (by omega)
          have E3 := hide e3
          have Z12 := hide (And.intro z1 z2)
          have HN3 := hide hn3
          obtain ⟨q0, q1', fz0, fz1⟩ := zc k hkp
          obtain ⟨pv, hpv⟩ : ∃ q, q = (S.ps.getD k (0, 0)).1 := ⟨_, rfl⟩
          rw [← hpv] at q0
          have hpl := OK.out.pl k (by omega) (by omega)
          obtain ⟨a, ha⟩ : ∃ a : Nat, S.pl k = (a : Int) := ⟨(S.pl k).toNat, by omega⟩
          have q1 : wr.cell? ⟨gz, k * 2 + 1, none⟩ = some (.int .i64 (a : Int)) := by rw [q1', ← ha]; rfl
          have HA := hide ha
          have hal := hide (show a < l.length + 1 by omega)
          have e20 : wr.cell? ⟨m, 2, none⟩ = some (.slice (some ⟨gz, 0, none⟩) ps.length k3) := by rw [← e3]; exact X.out.cell 3 2 rfl rfl
          have b10 : wr.cell? ⟨w.heap.size + 1, 0, none⟩ = some (.int .i64 v) := X.out.cell 1 0 rfl rfl
          have hkl : k < ps.length := by omega
          have hk0 : decide ((0 : Int) ≤ (k : Int)) = true := decide_eq_true (by omega)
          clear e3 hn3 z1 z2 zc ha hpl q1'
          by_cases hgt : v < pv
          case neg =>
            have HTZ := hide (show S.put v row = T by have h9 := HT.out; rwa [RP.ups_no (by rw [← hpv]; exact hgt)] at h9)
            have t1 : decide (v < pv) = false := decide_eq_false hgt
            have t2 : decide (pv > v) = false := decide_eq_false hgt
            clear hpv
            go_wp2_with fail
            go_region
            clear e20 b10 q0 q1 fz0 fz1 t1 t2 hk0
            obtain ⟨gx', e1, hn1, x1, x2, xc⟩ := O.out.x.at (by have := OK.out.l; omega)
            obtain rfl : gx = gx' := by injection e1 with e1; injection e1
            obtain ⟨gy', e2, hn2, y1, y2, yc⟩ := O.out.y.at (by have := OK.out.r; omega)
            obtain rfl : gy = gy' := by injection e2 with e2; injection e2
            have hh1 : S.h < S.l.length := by have := OK.out.l; have := OK.out.h; omega
            have hh2 : S.h < S.r.length := by have := OK.out.r; have := OK.out.h; omega
            have O9 := (O.out.putX hn1 x1 x2 S.h v).putY hn2 y1 y2 S.h row
            have T9 := (((Trn.refl (P3 m1 j1 m2 j2 n3 h3) wr).setCell (.inl ⟨x1, x2⟩) S.h (.int .i64 v)).setCell (.inr (.inl ⟨y1, y2⟩)) S.h (.int .i64 row))
            obtain ⟨w11, hw11⟩ : ∃ w11, w11 = (wr.setCell ⟨gx, S.h, none⟩ (.int .i64 v)).setCell ⟨gy, S.h, none⟩ (.int .i64 row) := ⟨_, rfl⟩
            rw [← hw11] at O9 T9
            have HN9 := HN.out
            have a9 := O.out.apart
            have X9 := hide (X.out.trn T9 (fun b hb => by unfold P3 at hb; omega) (by intro e he; unfold P3; simp at he; rcases he with rfl | rfl | rfl | rfl <;> simp <;> omega))
            have O9 := hide (show O3 w11 (.slice (some ⟨gx, 0, none⟩) nl kx) (.slice (some ⟨gy, 0, none⟩) nr ky) (.slice g3 ps.length k3) (S.put v row) m1 j1 m2 j2 n3 h3 from O9)
            rw [HTZ.out] at O9
            obtain ⟨qx, fx⟩ := xc S.h hh1
            obtain ⟨qy, fy⟩ := yc S.h hh2
            have b10 : wr.cell? ⟨w.heap.size + 1, 0, none⟩ = some (.int .i64 v) := X.out.cell 1 0 rfl rfl
            have b11 : wr.cell? ⟨w.heap.size + 1, 1, none⟩ = some (.int .i64 row) := X.out.cell 1 1 rfl rfl
            have bm0 : wr.cell? ⟨m, 0, none⟩ = some (.slice (some ⟨gx, 0, none⟩) nl kx) := X.out.cell 3 0 rfl rfl
            have bm1 : wr.cell? ⟨m, 1, none⟩ = some (.slice (some ⟨gy, 0, none⟩) nr ky) := X.out.cell 3 1 rfl rfl
            have u0 : w11.cell? ⟨m, 0, none⟩ = some (.slice (some ⟨gx, 0, none⟩) nl kx) := X9.out.cell 3 0 rfl rfl
            have u1 : w11.cell? ⟨m, 1, none⟩ = some (.slice (some ⟨gy, 0, none⟩) nr ky) := X9.out.cell 3 1 rfl rfl
            have u2 : w11.cell? ⟨m, 2, none⟩ = some (.slice g3 ps.length k3) := X9.out.cell 3 2 rfl rfl
            have u3 : w11.cell? ⟨w.heap.size + 1 + 1, 0, none⟩ = some (.slice none 0 0) := X9.out.cell 2 0 rfl rfl
            have u4 : w11.cell? ⟨w.heap.size + 1 + 1, 1, none⟩ = some (.slice none 0 0) := X9.out.cell 2 1 rfl rfl
            have u5 : w11.cell? ⟨w.heap.size + 1 + 1, 2, none⟩ = some (.slice none 0 0) := X9.out.cell 2 2 rfl rfl
            have u6 : w11.frozen? ⟨w.heap.size + 1 + 1, 0, none⟩ = false := X9.out.free 2 0 rfl
            have u7 : w11.frozen? ⟨w.heap.size + 1 + 1, 1, none⟩ = false := X9.out.free 2 1 rfl
            have u8 : w11.frozen? ⟨w.heap.size + 1 + 1, 2, none⟩ = false := X9.out.free 2 2 rfl
            have ne1 : gx ≠ gy := by omega
            have ne2 : gy ≠ gx := by omega
            have ne3 : gx ≠ w.heap.size + 1 := by omega
            have ne4 : w.heap.size + 1 ≠ gx := by omega
            have ne5 : gx ≠ m := by omega
            have ne6 : m ≠ gx := by omega
            have ne7 : gx ≠ w.heap.size + 1 + 1 := by omega
            have ne8 : gy ≠ w.heap.size + 1 + 1 := by omega
            have lx : S.h < nl := by omega
            have ly : S.h < nr := by omega
            rw [hw11] at u0 u1 u2 u3 u4 u5 u6 u7 u8
            clear xc yc e1 e2 x1 x2 y1 y2 hn1 hn2 hh1 hh2 T9 HN9 a9
            go_wp2_with fail
            skip
            rw [← hw11]
            clear hw11 u0 u1 u2 u3 u4 u5 u6 u7 u8 b10 b11 bm0 bm1 qx qy fx fy
            have hTn : T.n = S.n := by rw [← HTZ.out]; rfl
            have q9 := HN.out
            have Z := (((X9.out.set 2 0 rfl (.slice (some ⟨gx, 0, none⟩) nl kx)).set 2 1 rfl (.slice (some ⟨gy, 0, none⟩) nr ky)).set 2 2 rfl (.slice g3 ps.length k3)).drew
            have z0 := Z.cell 2 0 rfl rfl
            have z1 := Z.cell 2 1 rfl rfl
            have z2 := Z.cell 2 2 rfl rfl
            have O6 := ((O9.oc (lo := w.heap.size + 1 + 1 + 1) (by omega)).seg (seg3 _ (w.heap.size + 1 + 1) (.slice (some ⟨gx, 0, none⟩) nl kx) (.slice (some ⟨gy, 0, none⟩) nr ky) (.slice g3 ps.length k3)) (.inr (Nat.le_refl _))).below (Below.refl _ _).drew
            exact bodyPost_ret (v := .tuple #[.agg #[.slice (some ⟨gx, 0, none⟩) nl kx, .slice (some ⟨gy, 0, none⟩) nr ky, .slice g3 ps.length k3], .int .i64 (S.n : Int), .bool true]) (by simp [results, Try.results22, go_sem, z0, z1, z2]) rfl
              ⟨_, _, _, _, _, _, _, _, _, _, _, by rw [hTn], by omega, O6.top.2, O6, Z.below⟩
          have HU := hide (show (RP.ups v k (S.up k)).put v row = T by have h9 := HT.out; rwa [RP.ups_yes (by rw [← hpv]; exact hgt)] at h9)
          have t1 : decide (v < pv) = true := decide_eq_true hgt
          have t2 : decide (pv > v) = true := decide_eq_true hgt
          clear hpv hgt
          obtain ⟨S2, hS2⟩ : ∃ q, q = S.fill a := ⟨_, rfl⟩
          have hup := hide (show S.up k = S2.at k ((a : Int) + 1) by unfold RP.up; rw [HA.out, hS2]; simp)
          have hps := hide (show S2.ps = S.ps by rw [hS2]; exact RP.fill_ps _ _)
          have hhh := hide (show S2.h = a by rw [hS2]; exact RP.fill_h _ _)
          have hnn := hide (show S2.n ≤ S.n + 1 ∧ S.n ≤ S2.n by rw [hS2]; unfold RP.fill; split <;> simp)
          have OK2 := hide (show S2.Ok (l.length + 1) ps.length (k + 1) by rw [hS2]; exact OK.out.fill hal.out)
          obtain ⟨dd, hdd⟩ : ∃ q : Int, q = (S2.n : Int) - S.n := ⟨_, rfl⟩
          have CM := hide (fun (W : World) (h1' : Kn w W [(w.heap.size, #[.slice a1 l.length c1, .slice a2 r.length c2, .slice a3 ps.length c3], 27), (w.heap.size + 1, #[.int .i64 v, .int .i64 row], 49), (w.heap.size + 1 + 1, #[.slice none 0 0, .slice none 0 0, .slice none 0 0], 27), (m, #[.slice (some ⟨gx, 0, none⟩) nl kx, .slice (some ⟨gy, 0, none⟩) nr ky, .slice g3 ps.length k3], 27)]) (h2' : O3 W (.slice (some ⟨gx, 0, none⟩) nl kx) (.slice (some ⟨gy, 0, none⟩) nr ky) (.slice g3 ps.length k3) S m1 j1 m2 j2 n3 h3) => show Calls Try.prog 67 #[.pointer (some ⟨m, 0, none⟩), .int .i64 a, .int .i64 S.h] W (RetMv W (.slice (some ⟨gx, 0, none⟩) nl kx) (.slice (some ⟨gy, 0, none⟩) nr ky) (.slice g3 ps.length k3) m1 j1 m2 j2 n3 h3 S2 dd) by
            rw [hdd, hS2]
            exact sMove_oc m _ _ _ S a (l.length + 1) ps.length (k + 1) m1 j1 m2 j2 n3 h3 W h2' (h1'.mem 3 rfl) (by have := HN.out; unfold P3; omega) OK.out hal.out)
          have hd0 : 0 ≤ dd := by have := hnn.out; omega
          have hd1 : dd ≤ 1 := by have := hnn.out; omega
          have hsn : (S.n : Int) ≤ 1048576 := by have := HNK.out; have := HL.out; omega
          have HDD := hide hdd
          clear hdd hS2
          go_wp2_with fail
          go_region
          go_wp2_with fail
          clear e20 b10 q0 q1 fz0 fz1 t1 t2 hk0
          go_at_call 67
          refine (CM.out _ X.out.drew O.out.drew).mono ?_
          rintro e w12 ⟨rfl, O2, T2⟩
          have O2 := hide O2
          have X2 := hide (X.out.drew.trn T2 (fun b hb => by have := HN.out; unfold P3 at hb; omega) (by intro e he; have := HN.out; unfold P3; simp at he; rcases he with rfl | rfl | rfl | rfl <;> simp <;> omega))
          clear X O T2 CM
          skip
          have e20 : w12.cell? ⟨m, 2, none⟩ = some (.slice (some ⟨gz, 0, none⟩) ps.length k3) := by rw [← E3.out]; exact X2.out.cell 3 2 rfl rfl
          have OZ := O2.out
          rw [E3.out] at OZ
          have hk2 : k < S2.ps.length := by rw [hps.out]; exact hkp
          obtain ⟨gz', e4, -, -, -, zc⟩ := OZ.z.at (by omega)
          obtain rfl : gz = gz' := by injection e4 with e4; injection e4
          obtain ⟨-, q1, -, fz1⟩ := zc k hk2
          have q1 : w12.cell? ⟨gz, k * 2 + 1, none⟩ = some (.int .i64 (S2.ps.getD k (0, 0)).2) := q1
          obtain ⟨y9, hy9⟩ : ∃ q, q = (S2.ps.getD k (0, 0)).2 := ⟨_, rfl⟩
          rw [← hy9] at q1
          clear hy9 zc e4
          have O3' := hide (OZ.putZ (by rw [hps.out]; exact HN3.out) Z12.out.1 Z12.out.2 k ((a : Int) + 1) hk2)
          have T3 := (Trn.refl (P3 m1 j1 m2 j2 n3 h3) w12).setCell (.inr (.inr Z12.out)) (k * 2 + 1) (.int .i64 ((a : Int) + 1))
          have X3 := hide (X2.out.trn T3 (fun b hb => by have := HN.out; unfold P3 at hb; omega) (by intro e he; have := HN.out; unfold P3; simp at he; rcases he with rfl | rfl | rfl | rfl <;> simp <;> omega))
          have hal2 : (a : Int) ≤ 1048576 := by have := hal.out; have := HL.out; omega
          have hkb : (k : Int) ≤ 1048576 := by have := HL.out; omega
          clear T3 OZ O2 hk2
          have HKP := hide hkp
          have hklp := hide hkl
          clear hkp
          go_wp2_with fail
          go_roundw
          case rel =>
            refine ⟨k, S2.at k ((a : Int) + 1), by omega, ?_, ?_, by go_num, ?_, ?_, ?_, ?_, ?_⟩
            · show _ = Value.int .i64 (S2.h : Int); rw [hhh.out]
            · show _ = Value.int .i64 (S2.n : Int); have := HDD.out; congr 1; omega
            · show S2.n + k ≤ ps.length; have := hnn.out; have := HNK.out; omega
            · exact (OK2.out.less (Nat.le_succ k)).at ((a : Int) + 1) ⟨by omega, by omega⟩ hklp.out (Nat.le_refl _)
            · show (RP.ups v k (S2.at k ((a : Int) + 1))).put v row = T; rw [← hup.out]; exact HU.out
            · exact X3.out
            · show O3 _ _ _ _ _ _ _ _ _ _ _; rw [E3.out]; exact O3'.out
          case measure => simp [intOf]

end Go.Proofs.Ytajfhalalnlejaa
