/- The law FnExactRippleDelete holds: whatever the arguments, the call returns true, and they read afterwards as before. -/
import Derived.Test.YtlpnapmjflkheaaRows
import Derived.WalkKit
import Derived.ProofKit
import Derived.OpenShut
import Derived.ShutString
import Derived.ChangeOld
import Derived.Below
import Derived.Test.YtlpnapmjflkheaaRdL
import Derived.Test.YtlpnapmjflkheaaOck
namespace Go.Proofs.Ytlpnapmjflkheaa.fnExactRippleDelete
open Go.ChangeShapes Go.WideShapes Go.ChangeAt Go.RowKit
open Go.ChangeMaps (open_string shut_string)
set_option linter.unusedVariables false
set_option linter.unusedSimpArgs false

theorem own : ownKnob Try.prog.godebug = none := by kernel_rfl
theorem laidOut : laidOutB Try.prog = true := by kernel_rfl

set_option maxRecDepth 100000 in
set_option maxHeartbeats 40000000 in
theorem walk (w : World) (v0 : Value) (w0 : ∃ l r ps, Ck w w.heap.size v0 l r ps) (av : Int) (wv : (Lit.int .i64 av).wf = true) :
    Calls Try.prog 7 #[v0, .int .i64 av] w fun e w' => e = .returned (.bool true) ∧ Below w.heap.size w w' := by
  obtain ⟨l, r, ps, hv⟩ := w0
  have hav := bounds_i64 wv
  clear wv
  obtain ⟨a1, c1, a2, c2, a3, c3, rfl, -⟩ := hv.form
  obtain ⟨wl, wr, wpl, wp⟩ := hv.wf
  have V := hide hv
  clear hv
  have X := hide (Kn.one w #[.slice a1 l.length c1, .slice a2 r.length c2, .slice a3 ps.length c3] 61)
  obtain ⟨wC, hwC⟩ : ∃ q, q = w.alloc (.cells #[.slice a1 l.length c1, .slice a2 r.length c2, .slice a3 ps.length c3] 61) := ⟨_, rfl⟩
  have N0 := hide (show wC.heap.size = w.heap.size + 1 by rw [hwC]; simp)
  rw [← hwC] at X
  have hsz := hide (fun (W : World) (h : Below w.heap.size w W) => szCracker_any _ l r ps 1048576 W w.heap.size (V.out.below h (Nat.le_refl _)) h.size (by omega) (by omega))
  obtain ⟨z1, hz1⟩ : ∃ z, z = szC (l.length + r.length + ps.length) 1048576 := ⟨_, rfl⟩
  rw [← hz1] at hsz
  unfold szC at hz1
  by_cases hneg : z1 < 0
  · have b0 : decide (z1 < 0) = true := by simp; omega
    clear hz1
    go_enter Try.func7, Try.ntmps7
    have c00 : wC.cell? ⟨w.heap.size, 0, none⟩ = some (.slice a1 l.length c1) := X.out.cell 0 0 rfl rfl
    have c01 : wC.cell? ⟨w.heap.size, 1, none⟩ = some (.slice a2 r.length c2) := X.out.cell 0 1 rfl rfl
    have c02 : wC.cell? ⟨w.heap.size, 2, none⟩ = some (.slice a3 ps.length c3) := X.out.cell 0 2 rfl rfl
    rw [hwC] at c00 c01 c02
    go_wp2_with fail
    rw [← hwC]
    clear hwC c00 c01 c02
    go_at_call 37
    refine (hsz.out _ X.out.below).mono ?_
    rintro e w1 ⟨rfl, hb⟩
    have X := hide (X.out.up hb)
    have N1 := hide hb.size
    clear hb
    go_wp2_with fail
    go_ret
    exact ⟨rfl, X.out.below⟩
  have hbig : l.length + r.length + ps.length ≤ 1048576 := by split at hz1 <;> omega
  have b0 : decide (z1 < 0) = false := by simp; omega
  clear hz1 hneg
  · skip
    have T := hide (fun (W : World) (h : Below w.heap.size w W) => toCracker_own _ l r ps W w.heap.size (V.out.below h (Nat.le_refl _)) h.size (by omega) (by omega) (by omega))
    have TA := hide (fun (W : World) (h : Below w.heap.size w W) => toCracker_any _ l r ps W w.heap.size (V.out.below h (Nat.le_refl _)) h.size (by omega) (by omega) (by omega))
    have hI : I64 av := ⟨by omega, by omega⟩
    have HSP := hide (fun (W : World) (v : Value) (h : Ck W W.heap.size v l r ps) => sRd_any v l r ps av W h (by omega) (by omega) (by omega) wl wr wp hI)
    have HIP := hide (fun (W : World) (v : Value) (h : Ck W W.heap.size v l r ps) => iRd_any v l r ps av W h (by omega) (by omega) (by omega) wl wr wp hI)
    obtain ⟨hn1, hn2, hn3, hn4, hn5, hn6⟩ := rd_wf (l := l) (r := r) (ps := ps) (row := av) (by omega) (by omega) (by omega) wl wr wp
    obtain ⟨nl, hnl⟩ : ∃ q, q = rdL l r ps av := ⟨_, rfl⟩
    obtain ⟨nr, hnr⟩ : ∃ q, q = rdR l r ps av := ⟨_, rfl⟩
    obtain ⟨np, hnp⟩ : ∃ q, q = rdP l r ps av := ⟨_, rfl⟩
    obtain ⟨nn, hnn⟩ : ∃ q, q = rdN l r ps av := ⟨_, rfl⟩
    obtain ⟨t, ht⟩ : ∃ q, q = rdOk l r ps av := ⟨_, rfl⟩
    rw [← hnl, ← hnr, ← hnp, ← hnn, ← ht] at HSP HIP
    rw [← hnl] at hn1 hn4
    rw [← hnr] at hn2 hn5
    rw [← hnp] at hn3 hn6
    clear hnl hnr hnp hnn ht
    have CK := hide (fun (W : World) (x y z : Value) (lo hi p1 q1 p2 q2 p3 q3 : Nat) (h : OC W x y z nl nr np lo hi p1 q1 p2 q2 p3 q3) => h.ck hn4 hn5 (by omega) hn6)
    have hTnn : ((nn : Int) != (nn : Int)) = false := by simp
    have CK0 := hide (fun (W : World) (x y z : Value) (lo hi p1 q1 p2 q2 p3 q3 : Nat) (h : OC W x y z l r ps lo hi p1 q1 p2 q2 p3 q3) => h.ck wl wr (by omega) wp)
    obtain ⟨M0, hM0⟩ : ∃ M : Int, M = 1 + (l.length : Int) + (r.length : Int) + 2 * (ps.length : Int) := ⟨_, rfl⟩
    have HM0 := hide (fun (W : World) (x y z : Value) (lo hi p1 q1 p2 q2 p3 q3 : Nat) (h : OC W x y z l r ps lo hi p1 q1 p2 q2 p3 q3) => show Calls Try.prog 32 #[.agg #[x, y, z], .int .i64 1] W (RetMC W x y z lo hi p1 q1 p2 q2 p3 q3 M0 (mkI 1 l.length) (mkI (1 + l.length) r.length) (mkP (1 + l.length + r.length) ps.length)) by rw [hM0]; exact markCracker_oc x y z l r ps lo hi p1 q1 p2 q2 p3 q3 1 W h (by omega) (by omega))
    have hK : decide (M0 < 0) = false := by simp; omega
    obtain ⟨M, hM⟩ : ∃ M : Int, M = 1 + (nl.length : Int) + (nr.length : Int) + 2 * (np.length : Int) := ⟨_, rfl⟩
    have HMk := hide (fun (W : World) (x y z : Value) (lo hi p1 q1 p2 q2 p3 q3 : Nat) (h : OC W x y z nl nr np lo hi p1 q1 p2 q2 p3 q3) => show Calls Try.prog 32 #[.agg #[x, y, z], .int .i64 1] W (RetMC W x y z lo hi p1 q1 p2 q2 p3 q3 M (mkI 1 nl.length) (mkI (1 + nl.length) nr.length) (mkP (1 + nl.length + nr.length) np.length)) by rw [hM]; exact markCracker_oc x y z nl nr np lo hi p1 q1 p2 q2 p3 q3 1 W h (by omega) (by omega))
    have HHd := hide (fun (W : World) (x y z : Value) (lo hi p1 q1 p2 q2 p3 q3 : Nat) (h : OC W x y z (mkI 1 nl.length) (mkI (1 + nl.length) nr.length) (mkP (1 + nl.length + nr.length) np.length) lo hi p1 q1 p2 q2 p3 q3) => show Calls Try.prog 33 #[.agg #[x, y, z], .int .i64 1] W (RetI1 W M) by rw [hM]; exact heldCracker_oc x y z nl.length nr.length np.length lo hi p1 q1 p2 q2 p3 q3 1 W h (by omega) (by omega))
    have hMn : decide (M < 0) = false := by simp; omega
    have hMM : (M != M) = false := by simp
    have hT : (t != t) = false := by simp
    clear hM0 hM hn1 hn2 hn3 hn4 hn5 hn6 wl wr wpl wp hav hI
    go_enter Try.func7, Try.ntmps7
    have c00 : wC.cell? ⟨w.heap.size, 0, none⟩ = some (.slice a1 l.length c1) := X.out.cell 0 0 rfl rfl
    have c01 : wC.cell? ⟨w.heap.size, 1, none⟩ = some (.slice a2 r.length c2) := X.out.cell 0 1 rfl rfl
    have c02 : wC.cell? ⟨w.heap.size, 2, none⟩ = some (.slice a3 ps.length c3) := X.out.cell 0 2 rfl rfl
    rw [hwC] at c00 c01 c02
    go_wp2_with fail
    rw [← hwC]
    clear hwC c00 c01 c02
    go_at_call 37
    refine (hsz.out _ X.out.below).mono ?_
    rintro e w1 ⟨rfl, hb⟩
    have X := hide (X.out.up hb)
    have N1 := hide hb.size
    clear hb
    have c00 : w1.cell? ⟨w.heap.size, 0, none⟩ = some (.slice a1 l.length c1) := X.out.cell 0 0 rfl rfl
    have c01 : w1.cell? ⟨w.heap.size, 1, none⟩ = some (.slice a2 r.length c2) := X.out.cell 0 1 rfl rfl
    have c02 : w1.cell? ⟨w.heap.size, 2, none⟩ = some (.slice a3 ps.length c3) := X.out.cell 0 2 rfl rfl
    go_wp2_with fail
    clear c00 c01 c02
    go_at_call 38
    refine (TA.out _ X.out.below).mono ?_
    rintro e w2 ⟨ua1, va1, ua2, va2, ua3, va3, rfl, Ia, hb⟩
    have X := hide (X.out.up hb)
    have N2 := hide hb.size
    clear hb
    have c00 : w2.cell? ⟨w.heap.size, 0, none⟩ = some (.slice a1 l.length c1) := X.out.cell 0 0 rfl rfl
    have c01 : w2.cell? ⟨w.heap.size, 1, none⟩ = some (.slice a2 r.length c2) := X.out.cell 0 1 rfl rfl
    have c02 : w2.cell? ⟨w.heap.size, 2, none⟩ = some (.slice a3 ps.length c3) := X.out.cell 0 2 rfl rfl
    go_wp2_with fail
    clear c00 c01 c02
    go_at_call 19
    refine (HSP.out _ _ Ia).mono ?_
    rintro e w3 ⟨x, y, z, loA, hiA, pA1, qA1, pA2, qA2, pA3, qA3, rfl, hlo, hhi, CA, hb⟩
    obtain ⟨gA1, kA1, rfl⟩ := CA.x.form
    obtain ⟨gA2, kA2, rfl⟩ := CA.y.form
    obtain ⟨gA3, kA3, rfl⟩ := CA.z.own.form
    have HAl := hide hlo
    have HAh := hide hhi
    clear hlo hhi
    have X := hide (X.out.up hb)
    have N3 := hide hb.size
    clear hb
    have CA := hide CA
    have hbl := below1 w3 (.cells #[.slice gA1 nl.length kA1, .slice gA2 nr.length kA2, .slice gA3 np.length kA3] 27)
    have X := hide (X.out.alloc #[.slice gA1 nl.length kA1, .slice gA2 nr.length kA2, .slice gA3 np.length kA3] 27)
    have CA := hide (CA.out.below hbl)
    clear hbl
    obtain ⟨w4, hw4⟩ : ∃ q, q = w3.alloc (.cells #[.slice gA1 nl.length kA1, .slice gA2 nr.length kA2, .slice gA3 np.length kA3] 27) := ⟨_, rfl⟩
    obtain ⟨b1, hb1⟩ : ∃ q, q = w3.heap.size := ⟨_, rfl⟩
    have N6 := hide (show b1 = w3.heap.size ∧ w4.heap.size = w3.heap.size + 1 by rw [hw4, hb1]; simp)
    rw [← hw4] at X CA
    rw [← hb1] at X
    simp only [List.cons_append, List.nil_append] at X
    clear Ia
    have c00 : w4.cell? ⟨w.heap.size, 0, none⟩ = some (.slice a1 l.length c1) := X.out.cell 0 0 rfl rfl
    have c01 : w4.cell? ⟨w.heap.size, 1, none⟩ = some (.slice a2 r.length c2) := X.out.cell 0 1 rfl rfl
    have c02 : w4.cell? ⟨w.heap.size, 2, none⟩ = some (.slice a3 ps.length c3) := X.out.cell 0 2 rfl rfl
    have c10 : w4.cell? ⟨b1, 0, none⟩ = some (.slice gA1 nl.length kA1) := X.out.cell 1 0 rfl rfl
    have c11 : w4.cell? ⟨b1, 1, none⟩ = some (.slice gA2 nr.length kA2) := X.out.cell 1 1 rfl rfl
    have c12 : w4.cell? ⟨b1, 2, none⟩ = some (.slice gA3 np.length kA3) := X.out.cell 1 2 rfl rfl
    rw [hw4] at c00 c01 c02 c10 c11 c12
    go_wp2_with fail
    rw [← hw4]
    try rw [← hb1]
    clear hw4 hb1
    clear c00 c01 c02 c10 c11 c12
    go_at_call 38
    refine (T.out _ X.out.below).mono ?_
    rintro e w5 ⟨vx, lox, rfl, hlo, OX, hb⟩
    obtain ⟨x, y, z, m1, m2, rfl, ox1, ox2, ox3⟩ := OX
    have CX := OC.of_ock ox1 ox2 ox3
    obtain ⟨gX1, kX1, rfl⟩ := CX.x.form
    obtain ⟨gX2, kX2, rfl⟩ := CX.y.form
    obtain ⟨gX3, kX3, rfl⟩ := CX.z.own.form
    have HXl := hide hlo
    clear hlo ox1 ox2 ox3
    have X := hide (X.out.up hb)
    have CA := hide (CA.out.below hb)
    have N7 := hide hb.size
    clear hb
    have CX := hide CX
    have hbl := below1 w5 (.cells #[.slice gX1 l.length kX1, .slice gX2 r.length kX2, .slice gX3 ps.length kX3] 27)
    have X := hide (X.out.alloc #[.slice gX1 l.length kX1, .slice gX2 r.length kX2, .slice gX3 ps.length kX3] 27)
    have CA := hide (CA.out.below hbl)
    have CX := hide (CX.out.below hbl)
    clear hbl
    obtain ⟨w6, hw6⟩ : ∃ q, q = w5.alloc (.cells #[.slice gX1 l.length kX1, .slice gX2 r.length kX2, .slice gX3 ps.length kX3] 27) := ⟨_, rfl⟩
    obtain ⟨b2, hb2⟩ : ∃ q, q = w5.heap.size := ⟨_, rfl⟩
    have N9 := hide (show b2 = w5.heap.size ∧ w6.heap.size = w5.heap.size + 1 by rw [hw6, hb2]; simp)
    rw [← hw6] at X CA CX
    rw [← hb2] at X
    simp only [List.cons_append, List.nil_append] at X
    have c00 : w6.cell? ⟨w.heap.size, 0, none⟩ = some (.slice a1 l.length c1) := X.out.cell 0 0 rfl rfl
    have c01 : w6.cell? ⟨w.heap.size, 1, none⟩ = some (.slice a2 r.length c2) := X.out.cell 0 1 rfl rfl
    have c02 : w6.cell? ⟨w.heap.size, 2, none⟩ = some (.slice a3 ps.length c3) := X.out.cell 0 2 rfl rfl
    have c10 : w6.cell? ⟨b1, 0, none⟩ = some (.slice gA1 nl.length kA1) := X.out.cell 1 0 rfl rfl
    have c11 : w6.cell? ⟨b1, 1, none⟩ = some (.slice gA2 nr.length kA2) := X.out.cell 1 1 rfl rfl
    have c12 : w6.cell? ⟨b1, 2, none⟩ = some (.slice gA3 np.length kA3) := X.out.cell 1 2 rfl rfl
    have c20 : w6.cell? ⟨b2, 0, none⟩ = some (.slice gX1 l.length kX1) := X.out.cell 2 0 rfl rfl
    have c21 : w6.cell? ⟨b2, 1, none⟩ = some (.slice gX2 r.length kX2) := X.out.cell 2 1 rfl rfl
    have c22 : w6.cell? ⟨b2, 2, none⟩ = some (.slice gX3 ps.length kX3) := X.out.cell 2 2 rfl rfl
    rw [hw6] at c00 c01 c02 c10 c11 c12 c20 c21 c22
    go_wp2_with fail
    rw [← hw6]
    try rw [← hb2]
    clear hw6 hb2
    clear c00 c01 c02 c10 c11 c12 c20 c21 c22
    go_at_call 14
    refine (HIP.out _ _ (CK0.out _ _ _ _ _ _ _ _ _ _ _ _ CX.out)).mono ?_
    rintro e w7 ⟨x, y, z, loG, hiG, pG1, qG1, pG2, qG2, pG3, qG3, rfl, hlo, hhi, CG, hb⟩
    obtain ⟨gG1, kG1, rfl⟩ := CG.x.form
    obtain ⟨gG2, kG2, rfl⟩ := CG.y.form
    obtain ⟨gG3, kG3, rfl⟩ := CG.z.own.form
    have HGl := hide hlo
    have HGh := hide hhi
    clear hlo hhi
    have X := hide (X.out.up hb)
    have CA := hide (CA.out.below hb)
    have CX := hide (CX.out.below hb)
    have N10 := hide hb.size
    clear hb
    have CG := hide CG
    have hbl := below1 w7 (.cells #[.slice gG1 nl.length kG1, .slice gG2 nr.length kG2, .slice gG3 np.length kG3] 27)
    have X := hide (X.out.alloc #[.slice gG1 nl.length kG1, .slice gG2 nr.length kG2, .slice gG3 np.length kG3] 27)
    have CA := hide (CA.out.below hbl)
    have CX := hide (CX.out.below hbl)
    have CG := hide (CG.out.below hbl)
    clear hbl
    obtain ⟨w8, hw8⟩ : ∃ q, q = w7.alloc (.cells #[.slice gG1 nl.length kG1, .slice gG2 nr.length kG2, .slice gG3 np.length kG3] 27) := ⟨_, rfl⟩
    obtain ⟨b3, hb3⟩ : ∃ q, q = w7.heap.size := ⟨_, rfl⟩
    have N13 := hide (show b3 = w7.heap.size ∧ w8.heap.size = w7.heap.size + 1 by rw [hw8, hb3]; simp)
    rw [← hw8] at X CA CX CG
    rw [← hb3] at X
    simp only [List.cons_append, List.nil_append] at X
    have c00 : w8.cell? ⟨w.heap.size, 0, none⟩ = some (.slice a1 l.length c1) := X.out.cell 0 0 rfl rfl
    have c01 : w8.cell? ⟨w.heap.size, 1, none⟩ = some (.slice a2 r.length c2) := X.out.cell 0 1 rfl rfl
    have c02 : w8.cell? ⟨w.heap.size, 2, none⟩ = some (.slice a3 ps.length c3) := X.out.cell 0 2 rfl rfl
    have c10 : w8.cell? ⟨b1, 0, none⟩ = some (.slice gA1 nl.length kA1) := X.out.cell 1 0 rfl rfl
    have c11 : w8.cell? ⟨b1, 1, none⟩ = some (.slice gA2 nr.length kA2) := X.out.cell 1 1 rfl rfl
    have c12 : w8.cell? ⟨b1, 2, none⟩ = some (.slice gA3 np.length kA3) := X.out.cell 1 2 rfl rfl
    have c20 : w8.cell? ⟨b2, 0, none⟩ = some (.slice gX1 l.length kX1) := X.out.cell 2 0 rfl rfl
    have c21 : w8.cell? ⟨b2, 1, none⟩ = some (.slice gX2 r.length kX2) := X.out.cell 2 1 rfl rfl
    have c22 : w8.cell? ⟨b2, 2, none⟩ = some (.slice gX3 ps.length kX3) := X.out.cell 2 2 rfl rfl
    have c30 : w8.cell? ⟨b3, 0, none⟩ = some (.slice gG1 nl.length kG1) := X.out.cell 3 0 rfl rfl
    have c31 : w8.cell? ⟨b3, 1, none⟩ = some (.slice gG2 nr.length kG2) := X.out.cell 3 1 rfl rfl
    have c32 : w8.cell? ⟨b3, 2, none⟩ = some (.slice gG3 np.length kG3) := X.out.cell 3 2 rfl rfl
    rw [hw8] at c00 c01 c02 c10 c11 c12 c20 c21 c22 c30 c31 c32
    go_wp2_with fail
    rw [← hw8]
    try rw [← hb3]
    clear hw8 hb3
    clear c00 c01 c02 c10 c11 c12 c20 c21 c22 c30 c31 c32
    go_at_call 27
    refine (eqCracker_same _ _ nl nr np _ _ (Nat.le_refl _) (CK.out _ _ _ _ _ _ _ _ _ _ _ _ CG.out) (CK.out _ _ _ _ _ _ _ _ _ _ _ _ CA.out)).mono ?_
    rintro e w9 ⟨rfl, hb⟩
    have X := hide (X.out.up hb)
    have CA := hide (CA.out.below hb)
    have CX := hide (CX.out.below hb)
    have CG := hide (CG.out.below hb)
    have N14 := hide hb.size
    clear hb
    have c00 : w9.cell? ⟨w.heap.size, 0, none⟩ = some (.slice a1 l.length c1) := X.out.cell 0 0 rfl rfl
    have c01 : w9.cell? ⟨w.heap.size, 1, none⟩ = some (.slice a2 r.length c2) := X.out.cell 0 1 rfl rfl
    have c02 : w9.cell? ⟨w.heap.size, 2, none⟩ = some (.slice a3 ps.length c3) := X.out.cell 0 2 rfl rfl
    have c10 : w9.cell? ⟨b1, 0, none⟩ = some (.slice gA1 nl.length kA1) := X.out.cell 1 0 rfl rfl
    have c11 : w9.cell? ⟨b1, 1, none⟩ = some (.slice gA2 nr.length kA2) := X.out.cell 1 1 rfl rfl
    have c12 : w9.cell? ⟨b1, 2, none⟩ = some (.slice gA3 np.length kA3) := X.out.cell 1 2 rfl rfl
    have c20 : w9.cell? ⟨b2, 0, none⟩ = some (.slice gX1 l.length kX1) := X.out.cell 2 0 rfl rfl
    have c21 : w9.cell? ⟨b2, 1, none⟩ = some (.slice gX2 r.length kX2) := X.out.cell 2 1 rfl rfl
    have c22 : w9.cell? ⟨b2, 2, none⟩ = some (.slice gX3 ps.length kX3) := X.out.cell 2 2 rfl rfl
    have c30 : w9.cell? ⟨b3, 0, none⟩ = some (.slice gG1 nl.length kG1) := X.out.cell 3 0 rfl rfl
    have c31 : w9.cell? ⟨b3, 1, none⟩ = some (.slice gG2 nr.length kG2) := X.out.cell 3 1 rfl rfl
    have c32 : w9.cell? ⟨b3, 2, none⟩ = some (.slice gG3 np.length kG3) := X.out.cell 3 2 rfl rfl
    go_wp2_with fail
    have X := hide X.out.drew
    have CA := hide (CA.out.below (Below.refl _ _).drew)
    have CX := hide (CX.out.below (Below.refl _ _).drew)
    have CG := hide (CG.out.below (Below.refl _ _).drew)
    have NQ := hide True.intro
    go_region_held3 (fun w' => w'.cell? ⟨w.heap.size, 0, none⟩ = some (.slice a1 l.length c1) ∧ w'.cell? ⟨w.heap.size, 1, none⟩ = some (.slice a2 r.length c2) ∧ w'.cell? ⟨w.heap.size, 2, none⟩ = some (.slice a3 ps.length c3) ∧ w'.cell? ⟨b2, 0, none⟩ = some (.slice gX1 l.length kX1) ∧ w'.cell? ⟨b2, 1, none⟩ = some (.slice gX2 r.length kX2) ∧ w'.cell? ⟨b2, 2, none⟩ = some (.slice gX3 ps.length kX3)) (first | exact ⟨c00, c01, c02, c20, c21, c22⟩ | go_keep) (first
      | (go_at_call 38; refine (TA.out _ X.out.below).mono ?_; rintro e wq ⟨ub1, vb1, ub2, vb2, ub3, vb3, rfl, Ib, hb⟩; have NQ := hide hb.size; have X := hide (X.out.up hb); have CA := hide (CA.out.below hb); have CX := hide (CX.out.below hb); have CG := hide (CG.out.below hb); have c00 : wq.cell? ⟨w.heap.size, 0, none⟩ = some (.slice a1 l.length c1) := X.out.cell 0 0 rfl rfl; have c01 : wq.cell? ⟨w.heap.size, 1, none⟩ = some (.slice a2 r.length c2) := X.out.cell 0 1 rfl rfl; have c02 : wq.cell? ⟨w.heap.size, 2, none⟩ = some (.slice a3 ps.length c3) := X.out.cell 0 2 rfl rfl; have c20 : wq.cell? ⟨b2, 0, none⟩ = some (.slice gX1 l.length kX1) := X.out.cell 2 0 rfl rfl; have c21 : wq.cell? ⟨b2, 1, none⟩ = some (.slice gX2 r.length kX2) := X.out.cell 2 1 rfl rfl; have c22 : wq.cell? ⟨b2, 2, none⟩ = some (.slice gX3 ps.length kX3) := X.out.cell 2 2 rfl rfl)
      | (go_at_call 27; refine (eqCracker_same _ _ l r ps _ _ (Nat.le_refl _) (CK0.out _ _ _ _ _ _ _ _ _ _ _ _ CX.out) Ib).mono ?_; rintro e wq ⟨rfl, hb⟩; have NR := hide (Nat.le_trans NQ.out hb.size); have X := hide (X.out.up hb); have CA := hide (CA.out.below hb); have CX := hide (CX.out.below hb); have CG := hide (CG.out.below hb); have c00 : wq.cell? ⟨w.heap.size, 0, none⟩ = some (.slice a1 l.length c1) := X.out.cell 0 0 rfl rfl; have c01 : wq.cell? ⟨w.heap.size, 1, none⟩ = some (.slice a2 r.length c2) := X.out.cell 0 1 rfl rfl; have c02 : wq.cell? ⟨w.heap.size, 2, none⟩ = some (.slice a3 ps.length c3) := X.out.cell 0 2 rfl rfl; have c20 : wq.cell? ⟨b2, 0, none⟩ = some (.slice gX1 l.length kX1) := X.out.cell 2 0 rfl rfl; have c21 : wq.cell? ⟨b2, 1, none⟩ = some (.slice gX2 r.length kX2) := X.out.cell 2 1 rfl rfl; have c22 : wq.cell? ⟨b2, 2, none⟩ = some (.slice gX3 ps.length kX3) := X.out.cell 2 2 rfl rfl))
    have c00 : wq.cell? ⟨w.heap.size, 0, none⟩ = some (.slice a1 l.length c1) := X.out.cell 0 0 rfl rfl
    have c01 : wq.cell? ⟨w.heap.size, 1, none⟩ = some (.slice a2 r.length c2) := X.out.cell 0 1 rfl rfl
    have c02 : wq.cell? ⟨w.heap.size, 2, none⟩ = some (.slice a3 ps.length c3) := X.out.cell 0 2 rfl rfl
    have c10 : wq.cell? ⟨b1, 0, none⟩ = some (.slice gA1 nl.length kA1) := X.out.cell 1 0 rfl rfl
    have c11 : wq.cell? ⟨b1, 1, none⟩ = some (.slice gA2 nr.length kA2) := X.out.cell 1 1 rfl rfl
    have c12 : wq.cell? ⟨b1, 2, none⟩ = some (.slice gA3 np.length kA3) := X.out.cell 1 2 rfl rfl
    have c20 : wq.cell? ⟨b2, 0, none⟩ = some (.slice gX1 l.length kX1) := X.out.cell 2 0 rfl rfl
    have c21 : wq.cell? ⟨b2, 1, none⟩ = some (.slice gX2 r.length kX2) := X.out.cell 2 1 rfl rfl
    have c22 : wq.cell? ⟨b2, 2, none⟩ = some (.slice gX3 ps.length kX3) := X.out.cell 2 2 rfl rfl
    have c30 : wq.cell? ⟨b3, 0, none⟩ = some (.slice gG1 nl.length kG1) := X.out.cell 3 0 rfl rfl
    have c31 : wq.cell? ⟨b3, 1, none⟩ = some (.slice gG2 nr.length kG2) := X.out.cell 3 1 rfl rfl
    have c32 : wq.cell? ⟨b3, 2, none⟩ = some (.slice gG3 np.length kG3) := X.out.cell 3 2 rfl rfl
    go_wp2_with fail
    clear c00 c01 c02 c10 c11 c12 c20 c21 c22 c30 c31 c32
    go_at_call 32
    refine (HM0.out _ _ _ _ _ _ _ _ _ _ _ _ CX.out).mono ?_
    rintro e w10 ⟨rfl, -, s⟩
    have qN0 := N0.out
    have qN1 := N1.out
    have qN2 := N2.out
    have qN3 := N3.out
    have qHAl := HAl.out
    have qHAh := HAh.out
    have qN6 := N6.out
    have qN7 := N7.out
    have qHXl := HXl.out
    have qN9 := N9.out
    have qN10 := N10.out
    have qHGl := HGl.out
    have qHGh := HGh.out
    have qN13 := N13.out
    have qN14 := N14.out
    have qNR := NR.out
    have tCA := CA.out.top.1
    have tCG := CG.out.top.1
    have tCX := CX.out.top.1
    have X := hide (X.out.seg s (by omega) (by simp; omega))
    have CA := hide (CA.out.seg s (by omega))
    have CG := hide (CG.out.seg s (by omega))
    have N16 := hide s.below.size
    clear s qN0 qN1 qN2 qN3 qHAl qHAh qN6 qN7 qHXl qN9 qN10 qHGl qHGh qN13 qN14 qNR tCA tCX tCG
    clear CX
    have c00 : w10.cell? ⟨w.heap.size, 0, none⟩ = some (.slice a1 l.length c1) := X.out.cell 0 0 rfl rfl
    have c01 : w10.cell? ⟨w.heap.size, 1, none⟩ = some (.slice a2 r.length c2) := X.out.cell 0 1 rfl rfl
    have c02 : w10.cell? ⟨w.heap.size, 2, none⟩ = some (.slice a3 ps.length c3) := X.out.cell 0 2 rfl rfl
    have c10 : w10.cell? ⟨b1, 0, none⟩ = some (.slice gA1 nl.length kA1) := X.out.cell 1 0 rfl rfl
    have c11 : w10.cell? ⟨b1, 1, none⟩ = some (.slice gA2 nr.length kA2) := X.out.cell 1 1 rfl rfl
    have c12 : w10.cell? ⟨b1, 2, none⟩ = some (.slice gA3 np.length kA3) := X.out.cell 1 2 rfl rfl
    have c20 : w10.cell? ⟨b2, 0, none⟩ = some (.slice gX1 l.length kX1) := X.out.cell 2 0 rfl rfl
    have c21 : w10.cell? ⟨b2, 1, none⟩ = some (.slice gX2 r.length kX2) := X.out.cell 2 1 rfl rfl
    have c22 : w10.cell? ⟨b2, 2, none⟩ = some (.slice gX3 ps.length kX3) := X.out.cell 2 2 rfl rfl
    have c30 : w10.cell? ⟨b3, 0, none⟩ = some (.slice gG1 nl.length kG1) := X.out.cell 3 0 rfl rfl
    have c31 : w10.cell? ⟨b3, 1, none⟩ = some (.slice gG2 nr.length kG2) := X.out.cell 3 1 rfl rfl
    have c32 : w10.cell? ⟨b3, 2, none⟩ = some (.slice gG3 np.length kG3) := X.out.cell 3 2 rfl rfl
    go_wp2_with fail
    clear c00 c01 c02 c10 c11 c12 c20 c21 c22 c30 c31 c32
    go_at_call 27
    refine (eqCracker_same _ _ nl nr np _ _ (Nat.le_refl _) (CK.out _ _ _ _ _ _ _ _ _ _ _ _ CG.out) (CK.out _ _ _ _ _ _ _ _ _ _ _ _ CA.out)).mono ?_
    rintro e w11 ⟨rfl, hb⟩
    have X := hide (X.out.up hb)
    have CA := hide (CA.out.below hb)
    have CG := hide (CG.out.below hb)
    have N17 := hide hb.size
    clear hb
    have c00 : w11.cell? ⟨w.heap.size, 0, none⟩ = some (.slice a1 l.length c1) := X.out.cell 0 0 rfl rfl
    have c01 : w11.cell? ⟨w.heap.size, 1, none⟩ = some (.slice a2 r.length c2) := X.out.cell 0 1 rfl rfl
    have c02 : w11.cell? ⟨w.heap.size, 2, none⟩ = some (.slice a3 ps.length c3) := X.out.cell 0 2 rfl rfl
    have c10 : w11.cell? ⟨b1, 0, none⟩ = some (.slice gA1 nl.length kA1) := X.out.cell 1 0 rfl rfl
    have c11 : w11.cell? ⟨b1, 1, none⟩ = some (.slice gA2 nr.length kA2) := X.out.cell 1 1 rfl rfl
    have c12 : w11.cell? ⟨b1, 2, none⟩ = some (.slice gA3 np.length kA3) := X.out.cell 1 2 rfl rfl
    have c20 : w11.cell? ⟨b2, 0, none⟩ = some (.slice gX1 l.length kX1) := X.out.cell 2 0 rfl rfl
    have c21 : w11.cell? ⟨b2, 1, none⟩ = some (.slice gX2 r.length kX2) := X.out.cell 2 1 rfl rfl
    have c22 : w11.cell? ⟨b2, 2, none⟩ = some (.slice gX3 ps.length kX3) := X.out.cell 2 2 rfl rfl
    have c30 : w11.cell? ⟨b3, 0, none⟩ = some (.slice gG1 nl.length kG1) := X.out.cell 3 0 rfl rfl
    have c31 : w11.cell? ⟨b3, 1, none⟩ = some (.slice gG2 nr.length kG2) := X.out.cell 3 1 rfl rfl
    have c32 : w11.cell? ⟨b3, 2, none⟩ = some (.slice gG3 np.length kG3) := X.out.cell 3 2 rfl rfl
    go_wp2_with fail
    clear c00 c01 c02 c10 c11 c12 c20 c21 c22 c30 c31 c32
    go_at_call 32
    refine (HMk.out _ _ _ _ _ _ _ _ _ _ _ _ CG.out).mono ?_
    rintro e w12 ⟨rfl, CG2, s⟩
    have qN0 := N0.out
    have qN1 := N1.out
    have qN2 := N2.out
    have qN3 := N3.out
    have qHAl := HAl.out
    have qHAh := HAh.out
    have qN6 := N6.out
    have qN7 := N7.out
    have qHXl := HXl.out
    have qN9 := N9.out
    have qN10 := N10.out
    have qHGl := HGl.out
    have qHGh := HGh.out
    have qN13 := N13.out
    have qN14 := N14.out
    have qNR := NR.out
    have qN16 := N16.out
    have qN17 := N17.out
    have tCA := CA.out.top.1
    have tCG := CG.out.top.1
    have X := hide (X.out.seg s (by omega) (by simp; omega))
    have CA := hide (CA.out.seg s (by omega))
    have N18 := hide s.below.size
    clear s qN0 qN1 qN2 qN3 qHAl qHAh qN6 qN7 qHXl qN9 qN10 qHGl qHGh qN13 qN14 qNR qN16 qN17 tCA tCG
    have CG := hide CG2
    have c00 : w12.cell? ⟨w.heap.size, 0, none⟩ = some (.slice a1 l.length c1) := X.out.cell 0 0 rfl rfl
    have c01 : w12.cell? ⟨w.heap.size, 1, none⟩ = some (.slice a2 r.length c2) := X.out.cell 0 1 rfl rfl
    have c02 : w12.cell? ⟨w.heap.size, 2, none⟩ = some (.slice a3 ps.length c3) := X.out.cell 0 2 rfl rfl
    have c10 : w12.cell? ⟨b1, 0, none⟩ = some (.slice gA1 nl.length kA1) := X.out.cell 1 0 rfl rfl
    have c11 : w12.cell? ⟨b1, 1, none⟩ = some (.slice gA2 nr.length kA2) := X.out.cell 1 1 rfl rfl
    have c12 : w12.cell? ⟨b1, 2, none⟩ = some (.slice gA3 np.length kA3) := X.out.cell 1 2 rfl rfl
    have c20 : w12.cell? ⟨b2, 0, none⟩ = some (.slice gX1 l.length kX1) := X.out.cell 2 0 rfl rfl
    have c21 : w12.cell? ⟨b2, 1, none⟩ = some (.slice gX2 r.length kX2) := X.out.cell 2 1 rfl rfl
    have c22 : w12.cell? ⟨b2, 2, none⟩ = some (.slice gX3 ps.length kX3) := X.out.cell 2 2 rfl rfl
    have c30 : w12.cell? ⟨b3, 0, none⟩ = some (.slice gG1 nl.length kG1) := X.out.cell 3 0 rfl rfl
    have c31 : w12.cell? ⟨b3, 1, none⟩ = some (.slice gG2 nr.length kG2) := X.out.cell 3 1 rfl rfl
    have c32 : w12.cell? ⟨b3, 2, none⟩ = some (.slice gG3 np.length kG3) := X.out.cell 3 2 rfl rfl
    go_wp2_with fail
    clear c00 c01 c02 c10 c11 c12 c20 c21 c22 c30 c31 c32
    go_at_call 33
    refine (HHd.out _ _ _ _ _ _ _ _ _ _ _ _ CG.out).mono ?_
    rintro e w13 ⟨rfl, hb⟩
    have X := hide (X.out.up hb)
    have CA := hide (CA.out.below hb)
    have CG := hide (CG.out.below hb)
    have N19 := hide hb.size
    clear hb
    have c00 : w13.cell? ⟨w.heap.size, 0, none⟩ = some (.slice a1 l.length c1) := X.out.cell 0 0 rfl rfl
    have c01 : w13.cell? ⟨w.heap.size, 1, none⟩ = some (.slice a2 r.length c2) := X.out.cell 0 1 rfl rfl
    have c02 : w13.cell? ⟨w.heap.size, 2, none⟩ = some (.slice a3 ps.length c3) := X.out.cell 0 2 rfl rfl
    have c10 : w13.cell? ⟨b1, 0, none⟩ = some (.slice gA1 nl.length kA1) := X.out.cell 1 0 rfl rfl
    have c11 : w13.cell? ⟨b1, 1, none⟩ = some (.slice gA2 nr.length kA2) := X.out.cell 1 1 rfl rfl
    have c12 : w13.cell? ⟨b1, 2, none⟩ = some (.slice gA3 np.length kA3) := X.out.cell 1 2 rfl rfl
    have c20 : w13.cell? ⟨b2, 0, none⟩ = some (.slice gX1 l.length kX1) := X.out.cell 2 0 rfl rfl
    have c21 : w13.cell? ⟨b2, 1, none⟩ = some (.slice gX2 r.length kX2) := X.out.cell 2 1 rfl rfl
    have c22 : w13.cell? ⟨b2, 2, none⟩ = some (.slice gX3 ps.length kX3) := X.out.cell 2 2 rfl rfl
    have c30 : w13.cell? ⟨b3, 0, none⟩ = some (.slice gG1 nl.length kG1) := X.out.cell 3 0 rfl rfl
    have c31 : w13.cell? ⟨b3, 1, none⟩ = some (.slice gG2 nr.length kG2) := X.out.cell 3 1 rfl rfl
    have c32 : w13.cell? ⟨b3, 2, none⟩ = some (.slice gG3 np.length kG3) := X.out.cell 3 2 rfl rfl
    go_wp2_with fail
    clear c00 c01 c02 c10 c11 c12 c20 c21 c22 c30 c31 c32
    go_at_call 38
    refine (TA.out _ X.out.below).mono ?_
    rintro e w14 ⟨uh1, vh1, uh2, vh2, uh3, vh3, rfl, Ih, hb⟩
    have X := hide (X.out.up hb)
    have CA := hide (CA.out.below hb)
    have CG := hide (CG.out.below hb)
    have N20 := hide hb.size
    clear hb
    have c00 : w14.cell? ⟨w.heap.size, 0, none⟩ = some (.slice a1 l.length c1) := X.out.cell 0 0 rfl rfl
    have c01 : w14.cell? ⟨w.heap.size, 1, none⟩ = some (.slice a2 r.length c2) := X.out.cell 0 1 rfl rfl
    have c02 : w14.cell? ⟨w.heap.size, 2, none⟩ = some (.slice a3 ps.length c3) := X.out.cell 0 2 rfl rfl
    have c10 : w14.cell? ⟨b1, 0, none⟩ = some (.slice gA1 nl.length kA1) := X.out.cell 1 0 rfl rfl
    have c11 : w14.cell? ⟨b1, 1, none⟩ = some (.slice gA2 nr.length kA2) := X.out.cell 1 1 rfl rfl
    have c12 : w14.cell? ⟨b1, 2, none⟩ = some (.slice gA3 np.length kA3) := X.out.cell 1 2 rfl rfl
    have c20 : w14.cell? ⟨b2, 0, none⟩ = some (.slice gX1 l.length kX1) := X.out.cell 2 0 rfl rfl
    have c21 : w14.cell? ⟨b2, 1, none⟩ = some (.slice gX2 r.length kX2) := X.out.cell 2 1 rfl rfl
    have c22 : w14.cell? ⟨b2, 2, none⟩ = some (.slice gX3 ps.length kX3) := X.out.cell 2 2 rfl rfl
    have c30 : w14.cell? ⟨b3, 0, none⟩ = some (.slice gG1 nl.length kG1) := X.out.cell 3 0 rfl rfl
    have c31 : w14.cell? ⟨b3, 1, none⟩ = some (.slice gG2 nr.length kG2) := X.out.cell 3 1 rfl rfl
    have c32 : w14.cell? ⟨b3, 2, none⟩ = some (.slice gG3 np.length kG3) := X.out.cell 3 2 rfl rfl
    go_wp2_with fail
    clear c00 c01 c02 c10 c11 c12 c20 c21 c22 c30 c31 c32
    go_at_call 14
    refine (HIP.out _ _ Ih).mono ?_
    rintro e w15 ⟨x, y, z, loH, hiH, pH1, qH1, pH2, qH2, pH3, qH3, rfl, hlo, hhi, CH, hb⟩
    obtain ⟨gH1, kH1, rfl⟩ := CH.x.form
    obtain ⟨gH2, kH2, rfl⟩ := CH.y.form
    obtain ⟨gH3, kH3, rfl⟩ := CH.z.own.form
    have HHl := hide hlo
    have HHh := hide hhi
    clear hlo hhi
    have X := hide (X.out.up hb)
    have CA := hide (CA.out.below hb)
    have CG := hide (CG.out.below hb)
    have N21 := hide hb.size
    clear hb
    have CH := hide CH
    have hbl := below1 w15 (.cells #[.slice gH1 nl.length kH1, .slice gH2 nr.length kH2, .slice gH3 np.length kH3] 27)
    have X := hide (X.out.alloc #[.slice gH1 nl.length kH1, .slice gH2 nr.length kH2, .slice gH3 np.length kH3] 27)
    have CA := hide (CA.out.below hbl)
    have CG := hide (CG.out.below hbl)
    have CH := hide (CH.out.below hbl)
    clear hbl
    obtain ⟨w16, hw16⟩ : ∃ q, q = w15.alloc (.cells #[.slice gH1 nl.length kH1, .slice gH2 nr.length kH2, .slice gH3 np.length kH3] 27) := ⟨_, rfl⟩
    obtain ⟨b4, hb4⟩ : ∃ q, q = w15.heap.size := ⟨_, rfl⟩
    have N24 := hide (show b4 = w15.heap.size ∧ w16.heap.size = w15.heap.size + 1 by rw [hw16, hb4]; simp)
    rw [← hw16] at X CA CG CH
    rw [← hb4] at X
    simp only [List.cons_append, List.nil_append] at X
    have c00 : w16.cell? ⟨w.heap.size, 0, none⟩ = some (.slice a1 l.length c1) := X.out.cell 0 0 rfl rfl
    have c01 : w16.cell? ⟨w.heap.size, 1, none⟩ = some (.slice a2 r.length c2) := X.out.cell 0 1 rfl rfl
    have c02 : w16.cell? ⟨w.heap.size, 2, none⟩ = some (.slice a3 ps.length c3) := X.out.cell 0 2 rfl rfl
    have c10 : w16.cell? ⟨b1, 0, none⟩ = some (.slice gA1 nl.length kA1) := X.out.cell 1 0 rfl rfl
    have c11 : w16.cell? ⟨b1, 1, none⟩ = some (.slice gA2 nr.length kA2) := X.out.cell 1 1 rfl rfl
    have c12 : w16.cell? ⟨b1, 2, none⟩ = some (.slice gA3 np.length kA3) := X.out.cell 1 2 rfl rfl
    have c20 : w16.cell? ⟨b2, 0, none⟩ = some (.slice gX1 l.length kX1) := X.out.cell 2 0 rfl rfl
    have c21 : w16.cell? ⟨b2, 1, none⟩ = some (.slice gX2 r.length kX2) := X.out.cell 2 1 rfl rfl
    have c22 : w16.cell? ⟨b2, 2, none⟩ = some (.slice gX3 ps.length kX3) := X.out.cell 2 2 rfl rfl
    have c30 : w16.cell? ⟨b3, 0, none⟩ = some (.slice gG1 nl.length kG1) := X.out.cell 3 0 rfl rfl
    have c31 : w16.cell? ⟨b3, 1, none⟩ = some (.slice gG2 nr.length kG2) := X.out.cell 3 1 rfl rfl
    have c32 : w16.cell? ⟨b3, 2, none⟩ = some (.slice gG3 np.length kG3) := X.out.cell 3 2 rfl rfl
    have c40 : w16.cell? ⟨b4, 0, none⟩ = some (.slice gH1 nl.length kH1) := X.out.cell 4 0 rfl rfl
    have c41 : w16.cell? ⟨b4, 1, none⟩ = some (.slice gH2 nr.length kH2) := X.out.cell 4 1 rfl rfl
    have c42 : w16.cell? ⟨b4, 2, none⟩ = some (.slice gH3 np.length kH3) := X.out.cell 4 2 rfl rfl
    rw [hw16] at c00 c01 c02 c10 c11 c12 c20 c21 c22 c30 c31 c32 c40 c41 c42
    go_wp2_with fail
    rw [← hw16]
    try rw [← hb4]
    clear hw16 hb4
    clear c00 c01 c02 c10 c11 c12 c20 c21 c22 c30 c31 c32 c40 c41 c42
    go_at_call 27
    refine (eqCracker_same _ _ nl nr np _ _ (Nat.le_refl _) (CK.out _ _ _ _ _ _ _ _ _ _ _ _ CH.out) (CK.out _ _ _ _ _ _ _ _ _ _ _ _ CA.out)).mono ?_
    rintro e w17 ⟨rfl, hb⟩
    have X := hide (X.out.up hb)
    have CA := hide (CA.out.below hb)
    have CG := hide (CG.out.below hb)
    have CH := hide (CH.out.below hb)
    have N25 := hide hb.size
    clear hb
    have c00 : w17.cell? ⟨w.heap.size, 0, none⟩ = some (.slice a1 l.length c1) := X.out.cell 0 0 rfl rfl
    have c01 : w17.cell? ⟨w.heap.size, 1, none⟩ = some (.slice a2 r.length c2) := X.out.cell 0 1 rfl rfl
    have c02 : w17.cell? ⟨w.heap.size, 2, none⟩ = some (.slice a3 ps.length c3) := X.out.cell 0 2 rfl rfl
    have c10 : w17.cell? ⟨b1, 0, none⟩ = some (.slice gA1 nl.length kA1) := X.out.cell 1 0 rfl rfl
    have c11 : w17.cell? ⟨b1, 1, none⟩ = some (.slice gA2 nr.length kA2) := X.out.cell 1 1 rfl rfl
    have c12 : w17.cell? ⟨b1, 2, none⟩ = some (.slice gA3 np.length kA3) := X.out.cell 1 2 rfl rfl
    have c20 : w17.cell? ⟨b2, 0, none⟩ = some (.slice gX1 l.length kX1) := X.out.cell 2 0 rfl rfl
    have c21 : w17.cell? ⟨b2, 1, none⟩ = some (.slice gX2 r.length kX2) := X.out.cell 2 1 rfl rfl
    have c22 : w17.cell? ⟨b2, 2, none⟩ = some (.slice gX3 ps.length kX3) := X.out.cell 2 2 rfl rfl
    have c30 : w17.cell? ⟨b3, 0, none⟩ = some (.slice gG1 nl.length kG1) := X.out.cell 3 0 rfl rfl
    have c31 : w17.cell? ⟨b3, 1, none⟩ = some (.slice gG2 nr.length kG2) := X.out.cell 3 1 rfl rfl
    have c32 : w17.cell? ⟨b3, 2, none⟩ = some (.slice gG3 np.length kG3) := X.out.cell 3 2 rfl rfl
    have c40 : w17.cell? ⟨b4, 0, none⟩ = some (.slice gH1 nl.length kH1) := X.out.cell 4 0 rfl rfl
    have c41 : w17.cell? ⟨b4, 1, none⟩ = some (.slice gH2 nr.length kH2) := X.out.cell 4 1 rfl rfl
    have c42 : w17.cell? ⟨b4, 2, none⟩ = some (.slice gH3 np.length kH3) := X.out.cell 4 2 rfl rfl
    go_wp2_with fail
    clear c00 c01 c02 c10 c11 c12 c20 c21 c22 c30 c31 c32 c40 c41 c42
    go_at_call 33
    refine (HHd.out _ _ _ _ _ _ _ _ _ _ _ _ CG.out).mono ?_
    rintro e w18 ⟨rfl, hb⟩
    have X := hide (X.out.up hb)
    have CA := hide (CA.out.below hb)
    have CG := hide (CG.out.below hb)
    have CH := hide (CH.out.below hb)
    have N26 := hide hb.size
    clear hb
    go_wp2_with fail
    go_ret
    exact ⟨rfl, X.out.below⟩

set_option maxRecDepth 100000 in
theorem lifted (os : Os) (started : os.Started) (H : Type) (enc : TypeId × Value → H) :
    ReturnsInHanded {} Try.checked os 7 .any (Rows.fnExactRippleDeleteSpec.pre6 enc Try.prog Try.f7 Rows.fnExactRippleDeleteRow.domain false) (Rows.fnExactRippleDeleteSpec.post enc Try.prog Try.f7 false true false false) := by
  refine returnsInHanded_of_change (C := Try.checked) own started (by kernel_rfl) Try.func7
    (ChangeSpec.witness6 (enc := enc) (C := Try.checked) false ⟨#[], #[.agg #[.slice none 0 0, .slice none 0 0, .slice none 0 0], .int .i64 0], []⟩ 8 (by kernel_rfl) (by kernel_rfl) (by kernel_rfl) (by kernel_rfl)) ?_
  intro W base args ds gs before hval0 hW hcnd _
  have hval : ∀ (j : Nat) t v, Try.f7.params[j]? = some t → args[j]? = some v → Value.okWide Try.prog W .any base t v := hval0
  have hW' := hW
  obtain ⟨p, q, hA0, hV, rfl, hfz, hnd⟩ := hW
  have hA : DataW.TrodAll enc Try.prog W 0 (fun _ => true) true Try.f7.params.toList args.toList ds p := hA0
  rw [Try.params7] at hA hval
  obtain ⟨v0, vs0, d0, ds0, p0, q0, hargs, rfl, rfl, h0, r0⟩ := trodAll_cons hA
  obtain ⟨v1, vs1, d1, ds1, p1, q1, rfl, rfl, rfl, h1, r1⟩ := trodAll_cons r0
  obtain ⟨rfl, rfl, rfl⟩ := trodAll_nil r1
  obtain rfl : args = #[v0, v1] := by cases args; simp_all
  obtain ⟨rfl, rfl⟩ := trodVars_none hV
  have k0 := h0
  have lt0 : ∀ x ∈ p0, x.block < W.heap.size := by obtain ⟨m, hm⟩ := k0; exact DataW.trod_lt m _ _ _ hm
  have k1 := h1
  have lt1 : ∀ x ∈ p1, x.block < W.heap.size := by obtain ⟨m, hm⟩ := k1; exact DataW.trod_lt m _ _ _ hm
  have w0 := open_ck (hval 0 61 v0 rfl rfl) h0
  obtain ⟨a1, rfl, e1, f1, w1⟩ := open_int Try.underlying3 (hval 1 3 v1 rfl rfl) h1
  clear hA0 hval0
  refine (walk W v0 w0 a1 w1).mono fun e W' ⟨he, bel⟩ => ?_
  subst he
  exact ⟨_, rfl, _, _, _, [], _, [], hW', trodAll_mk1 (shut_bool Try.underlying4 _), (trodAll_cons_mk (Below.trod laidOut (by kernel_rfl) (of_decide_eq_true (by kernel_rfl)) k0 bel lt0) (trodAll_cons_mk (Below.trod laidOut (by kernel_rfl) (of_decide_eq_true (by kernel_rfl)) k1 bel lt1) trodAll_mk0)), rfl, bel.frame _, fun h => by cases h⟩

theorem over : Rows.fnExactRippleDeleteRow.holds Try.pinned (OpenSpec.ofChange Rows.fnExactRippleDeleteSpec) :=
  OpenClaim.holds_of_wide 7 Try.f7 rfl rfl rfl rfl rfl rfl rfl ⟨rfl, rfl, rfl, rfl, rfl⟩ rfl rfl rfl rfl rfl (by kernel_rfl) Try.func7 (by kernel_rfl)
    (of_decide_eq_true (by kernel_rfl)) (by unfold Func.isWrapper; first | (rw [if_pos (by decide +kernel)]; kernel_rfl) | (rw [if_neg (by decide +kernel)]; exact ⟨rfl, rfl⟩))
    (fun os started H enc _ => lifted os started H enc)

/-- The statement. -/
theorem proved : Rows.FnExactRippleDeleteSaid := over
#print axioms proved
end Go.Proofs.Ytlpnapmjflkheaa.fnExactRippleDelete
