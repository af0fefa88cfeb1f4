/- The law FnExactApplySwaps holds: whatever the arguments, the call returns true, and they read afterwards as before. -/
import Derived.Test.YtobdghabehbcjaaRows
import Derived.WalkKit
import Derived.ProofKit
import Derived.OpenShut
import Derived.ShutString
import Derived.ChangeOld
import Derived.Below
import Derived.Test.YtobdghabehbcjaaApJ
import Derived.Test.YtobdghabehbcjaaApS
import Derived.Test.YtobdghabehbcjaaOck
namespace Go.Proofs.Ytobdghabehbcjaa.fnExactApplySwaps
open Go.ChangeShapes Go.WideShapes Go.ChangeAt Go.RowKit
open Go.ChangeMaps (open_string shut_string)
set_option linter.unusedVariables false
set_option linter.unusedSimpArgs false

theorem own : ownKnob Try.prog.godebug = none := by kernel_rfl
theorem laidOut : laidOutB Try.prog = true := by kernel_rfl

set_option maxRecDepth 100000 in
set_option maxHeartbeats 8000000 in
theorem walk (w : World) (v0 : Value) (w0 : ∃ l r ps, Ck w w.heap.size v0 l r ps) (v1 : Value) (w1' : ∃ ps, Pvs w w.heap.size v1 ps) :
    Calls Try.prog 6 #[v0, v1] w fun e w' => e = .returned (.bool true) ∧ Below w.heap.size w w' := by
  obtain ⟨l, r, ps, hv⟩ := w0
  obtain ⟨sw, hs⟩ := w1'
  obtain ⟨sa, sc, hsf⟩ := hs.form
  subst hsf
  obtain ⟨a1, c1, a2, c2, a3, c3, rfl, -⟩ := hv.form
  obtain ⟨wl, wr, wpl, wp⟩ := hv.wf
  have V := hide hv
  clear hv
  have HS := hide hs
  have wsw : ∀ p ∈ sw, I64 p.1 ∧ I64 p.2 := by
    obtain ⟨_, _, _, _, hwf, _⟩ := hs
    exact hwf
  clear hs
  have X := hide (Kn.one w #[.slice a1 l.length c1, .slice a2 r.length c2, .slice a3 ps.length c3] 58)
  obtain ⟨wC, hwC⟩ : ∃ q, q = w.alloc (.cells #[.slice a1 l.length c1, .slice a2 r.length c2, .slice a3 ps.length c3] 58) := ⟨_, rfl⟩
  have N0 := hide (show wC.heap.size = w.heap.size + 1 by rw [hwC]; simp)
  rw [← hwC] at X
  have hsz := hide (fun (W : World) (h : Below w.heap.size w W) => szCracker_any _ l r ps 1048576 W w.heap.size (V.out.below h (Nat.le_refl _)) h.size (by omega) (by omega))
  obtain ⟨z1, hz1⟩ : ∃ z, z = szC (l.length + r.length + ps.length) 1048576 := ⟨_, rfl⟩
  rw [← hz1] at hsz
  unfold szC at hz1
  by_cases hneg : z1 < 0
  · have b0 : decide (z1 < 0) = true := by simp; omega
    clear hz1
    go_enter Try.func6, Try.ntmps6
    have c00 : wC.cell? ⟨w.heap.size, 0, none⟩ = some (.slice a1 l.length c1) := X.out.cell 0 0 rfl rfl
    have c01 : wC.cell? ⟨w.heap.size, 1, none⟩ = some (.slice a2 r.length c2) := X.out.cell 0 1 rfl rfl
    have c02 : wC.cell? ⟨w.heap.size, 2, none⟩ = some (.slice a3 ps.length c3) := X.out.cell 0 2 rfl rfl
    rw [hwC] at c00 c01 c02
    go_wp2_with fail
    rw [← hwC]
    clear hwC c00 c01 c02
    go_at_call 33
    refine (hsz.out _ X.out.below).mono ?_
    rintro e w1 ⟨rfl, hb⟩
    have X := hide (X.out.up hb)
    have N1 := hide hb.size
    clear hb
    go_wp2_with fail
    go_ret
    exact ⟨rfl, X.out.below⟩
  have hbig : l.length + r.length + ps.length ≤ 1048576 := by split at hz1 <;> omega
  have hz1r : -1 ≤ z1 ∧ z1 ≤ 1048576 := by split at hz1 <;> omega
  have b0 : decide (z1 < 0) = false := by simp; omega
  clear hz1
  have hsz2 := hide (fun (W : World) (h : Below w.heap.size w W) => szSwapS_any _ sw z1 W w.heap.size (HS.out.below h (Nat.le_refl _)) hz1r.1 hz1r.2)
  obtain ⟨z2, hz2⟩ : ∃ z, z = (if z1 - sw.length < 0 then -1 else z1 - sw.length) := ⟨_, rfl⟩
  rw [← hz2] at hsz2
  by_cases hneg2 : z2 < 0
  · have b1 : decide (z2 < 0) = true := by simp; omega
    clear hz2
    go_enter Try.func6, Try.ntmps6
    have c00 : wC.cell? ⟨w.heap.size, 0, none⟩ = some (.slice a1 l.length c1) := X.out.cell 0 0 rfl rfl
    have c01 : wC.cell? ⟨w.heap.size, 1, none⟩ = some (.slice a2 r.length c2) := X.out.cell 0 1 rfl rfl
    have c02 : wC.cell? ⟨w.heap.size, 2, none⟩ = some (.slice a3 ps.length c3) := X.out.cell 0 2 rfl rfl
    rw [hwC] at c00 c01 c02
    go_wp2_with fail
    rw [← hwC]
    clear hwC c00 c01 c02
    go_at_call 33
    refine (hsz.out _ X.out.below).mono ?_
    rintro e w1 ⟨rfl, hb⟩
    have X := hide (X.out.up hb)
    have N1 := hide hb.size
    clear hb
    go_wp2_with fail
    go_at_call 34
    refine (hsz2.out _ X.out.below).mono ?_
    rintro e wq ⟨rfl, rfl⟩
    go_wp2_with fail
    go_ret
    exact ⟨rfl, X.out.below⟩
  have hsl : sw.length ≤ 1048576 := by split at hz2 <;> omega
  have b1 : decide (z2 < 0) = false := by simp; omega
  clear hz2 hneg hneg2
  · skip
    have T := hide (fun (W : World) (h : Below w.heap.size w W) => toCracker_own _ l r ps W w.heap.size (V.out.below h (Nat.le_refl _)) h.size (by omega) (by omega) (by omega))
    have TA := hide (fun (W : World) (h : Below w.heap.size w W) => toCracker_any _ l r ps W w.heap.size (V.out.below h (Nat.le_refl _)) h.size (by omega) (by omega) (by omega))
    have TS := hide (fun (W : World) (h : Below w.heap.size w W) => toSwapS_own _ sw W w.heap.size (HS.out.below h (Nat.le_refl _)) h.size hsl)
    have HSP := hide (fun (W : World) (v sv : Value) (h : Ck W W.heap.size v l r ps) (h2 : Pvs W W.heap.size sv sw) => sApply_any v sv l r ps sw W W.heap.size h h2 (Nat.le_refl _) (by omega) (by omega) (by omega))
    have HIP := hide (fun (W : World) (v : Value) (ad : Option Addr) (cp : Nat) (h : Ck W W.heap.size v l r ps) (h2 : Pvs W W.heap.size (.slice ad sw.length cp) sw) (h3 : ad = none → cp = 0) => iApply_any v (.slice ad sw.length cp) l r ps sw W W.heap.size h h2 (Nat.le_refl _) (by omega) (by omega) (by omega))
    have hn1 : (apL l r sw).length ≤ 1048576 := by rw [apL_length]; omega
    have hn2 : (apR l r sw).length ≤ 1048576 := by rw [apR_length]; omega
    have hn3 : ps.length ≤ 1048576 := by omega
    have hn4 := apL_wf (r := r) (sw := sw) wl
    have hn5 := apR_wf (l := l) (sw := sw) wr
    have hn6 := wp
    obtain ⟨nl, hnl⟩ : ∃ q, q = apL l r sw := ⟨_, rfl⟩
    obtain ⟨nr, hnr⟩ : ∃ q, q = apR l r sw := ⟨_, rfl⟩
    obtain ⟨t, ht⟩ : ∃ q, q = canSwap l r sw := ⟨_, rfl⟩
    rw [← hnl, ← hnr, ← ht] at HSP HIP
    rw [← hnl] at hn1 hn4
    rw [← hnr] at hn2 hn5
    clear hnl hnr ht
    obtain ⟨np, hnp⟩ : ∃ q, q = ps := ⟨_, rfl⟩
    have CK := hide (fun (W : World) (x y z : Value) (lo hi p1 q1 p2 q2 p3 q3 : Nat) (h : OC W x y z nl nr ps lo hi p1 q1 p2 q2 p3 q3) => h.ck hn4 hn5 (by omega) hn6)
    clear hnp np
    have CK0 := hide (fun (W : World) (x y z : Value) (lo hi p1 q1 p2 q2 p3 q3 : Nat) (h : OC W x y z l r ps lo hi p1 q1 p2 q2 p3 q3) => h.ck wl wr (by omega) wp)
    have CSA := hide (fun (W : World) (v : Value) (lo hi : Nat) (h : Osw W v sw lo hi) => h.own.pvs (Nat.le_refl _) (show sw.length ≤ 9223372036854775807 by omega) wsw)
    obtain ⟨M0, hM0⟩ : ∃ M : Int, M = 1 + (l.length : Int) + (r.length : Int) + 2 * (ps.length : Int) := ⟨_, rfl⟩
    have HM0 := hide (fun (W : World) (x y z : Value) (lo hi p1 q1 p2 q2 p3 q3 : Nat) (h : OC W x y z l r ps lo hi p1 q1 p2 q2 p3 q3) => show Calls Try.prog 39 #[.agg #[x, y, z], .int .i64 1] W (RetMC W x y z lo hi p1 q1 p2 q2 p3 q3 M0 (mkI 1 l.length) (mkI (1 + l.length) r.length) (mkP (1 + l.length + r.length) ps.length)) by rw [hM0]; exact markCracker_oc x y z l r ps lo hi p1 q1 p2 q2 p3 q3 1 W h (by omega) (by omega))
    obtain ⟨M1, hM1⟩ : ∃ M : Int, M = M0 + 2 * (sw.length : Int) := ⟨_, rfl⟩
    have HM1 := hide (fun (W : World) (v : Value) (lo hi : Nat) (h : Osw W v sw lo hi) => show Calls Try.prog 31 #[v, .int .i64 M0] W (RetMSw W v lo hi M1 (mkP M0 sw.length)) by rw [hM1]; exact markSws_ow v sw lo hi M0 W h (by omega) (by omega))
    have hK : decide (M1 < 0) = false := by simp; omega
    obtain ⟨M, hM⟩ : ∃ M : Int, M = 1 + (nl.length : Int) + (nr.length : Int) + 2 * (ps.length : Int) := ⟨_, rfl⟩
    have HMk := hide (fun (W : World) (x y z : Value) (lo hi p1 q1 p2 q2 p3 q3 : Nat) (h : OC W x y z nl nr ps lo hi p1 q1 p2 q2 p3 q3) => show Calls Try.prog 39 #[.agg #[x, y, z], .int .i64 1] W (RetMC W x y z lo hi p1 q1 p2 q2 p3 q3 M (mkI 1 nl.length) (mkI (1 + nl.length) nr.length) (mkP (1 + nl.length + nr.length) ps.length)) by rw [hM]; exact markCracker_oc x y z nl nr ps lo hi p1 q1 p2 q2 p3 q3 1 W h (by omega) (by omega))
    have HHd := hide (fun (W : World) (x y z : Value) (lo hi p1 q1 p2 q2 p3 q3 : Nat) (h : OC W x y z (mkI 1 nl.length) (mkI (1 + nl.length) nr.length) (mkP (1 + nl.length + nr.length) ps.length) lo hi p1 q1 p2 q2 p3 q3) => show Calls Try.prog 40 #[.agg #[x, y, z], .int .i64 1] W (RetI1 W M) by rw [hM]; exact heldCracker_oc x y z nl.length nr.length ps.length lo hi p1 q1 p2 q2 p3 q3 1 W h (by omega) (by omega))
    have hMn : decide (M < 0) = false := by simp; omega
    have hMM : (M != M) = false := by simp
    have hT : (t != t) = false := by simp
    clear hM0 hM hn1 hn2 hn3 hn4 hn5 hn6 wl wr wpl wp hM1 wsw
    go_enter Try.func6, Try.ntmps6
    have c00 : wC.cell? ⟨w.heap.size, 0, none⟩ = some (.slice a1 l.length c1) := X.out.cell 0 0 rfl rfl
    have c01 : wC.cell? ⟨w.heap.size, 1, none⟩ = some (.slice a2 r.length c2) := X.out.cell 0 1 rfl rfl
    have c02 : wC.cell? ⟨w.heap.size, 2, none⟩ = some (.slice a3 ps.length c3) := X.out.cell 0 2 rfl rfl
    rw [hwC] at c00 c01 c02
    go_wp2_with fail
    rw [← hwC]
    clear hwC c00 c01 c02
    go_at_call 33
    refine (hsz.out _ X.out.below).mono ?_
    rintro e w1 ⟨rfl, hb⟩
    have X := hide (X.out.up hb)
    have N1 := hide hb.size
    clear hb
    have c00 : w1.cell? ⟨w.heap.size, 0, none⟩ = some (.slice a1 l.length c1) := X.out.cell 0 0 rfl rfl
    have c01 : w1.cell? ⟨w.heap.size, 1, none⟩ = some (.slice a2 r.length c2) := X.out.cell 0 1 rfl rfl
    have c02 : w1.cell? ⟨w.heap.size, 2, none⟩ = some (.slice a3 ps.length c3) := X.out.cell 0 2 rfl rfl
    go_wp2_with fail
    clear c00 c01 c02
    go_at_call 34
    refine (hsz2.out _ X.out.below).mono ?_
    rintro e wq ⟨rfl, rfl⟩
    have c00 : w1.cell? ⟨w.heap.size, 0, none⟩ = some (.slice a1 l.length c1) := X.out.cell 0 0 rfl rfl
    have c01 : w1.cell? ⟨w.heap.size, 1, none⟩ = some (.slice a2 r.length c2) := X.out.cell 0 1 rfl rfl
    have c02 : w1.cell? ⟨w.heap.size, 2, none⟩ = some (.slice a3 ps.length c3) := X.out.cell 0 2 rfl rfl
    go_wp2_with fail
    clear c00 c01 c02
    go_at_call 36
    refine (TA.out _ X.out.below).mono ?_
    rintro e w2 ⟨ua1, va1, ua2, va2, ua3, va3, rfl, Ia, hb⟩
    have X := hide (X.out.up hb)
    have N2 := hide hb.size
    clear hb
    have c00 : w2.cell? ⟨w.heap.size, 0, none⟩ = some (.slice a1 l.length c1) := X.out.cell 0 0 rfl rfl
    have c01 : w2.cell? ⟨w.heap.size, 1, none⟩ = some (.slice a2 r.length c2) := X.out.cell 0 1 rfl rfl
    have c02 : w2.cell? ⟨w.heap.size, 2, none⟩ = some (.slice a3 ps.length c3) := X.out.cell 0 2 rfl rfl
    go_wp2_with fail
    clear c00 c01 c02
    go_at_call 37
    refine (TS.out _ X.out.below).mono ?_
    rintro e w3 ⟨sva, rfl, OSa, hb⟩
    have Ia := Ia.up hb
    obtain ⟨sga, ska, rfl⟩ := OSa.form
    have OSa := Osw.of OSa hb.size
    have X := hide (X.out.up hb)
    have N3 := hide hb.size
    clear hb
    have c00 : w3.cell? ⟨w.heap.size, 0, none⟩ = some (.slice a1 l.length c1) := X.out.cell 0 0 rfl rfl
    have c01 : w3.cell? ⟨w.heap.size, 1, none⟩ = some (.slice a2 r.length c2) := X.out.cell 0 1 rfl rfl
    have c02 : w3.cell? ⟨w.heap.size, 2, none⟩ = some (.slice a3 ps.length c3) := X.out.cell 0 2 rfl rfl
    go_wp2_with fail
    clear c00 c01 c02
    go_at_call 35
    refine (HSP.out _ _ _ Ia (CSA.out _ _ _ _ OSa)).mono ?_
    rintro e w4 ⟨x, y, z, loA, hiA, pA1, qA1, pA2, qA2, pA3, qA3, rfl, hlo, hhi, CA, hb⟩
    obtain ⟨gA1, kA1, rfl⟩ := CA.x.form
    obtain ⟨gA2, kA2, rfl⟩ := CA.y.form
    obtain ⟨gA3, kA3, rfl⟩ := CA.z.own.form
    have HAl := hide hlo
    have HAh := hide hhi
    clear hlo hhi
    have X := hide (X.out.up hb)
    have N4 := hide hb.size
    clear hb
    have CA := hide CA
    have hbl := below1 w4 (.cells #[.slice gA1 nl.length kA1, .slice gA2 nr.length kA2, .slice gA3 ps.length kA3] 32)
    have X := hide (X.out.alloc #[.slice gA1 nl.length kA1, .slice gA2 nr.length kA2, .slice gA3 ps.length kA3] 32)
    have CA := hide (CA.out.below hbl)
    clear hbl
    obtain ⟨w5, hw5⟩ : ∃ q, q = w4.alloc (.cells #[.slice gA1 nl.length kA1, .slice gA2 nr.length kA2, .slice gA3 ps.length kA3] 32) := ⟨_, rfl⟩
    obtain ⟨b1, hb1⟩ : ∃ q, q = w4.heap.size := ⟨_, rfl⟩
    have N7 := hide (show b1 = w4.heap.size ∧ w5.heap.size = w4.heap.size + 1 by rw [hw5, hb1]; simp)
    rw [← hw5] at X CA
    rw [← hb1] at X
    simp only [List.cons_append, List.nil_append] at X
    clear Ia OSa
    have c00 : w5.cell? ⟨w.heap.size, 0, none⟩ = some (.slice a1 l.length c1) := X.out.cell 0 0 rfl rfl
    have c01 : w5.cell? ⟨w.heap.size, 1, none⟩ = some (.slice a2 r.length c2) := X.out.cell 0 1 rfl rfl
    have c02 : w5.cell? ⟨w.heap.size, 2, none⟩ = some (.slice a3 ps.length c3) := X.out.cell 0 2 rfl rfl
    have c10 : w5.cell? ⟨b1, 0, none⟩ = some (.slice gA1 nl.length kA1) := X.out.cell 1 0 rfl rfl
    have c11 : w5.cell? ⟨b1, 1, none⟩ = some (.slice gA2 nr.length kA2) := X.out.cell 1 1 rfl rfl
    have c12 : w5.cell? ⟨b1, 2, none⟩ = some (.slice gA3 ps.length kA3) := X.out.cell 1 2 rfl rfl
    rw [hw5] at c00 c01 c02 c10 c11 c12
    go_wp2_with fail
    rw [← hw5]
    try rw [← hb1]
    clear hw5 hb1
    clear c00 c01 c02 c10 c11 c12
    go_at_call 36
    refine (T.out _ X.out.below).mono ?_
    rintro e w6 ⟨vx, lox, rfl, hlo, OX, hb⟩
    obtain ⟨x, y, z, m1, m2, rfl, ox1, ox2, ox3⟩ := OX
    have CX := OC.of_ock ox1 ox2 ox3
    obtain ⟨gX1, kX1, rfl⟩ := CX.x.form
    obtain ⟨gX2, kX2, rfl⟩ := CX.y.form
    obtain ⟨gX3, kX3, rfl⟩ := CX.z.own.form
    have HXl := hide hlo
    clear hlo ox1 ox2 ox3
    have X := hide (X.out.up hb)
    have CA := hide (CA.out.below hb)
    have N8 := hide hb.size
    clear hb
    have CX := hide CX
    have hbl := below1 w6 (.cells #[.slice gX1 l.length kX1, .slice gX2 r.length kX2, .slice gX3 ps.length kX3] 32)
    have X := hide (X.out.alloc #[.slice gX1 l.length kX1, .slice gX2 r.length kX2, .slice gX3 ps.length kX3] 32)
    have CA := hide (CA.out.below hbl)
    have CX := hide (CX.out.below hbl)
    clear hbl
    obtain ⟨w7, hw7⟩ : ∃ q, q = w6.alloc (.cells #[.slice gX1 l.length kX1, .slice gX2 r.length kX2, .slice gX3 ps.length kX3] 32) := ⟨_, rfl⟩
    obtain ⟨b2, hb2⟩ : ∃ q, q = w6.heap.size := ⟨_, rfl⟩
    have N10 := hide (show b2 = w6.heap.size ∧ w7.heap.size = w6.heap.size + 1 by rw [hw7, hb2]; simp)
    rw [← hw7] at X CA CX
    rw [← hb2] at X
    simp only [List.cons_append, List.nil_append] at X
    have c00 : w7.cell? ⟨w.heap.size, 0, none⟩ = some (.slice a1 l.length c1) := X.out.cell 0 0 rfl rfl
    have c01 : w7.cell? ⟨w.heap.size, 1, none⟩ = some (.slice a2 r.length c2) := X.out.cell 0 1 rfl rfl
    have c02 : w7.cell? ⟨w.heap.size, 2, none⟩ = some (.slice a3 ps.length c3) := X.out.cell 0 2 rfl rfl
    have c10 : w7.cell? ⟨b1, 0, none⟩ = some (.slice gA1 nl.length kA1) := X.out.cell 1 0 rfl rfl
    have c11 : w7.cell? ⟨b1, 1, none⟩ = some (.slice gA2 nr.length kA2) := X.out.cell 1 1 rfl rfl
    have c12 : w7.cell? ⟨b1, 2, none⟩ = some (.slice gA3 ps.length kA3) := X.out.cell 1 2 rfl rfl
    have c20 : w7.cell? ⟨b2, 0, none⟩ = some (.slice gX1 l.length kX1) := X.out.cell 2 0 rfl rfl
    have c21 : w7.cell? ⟨b2, 1, none⟩ = some (.slice gX2 r.length kX2) := X.out.cell 2 1 rfl rfl
    have c22 : w7.cell? ⟨b2, 2, none⟩ = some (.slice gX3 ps.length kX3) := X.out.cell 2 2 rfl rfl
    rw [hw7] at c00 c01 c02 c10 c11 c12 c20 c21 c22
    go_wp2_with fail
    rw [← hw7]
    try rw [← hb2]
    clear hw7 hb2
    clear c00 c01 c02 c10 c11 c12 c20 c21 c22
    go_at_call 37
    refine (TS.out _ X.out.below).mono ?_
    rintro e w8 ⟨svx, rfl, OSx, hb⟩
    obtain ⟨sgx, skx, rfl⟩ := OSx.form
    have hnil := OSx.nilcap
    have SX := Osw.of OSx hb.size
    have X := hide (X.out.up hb)
    have CA := hide (CA.out.below hb)
    have CX := hide (CX.out.below hb)
    have N11 := hide hb.size
    clear hb
    have SX := hide SX
    have HNL := hide hnil
    clear hnil OSx
    have c00 : w8.cell? ⟨w.heap.size, 0, none⟩ = some (.slice a1 l.length c1) := X.out.cell 0 0 rfl rfl
    have c01 : w8.cell? ⟨w.heap.size, 1, none⟩ = some (.slice a2 r.length c2) := X.out.cell 0 1 rfl rfl
    have c02 : w8.cell? ⟨w.heap.size, 2, none⟩ = some (.slice a3 ps.length c3) := X.out.cell 0 2 rfl rfl
    have c10 : w8.cell? ⟨b1, 0, none⟩ = some (.slice gA1 nl.length kA1) := X.out.cell 1 0 rfl rfl
    have c11 : w8.cell? ⟨b1, 1, none⟩ = some (.slice gA2 nr.length kA2) := X.out.cell 1 1 rfl rfl
    have c12 : w8.cell? ⟨b1, 2, none⟩ = some (.slice gA3 ps.length kA3) := X.out.cell 1 2 rfl rfl
    have c20 : w8.cell? ⟨b2, 0, none⟩ = some (.slice gX1 l.length kX1) := X.out.cell 2 0 rfl rfl
    have c21 : w8.cell? ⟨b2, 1, none⟩ = some (.slice gX2 r.length kX2) := X.out.cell 2 1 rfl rfl
    have c22 : w8.cell? ⟨b2, 2, none⟩ = some (.slice gX3 ps.length kX3) := X.out.cell 2 2 rfl rfl
    go_wp2_with fail
    clear c00 c01 c02 c10 c11 c12 c20 c21 c22
    go_at_call 15
    refine (HIP.out _ _ _ _ (CK0.out _ _ _ _ _ _ _ _ _ _ _ _ CX.out) (CSA.out _ _ _ _ SX.out) HNL.out).mono ?_
    rintro e w9 ⟨x, y, z, loG, hiG, pG1, qG1, pG2, qG2, pG3, qG3, rfl, hlo, hhi, CG, hb⟩
    obtain ⟨gG1, kG1, rfl⟩ := CG.x.form
    obtain ⟨gG2, kG2, rfl⟩ := CG.y.form
    obtain ⟨gG3, kG3, rfl⟩ := CG.z.own.form
    have HGl := hide hlo
    have HGh := hide hhi
    clear hlo hhi
    have X := hide (X.out.up hb)
    have CA := hide (CA.out.below hb)
    have CX := hide (CX.out.below hb)
    have SX := hide (SX.out.below hb)
    have N12 := hide hb.size
    clear hb
    have CG := hide CG
    have hbl := below1 w9 (.cells #[.slice gG1 nl.length kG1, .slice gG2 nr.length kG2, .slice gG3 ps.length kG3] 32)
    have X := hide (X.out.alloc #[.slice gG1 nl.length kG1, .slice gG2 nr.length kG2, .slice gG3 ps.length kG3] 32)
    have CA := hide (CA.out.below hbl)
    have CX := hide (CX.out.below hbl)
    have SX := hide (SX.out.below hbl)
    have CG := hide (CG.out.below hbl)
    clear hbl
    obtain ⟨w10, hw10⟩ : ∃ q, q = w9.alloc (.cells #[.slice gG1 nl.length kG1, .slice gG2 nr.length kG2, .slice gG3 ps.length kG3] 32) := ⟨_, rfl⟩
    obtain ⟨b3, hb3⟩ : ∃ q, q = w9.heap.size := ⟨_, rfl⟩
    have N15 := hide (show b3 = w9.heap.size ∧ w10.heap.size = w9.heap.size + 1 by rw [hw10, hb3]; simp)
    rw [← hw10] at X CA CX SX CG
    rw [← hb3] at X
    simp only [List.cons_append, List.nil_append] at X
    have c00 : w10.cell? ⟨w.heap.size, 0, none⟩ = some (.slice a1 l.length c1) := X.out.cell 0 0 rfl rfl
    have c01 : w10.cell? ⟨w.heap.size, 1, none⟩ = some (.slice a2 r.length c2) := X.out.cell 0 1 rfl rfl
    have c02 : w10.cell? ⟨w.heap.size, 2, none⟩ = some (.slice a3 ps.length c3) := X.out.cell 0 2 rfl rfl
    have c10 : w10.cell? ⟨b1, 0, none⟩ = some (.slice gA1 nl.length kA1) := X.out.cell 1 0 rfl rfl
    have c11 : w10.cell? ⟨b1, 1, none⟩ = some (.slice gA2 nr.length kA2) := X.out.cell 1 1 rfl rfl
    have c12 : w10.cell? ⟨b1, 2, none⟩ = some (.slice gA3 ps.length kA3) := X.out.cell 1 2 rfl rfl
    have c20 : w10.cell? ⟨b2, 0, none⟩ = some (.slice gX1 l.length kX1) := X.out.cell 2 0 rfl rfl
    have c21 : w10.cell? ⟨b2, 1, none⟩ = some (.slice gX2 r.length kX2) := X.out.cell 2 1 rfl rfl
    have c22 : w10.cell? ⟨b2, 2, none⟩ = some (.slice gX3 ps.length kX3) := X.out.cell 2 2 rfl rfl
    have c30 : w10.cell? ⟨b3, 0, none⟩ = some (.slice gG1 nl.length kG1) := X.out.cell 3 0 rfl rfl
    have c31 : w10.cell? ⟨b3, 1, none⟩ = some (.slice gG2 nr.length kG2) := X.out.cell 3 1 rfl rfl
    have c32 : w10.cell? ⟨b3, 2, none⟩ = some (.slice gG3 ps.length kG3) := X.out.cell 3 2 rfl rfl
    rw [hw10] at c00 c01 c02 c10 c11 c12 c20 c21 c22 c30 c31 c32
    go_wp2_with fail
    rw [← hw10]
    try rw [← hb3]
    clear hw10 hb3
    clear c00 c01 c02 c10 c11 c12 c20 c21 c22 c30 c31 c32
    go_at_call 38
    refine (eqCracker_same _ _ nl nr ps _ _ (Nat.le_refl _) (CK.out _ _ _ _ _ _ _ _ _ _ _ _ CG.out) (CK.out _ _ _ _ _ _ _ _ _ _ _ _ CA.out)).mono ?_
    rintro e w11 ⟨rfl, hb⟩
    have X := hide (X.out.up hb)
    have CA := hide (CA.out.below hb)
    have CX := hide (CX.out.below hb)
    have SX := hide (SX.out.below hb)
    have CG := hide (CG.out.below hb)
    have N16 := hide hb.size
    clear hb
    have c00 : w11.cell? ⟨w.heap.size, 0, none⟩ = some (.slice a1 l.length c1) := X.out.cell 0 0 rfl rfl
    have c01 : w11.cell? ⟨w.heap.size, 1, none⟩ = some (.slice a2 r.length c2) := X.out.cell 0 1 rfl rfl
    have c02 : w11.cell? ⟨w.heap.size, 2, none⟩ = some (.slice a3 ps.length c3) := X.out.cell 0 2 rfl rfl
    have c10 : w11.cell? ⟨b1, 0, none⟩ = some (.slice gA1 nl.length kA1) := X.out.cell 1 0 rfl rfl
    have c11 : w11.cell? ⟨b1, 1, none⟩ = some (.slice gA2 nr.length kA2) := X.out.cell 1 1 rfl rfl
    have c12 : w11.cell? ⟨b1, 2, none⟩ = some (.slice gA3 ps.length kA3) := X.out.cell 1 2 rfl rfl
    have c20 : w11.cell? ⟨b2, 0, none⟩ = some (.slice gX1 l.length kX1) := X.out.cell 2 0 rfl rfl
    have c21 : w11.cell? ⟨b2, 1, none⟩ = some (.slice gX2 r.length kX2) := X.out.cell 2 1 rfl rfl
    have c22 : w11.cell? ⟨b2, 2, none⟩ = some (.slice gX3 ps.length kX3) := X.out.cell 2 2 rfl rfl
    have c30 : w11.cell? ⟨b3, 0, none⟩ = some (.slice gG1 nl.length kG1) := X.out.cell 3 0 rfl rfl
    have c31 : w11.cell? ⟨b3, 1, none⟩ = some (.slice gG2 nr.length kG2) := X.out.cell 3 1 rfl rfl
    have c32 : w11.cell? ⟨b3, 2, none⟩ = some (.slice gG3 ps.length kG3) := X.out.cell 3 2 rfl rfl
    go_wp2_with fail
    have X := hide X.out.drew
    have CA := hide (CA.out.below (Below.refl _ _).drew)
    have CX := hide (CX.out.below (Below.refl _ _).drew)
    have SX := hide (SX.out.below (Below.refl _ _).drew)
    have CG := hide (CG.out.below (Below.refl _ _).drew)
    have NQ := hide True.intro
    go_region_held3 (fun w' => w'.cell? ⟨w.heap.size, 0, none⟩ = some (.slice a1 l.length c1) ∧ w'.cell? ⟨w.heap.size, 1, none⟩ = some (.slice a2 r.length c2) ∧ w'.cell? ⟨w.heap.size, 2, none⟩ = some (.slice a3 ps.length c3) ∧ w'.cell? ⟨b2, 0, none⟩ = some (.slice gX1 l.length kX1) ∧ w'.cell? ⟨b2, 1, none⟩ = some (.slice gX2 r.length kX2) ∧ w'.cell? ⟨b2, 2, none⟩ = some (.slice gX3 ps.length kX3)) (first | exact ⟨c00, c01, c02, c20, c21, c22⟩ | go_keep) (first
      | (go_at_call 36; refine (TA.out _ X.out.below).mono ?_; rintro e wq ⟨ub1, vb1, ub2, vb2, ub3, vb3, rfl, Ib, hb⟩; have NQ := hide hb.size; have X := hide (X.out.up hb); have CA := hide (CA.out.below hb); have CX := hide (CX.out.below hb); have SX := hide (SX.out.below hb); have CG := hide (CG.out.below hb); have c00 : wq.cell? ⟨w.heap.size, 0, none⟩ = some (.slice a1 l.length c1) := X.out.cell 0 0 rfl rfl; have c01 : wq.cell? ⟨w.heap.size, 1, none⟩ = some (.slice a2 r.length c2) := X.out.cell 0 1 rfl rfl; have c02 : wq.cell? ⟨w.heap.size, 2, none⟩ = some (.slice a3 ps.length c3) := X.out.cell 0 2 rfl rfl; have c20 : wq.cell? ⟨b2, 0, none⟩ = some (.slice gX1 l.length kX1) := X.out.cell 2 0 rfl rfl; have c21 : wq.cell? ⟨b2, 1, none⟩ = some (.slice gX2 r.length kX2) := X.out.cell 2 1 rfl rfl; have c22 : wq.cell? ⟨b2, 2, none⟩ = some (.slice gX3 ps.length kX3) := X.out.cell 2 2 rfl rfl)
      | (go_at_call 38; refine (eqCracker_same _ _ l r ps _ _ (Nat.le_refl _) (CK0.out _ _ _ _ _ _ _ _ _ _ _ _ CX.out) Ib).mono ?_; rintro e wq ⟨rfl, hb⟩; have NR := hide (Nat.le_trans NQ.out hb.size); have X := hide (X.out.up hb); have CA := hide (CA.out.below hb); have CX := hide (CX.out.below hb); have SX := hide (SX.out.below hb); have CG := hide (CG.out.below hb); have c00 : wq.cell? ⟨w.heap.size, 0, none⟩ = some (.slice a1 l.length c1) := X.out.cell 0 0 rfl rfl; have c01 : wq.cell? ⟨w.heap.size, 1, none⟩ = some (.slice a2 r.length c2) := X.out.cell 0 1 rfl rfl; have c02 : wq.cell? ⟨w.heap.size, 2, none⟩ = some (.slice a3 ps.length c3) := X.out.cell 0 2 rfl rfl; have c20 : wq.cell? ⟨b2, 0, none⟩ = some (.slice gX1 l.length kX1) := X.out.cell 2 0 rfl rfl; have c21 : wq.cell? ⟨b2, 1, none⟩ = some (.slice gX2 r.length kX2) := X.out.cell 2 1 rfl rfl; have c22 : wq.cell? ⟨b2, 2, none⟩ = some (.slice gX3 ps.length kX3) := X.out.cell 2 2 rfl rfl))
    have c00 : wq.cell? ⟨w.heap.size, 0, none⟩ = some (.slice a1 l.length c1) := X.out.cell 0 0 rfl rfl
    have c01 : wq.cell? ⟨w.heap.size, 1, none⟩ = some (.slice a2 r.length c2) := X.out.cell 0 1 rfl rfl
    have c02 : wq.cell? ⟨w.heap.size, 2, none⟩ = some (.slice a3 ps.length c3) := X.out.cell 0 2 rfl rfl
    have c10 : wq.cell? ⟨b1, 0, none⟩ = some (.slice gA1 nl.length kA1) := X.out.cell 1 0 rfl rfl
    have c11 : wq.cell? ⟨b1, 1, none⟩ = some (.slice gA2 nr.length kA2) := X.out.cell 1 1 rfl rfl
    have c12 : wq.cell? ⟨b1, 2, none⟩ = some (.slice gA3 ps.length kA3) := X.out.cell 1 2 rfl rfl
    have c20 : wq.cell? ⟨b2, 0, none⟩ = some (.slice gX1 l.length kX1) := X.out.cell 2 0 rfl rfl
    have c21 : wq.cell? ⟨b2, 1, none⟩ = some (.slice gX2 r.length kX2) := X.out.cell 2 1 rfl rfl
    have c22 : wq.cell? ⟨b2, 2, none⟩ = some (.slice gX3 ps.length kX3) := X.out.cell 2 2 rfl rfl
    have c30 : wq.cell? ⟨b3, 0, none⟩ = some (.slice gG1 nl.length kG1) := X.out.cell 3 0 rfl rfl
    have c31 : wq.cell? ⟨b3, 1, none⟩ = some (.slice gG2 nr.length kG2) := X.out.cell 3 1 rfl rfl
    have c32 : wq.cell? ⟨b3, 2, none⟩ = some (.slice gG3 ps.length kG3) := X.out.cell 3 2 rfl rfl
    go_wp2_with fail
    clear c00 c01 c02 c10 c11 c12 c20 c21 c22 c30 c31 c32
    go_at_call 37
    refine (TS.out _ X.out.below).mono ?_
    rintro e w12 ⟨sve, rfl, OSe, hb⟩
    obtain ⟨sge, ske, rfl⟩ := OSe.form
    have hne := OSe.nilcap
    have OSe := Osw.of OSe hb.size
    have X := hide (X.out.up hb)
    have CA := hide (CA.out.below hb)
    have CX := hide (CX.out.below hb)
    have SX := hide (SX.out.below hb)
    have CG := hide (CG.out.below hb)
    have N18 := hide hb.size
    clear hb
    have c00 : w12.cell? ⟨w.heap.size, 0, none⟩ = some (.slice a1 l.length c1) := X.out.cell 0 0 rfl rfl
    have c01 : w12.cell? ⟨w.heap.size, 1, none⟩ = some (.slice a2 r.length c2) := X.out.cell 0 1 rfl rfl
    have c02 : w12.cell? ⟨w.heap.size, 2, none⟩ = some (.slice a3 ps.length c3) := X.out.cell 0 2 rfl rfl
    have c10 : w12.cell? ⟨b1, 0, none⟩ = some (.slice gA1 nl.length kA1) := X.out.cell 1 0 rfl rfl
    have c11 : w12.cell? ⟨b1, 1, none⟩ = some (.slice gA2 nr.length kA2) := X.out.cell 1 1 rfl rfl
    have c12 : w12.cell? ⟨b1, 2, none⟩ = some (.slice gA3 ps.length kA3) := X.out.cell 1 2 rfl rfl
    have c20 : w12.cell? ⟨b2, 0, none⟩ = some (.slice gX1 l.length kX1) := X.out.cell 2 0 rfl rfl
    have c21 : w12.cell? ⟨b2, 1, none⟩ = some (.slice gX2 r.length kX2) := X.out.cell 2 1 rfl rfl
    have c22 : w12.cell? ⟨b2, 2, none⟩ = some (.slice gX3 ps.length kX3) := X.out.cell 2 2 rfl rfl
    have c30 : w12.cell? ⟨b3, 0, none⟩ = some (.slice gG1 nl.length kG1) := X.out.cell 3 0 rfl rfl
    have c31 : w12.cell? ⟨b3, 1, none⟩ = some (.slice gG2 nr.length kG2) := X.out.cell 3 1 rfl rfl
    have c32 : w12.cell? ⟨b3, 2, none⟩ = some (.slice gG3 ps.length kG3) := X.out.cell 3 2 rfl rfl
    go_wp2_with fail
    clear c00 c01 c02 c10 c11 c12 c20 c21 c22 c30 c31 c32
    go_at_call 28
    refine (eqSwapS_same _ _ sw _ _ (CSA.out _ _ _ _ SX.out) (CSA.out _ _ _ _ OSe) (Nat.le_refl _)).mono ?_
    rintro e w13 ⟨rfl, hb⟩
    have X := hide (X.out.up hb)
    have CA := hide (CA.out.below hb)
    have CX := hide (CX.out.below hb)
    have SX := hide (SX.out.below hb)
    have CG := hide (CG.out.below hb)
    have N19 := hide hb.size
    clear hb
    clear OSe hne
    have c00 : w13.cell? ⟨w.heap.size, 0, none⟩ = some (.slice a1 l.length c1) := X.out.cell 0 0 rfl rfl
    have c01 : w13.cell? ⟨w.heap.size, 1, none⟩ = some (.slice a2 r.length c2) := X.out.cell 0 1 rfl rfl
    have c02 : w13.cell? ⟨w.heap.size, 2, none⟩ = some (.slice a3 ps.length c3) := X.out.cell 0 2 rfl rfl
    have c10 : w13.cell? ⟨b1, 0, none⟩ = some (.slice gA1 nl.length kA1) := X.out.cell 1 0 rfl rfl
    have c11 : w13.cell? ⟨b1, 1, none⟩ = some (.slice gA2 nr.length kA2) := X.out.cell 1 1 rfl rfl
    have c12 : w13.cell? ⟨b1, 2, none⟩ = some (.slice gA3 ps.length kA3) := X.out.cell 1 2 rfl rfl
    have c20 : w13.cell? ⟨b2, 0, none⟩ = some (.slice gX1 l.length kX1) := X.out.cell 2 0 rfl rfl
    have c21 : w13.cell? ⟨b2, 1, none⟩ = some (.slice gX2 r.length kX2) := X.out.cell 2 1 rfl rfl
    have c22 : w13.cell? ⟨b2, 2, none⟩ = some (.slice gX3 ps.length kX3) := X.out.cell 2 2 rfl rfl
    have c30 : w13.cell? ⟨b3, 0, none⟩ = some (.slice gG1 nl.length kG1) := X.out.cell 3 0 rfl rfl
    have c31 : w13.cell? ⟨b3, 1, none⟩ = some (.slice gG2 nr.length kG2) := X.out.cell 3 1 rfl rfl
    have c32 : w13.cell? ⟨b3, 2, none⟩ = some (.slice gG3 ps.length kG3) := X.out.cell 3 2 rfl rfl
    go_wp2_with fail
    clear c00 c01 c02 c10 c11 c12 c20 c21 c22 c30 c31 c32
    go_at_call 39
    refine (HM0.out _ _ _ _ _ _ _ _ _ _ _ _ CX.out).mono ?_
    rintro e w14 ⟨rfl, -, s⟩
    have qN0 := N0.out
    have qN1 := N1.out
    have qN2 := N2.out
    have qN3 := N3.out
    have qN4 := N4.out
    have qHAl := HAl.out
    have qHAh := HAh.out
    have qN7 := N7.out
    have qN8 := N8.out
    have qHXl := HXl.out
    have qN10 := N10.out
    have qN11 := N11.out
    have qN12 := N12.out
    have qHGl := HGl.out
    have qHGh := HGh.out
    have qN15 := N15.out
    have qN16 := N16.out
    have qNR := NR.out
    have qN18 := N18.out
    have qN19 := N19.out
    have tCA := CA.out.top.1
    have tSX := SX.out.le
    have tCG := CG.out.top.1
    have tCX := CX.out.top.1
    have X := hide (X.out.seg s (by omega) (by simp; omega))
    have CA := hide (CA.out.seg s (by omega))
    have SX := hide (SX.out.seg s (by omega))
    have CG := hide (CG.out.seg s (by omega))
    have N20 := hide s.below.size
    clear s qN0 qN1 qN2 qN3 qN4 qHAl qHAh qN7 qN8 qHXl qN10 qN11 qN12 qHGl qHGh qN15 qN16 qNR qN18 qN19 tCA tCX tSX tCG
    clear CX
    have c00 : w14.cell? ⟨w.heap.size, 0, none⟩ = some (.slice a1 l.length c1) := X.out.cell 0 0 rfl rfl
    have c01 : w14.cell? ⟨w.heap.size, 1, none⟩ = some (.slice a2 r.length c2) := X.out.cell 0 1 rfl rfl
    have c02 : w14.cell? ⟨w.heap.size, 2, none⟩ = some (.slice a3 ps.length c3) := X.out.cell 0 2 rfl rfl
    have c10 : w14.cell? ⟨b1, 0, none⟩ = some (.slice gA1 nl.length kA1) := X.out.cell 1 0 rfl rfl
    have c11 : w14.cell? ⟨b1, 1, none⟩ = some (.slice gA2 nr.length kA2) := X.out.cell 1 1 rfl rfl
    have c12 : w14.cell? ⟨b1, 2, none⟩ = some (.slice gA3 ps.length kA3) := X.out.cell 1 2 rfl rfl
    have c20 : w14.cell? ⟨b2, 0, none⟩ = some (.slice gX1 l.length kX1) := X.out.cell 2 0 rfl rfl
    have c21 : w14.cell? ⟨b2, 1, none⟩ = some (.slice gX2 r.length kX2) := X.out.cell 2 1 rfl rfl
    have c22 : w14.cell? ⟨b2, 2, none⟩ = some (.slice gX3 ps.length kX3) := X.out.cell 2 2 rfl rfl
    have c30 : w14.cell? ⟨b3, 0, none⟩ = some (.slice gG1 nl.length kG1) := X.out.cell 3 0 rfl rfl
    have c31 : w14.cell? ⟨b3, 1, none⟩ = some (.slice gG2 nr.length kG2) := X.out.cell 3 1 rfl rfl
    have c32 : w14.cell? ⟨b3, 2, none⟩ = some (.slice gG3 ps.length kG3) := X.out.cell 3 2 rfl rfl
    go_wp2_with fail
    clear c00 c01 c02 c10 c11 c12 c20 c21 c22 c30 c31 c32
    go_at_call 31
    refine (HM1.out _ _ _ _ SX.out).mono ?_
    rintro e w15 ⟨rfl, -, s⟩
    have qN0 := N0.out
    have qN1 := N1.out
    have qN2 := N2.out
    have qN3 := N3.out
    have qN4 := N4.out
    have qHAl := HAl.out
    have qHAh := HAh.out
    have qN7 := N7.out
    have qN8 := N8.out
    have qHXl := HXl.out
    have qN10 := N10.out
    have qN11 := N11.out
    have qN12 := N12.out
    have qHGl := HGl.out
    have qHGh := HGh.out
    have qN15 := N15.out
    have qN16 := N16.out
    have qNR := NR.out
    have qN18 := N18.out
    have qN19 := N19.out
    have qN20 := N20.out
    have tCA := CA.out.top.1
    have tCG := CG.out.top.1
    have tSX := SX.out.le
    have X := hide (X.out.seg s (by omega) (by simp; omega))
    have CA := hide (CA.out.seg s (by omega))
    have CG := hide (CG.out.seg s (by omega))
    have N21 := hide s.below.size
    clear s qN0 qN1 qN2 qN3 qN4 qHAl qHAh qN7 qN8 qHXl qN10 qN11 qN12 qHGl qHGh qN15 qN16 qNR qN18 qN19 qN20 tCA tSX tCG
    clear SX
    have c00 : w15.cell? ⟨w.heap.size, 0, none⟩ = some (.slice a1 l.length c1) := X.out.cell 0 0 rfl rfl
    have c01 : w15.cell? ⟨w.heap.size, 1, none⟩ = some (.slice a2 r.length c2) := X.out.cell 0 1 rfl rfl
    have c02 : w15.cell? ⟨w.heap.size, 2, none⟩ = some (.slice a3 ps.length c3) := X.out.cell 0 2 rfl rfl
    have c10 : w15.cell? ⟨b1, 0, none⟩ = some (.slice gA1 nl.length kA1) := X.out.cell 1 0 rfl rfl
    have c11 : w15.cell? ⟨b1, 1, none⟩ = some (.slice gA2 nr.length kA2) := X.out.cell 1 1 rfl rfl
    have c12 : w15.cell? ⟨b1, 2, none⟩ = some (.slice gA3 ps.length kA3) := X.out.cell 1 2 rfl rfl
    have c20 : w15.cell? ⟨b2, 0, none⟩ = some (.slice gX1 l.length kX1) := X.out.cell 2 0 rfl rfl
    have c21 : w15.cell? ⟨b2, 1, none⟩ = some (.slice gX2 r.length kX2) := X.out.cell 2 1 rfl rfl
    have c22 : w15.cell? ⟨b2, 2, none⟩ = some (.slice gX3 ps.length kX3) := X.out.cell 2 2 rfl rfl
    have c30 : w15.cell? ⟨b3, 0, none⟩ = some (.slice gG1 nl.length kG1) := X.out.cell 3 0 rfl rfl
    have c31 : w15.cell? ⟨b3, 1, none⟩ = some (.slice gG2 nr.length kG2) := X.out.cell 3 1 rfl rfl
    have c32 : w15.cell? ⟨b3, 2, none⟩ = some (.slice gG3 ps.length kG3) := X.out.cell 3 2 rfl rfl
    go_wp2_with fail
    clear c00 c01 c02 c10 c11 c12 c20 c21 c22 c30 c31 c32
    go_at_call 38
    refine (eqCracker_same _ _ nl nr ps _ _ (Nat.le_refl _) (CK.out _ _ _ _ _ _ _ _ _ _ _ _ CG.out) (CK.out _ _ _ _ _ _ _ _ _ _ _ _ CA.out)).mono ?_
    rintro e w16 ⟨rfl, hb⟩
    have X := hide (X.out.up hb)
    have CA := hide (CA.out.below hb)
    have CG := hide (CG.out.below hb)
    have N22 := hide hb.size
    clear hb
    have c00 : w16.cell? ⟨w.heap.size, 0, none⟩ = some (.slice a1 l.length c1) := X.out.cell 0 0 rfl rfl
    have c01 : w16.cell? ⟨w.heap.size, 1, none⟩ = some (.slice a2 r.length c2) := X.out.cell 0 1 rfl rfl
    have c02 : w16.cell? ⟨w.heap.size, 2, none⟩ = some (.slice a3 ps.length c3) := X.out.cell 0 2 rfl rfl
    have c10 : w16.cell? ⟨b1, 0, none⟩ = some (.slice gA1 nl.length kA1) := X.out.cell 1 0 rfl rfl
    have c11 : w16.cell? ⟨b1, 1, none⟩ = some (.slice gA2 nr.length kA2) := X.out.cell 1 1 rfl rfl
    have c12 : w16.cell? ⟨b1, 2, none⟩ = some (.slice gA3 ps.length kA3) := X.out.cell 1 2 rfl rfl
    have c20 : w16.cell? ⟨b2, 0, none⟩ = some (.slice gX1 l.length kX1) := X.out.cell 2 0 rfl rfl
    have c21 : w16.cell? ⟨b2, 1, none⟩ = some (.slice gX2 r.length kX2) := X.out.cell 2 1 rfl rfl
    have c22 : w16.cell? ⟨b2, 2, none⟩ = some (.slice gX3 ps.length kX3) := X.out.cell 2 2 rfl rfl
    have c30 : w16.cell? ⟨b3, 0, none⟩ = some (.slice gG1 nl.length kG1) := X.out.cell 3 0 rfl rfl
    have c31 : w16.cell? ⟨b3, 1, none⟩ = some (.slice gG2 nr.length kG2) := X.out.cell 3 1 rfl rfl
    have c32 : w16.cell? ⟨b3, 2, none⟩ = some (.slice gG3 ps.length kG3) := X.out.cell 3 2 rfl rfl
    go_wp2_with fail
    clear c00 c01 c02 c10 c11 c12 c20 c21 c22 c30 c31 c32
    go_at_call 39
    refine (HMk.out _ _ _ _ _ _ _ _ _ _ _ _ CG.out).mono ?_
    rintro e w17 ⟨rfl, CG2, s⟩
    have qN0 := N0.out
    have qN1 := N1.out
    have qN2 := N2.out
    have qN3 := N3.out
    have qN4 := N4.out
    have qHAl := HAl.out
    have qHAh := HAh.out
    have qN7 := N7.out
    have qN8 := N8.out
    have qHXl := HXl.out
    have qN10 := N10.out
    have qN11 := N11.out
    have qN12 := N12.out
    have qHGl := HGl.out
    have qHGh := HGh.out
    have qN15 := N15.out
    have qN16 := N16.out
    have qNR := NR.out
    have qN18 := N18.out
    have qN19 := N19.out
    have qN20 := N20.out
    have qN21 := N21.out
    have qN22 := N22.out
    have tCA := CA.out.top.1
    have tCG := CG.out.top.1
    have X := hide (X.out.seg s (by omega) (by simp; omega))
    have CA := hide (CA.out.seg s (by omega))
    have N23 := hide s.below.size
    clear s qN0 qN1 qN2 qN3 qN4 qHAl qHAh qN7 qN8 qHXl qN10 qN11 qN12 qHGl qHGh qN15 qN16 qNR qN18 qN19 qN20 qN21 qN22 tCA tCG
    have CG := hide CG2
    have c00 : w17.cell? ⟨w.heap.size, 0, none⟩ = some (.slice a1 l.length c1) := X.out.cell 0 0 rfl rfl
    have c01 : w17.cell? ⟨w.heap.size, 1, none⟩ = some (.slice a2 r.length c2) := X.out.cell 0 1 rfl rfl
    have c02 : w17.cell? ⟨w.heap.size, 2, none⟩ = some (.slice a3 ps.length c3) := X.out.cell 0 2 rfl rfl
    have c10 : w17.cell? ⟨b1, 0, none⟩ = some (.slice gA1 nl.length kA1) := X.out.cell 1 0 rfl rfl
    have c11 : w17.cell? ⟨b1, 1, none⟩ = some (.slice gA2 nr.length kA2) := X.out.cell 1 1 rfl rfl
    have c12 : w17.cell? ⟨b1, 2, none⟩ = some (.slice gA3 ps.length kA3) := X.out.cell 1 2 rfl rfl
    have c20 : w17.cell? ⟨b2, 0, none⟩ = some (.slice gX1 l.length kX1) := X.out.cell 2 0 rfl rfl
    have c21 : w17.cell? ⟨b2, 1, none⟩ = some (.slice gX2 r.length kX2) := X.out.cell 2 1 rfl rfl
    have c22 : w17.cell? ⟨b2, 2, none⟩ = some (.slice gX3 ps.length kX3) := X.out.cell 2 2 rfl rfl
    have c30 : w17.cell? ⟨b3, 0, none⟩ = some (.slice gG1 nl.length kG1) := X.out.cell 3 0 rfl rfl
    have c31 : w17.cell? ⟨b3, 1, none⟩ = some (.slice gG2 nr.length kG2) := X.out.cell 3 1 rfl rfl
    have c32 : w17.cell? ⟨b3, 2, none⟩ = some (.slice gG3 ps.length kG3) := X.out.cell 3 2 rfl rfl
    go_wp2_with fail
    clear c00 c01 c02 c10 c11 c12 c20 c21 c22 c30 c31 c32
    go_at_call 40
    refine (HHd.out _ _ _ _ _ _ _ _ _ _ _ _ CG.out).mono ?_
    rintro e w18 ⟨rfl, hb⟩
    have X := hide (X.out.up hb)
    have CA := hide (CA.out.below hb)
    have CG := hide (CG.out.below hb)
    have N24 := hide hb.size
    clear hb
    have c00 : w18.cell? ⟨w.heap.size, 0, none⟩ = some (.slice a1 l.length c1) := X.out.cell 0 0 rfl rfl
    have c01 : w18.cell? ⟨w.heap.size, 1, none⟩ = some (.slice a2 r.length c2) := X.out.cell 0 1 rfl rfl
    have c02 : w18.cell? ⟨w.heap.size, 2, none⟩ = some (.slice a3 ps.length c3) := X.out.cell 0 2 rfl rfl
    have c10 : w18.cell? ⟨b1, 0, none⟩ = some (.slice gA1 nl.length kA1) := X.out.cell 1 0 rfl rfl
    have c11 : w18.cell? ⟨b1, 1, none⟩ = some (.slice gA2 nr.length kA2) := X.out.cell 1 1 rfl rfl
    have c12 : w18.cell? ⟨b1, 2, none⟩ = some (.slice gA3 ps.length kA3) := X.out.cell 1 2 rfl rfl
    have c20 : w18.cell? ⟨b2, 0, none⟩ = some (.slice gX1 l.length kX1) := X.out.cell 2 0 rfl rfl
    have c21 : w18.cell? ⟨b2, 1, none⟩ = some (.slice gX2 r.length kX2) := X.out.cell 2 1 rfl rfl
    have c22 : w18.cell? ⟨b2, 2, none⟩ = some (.slice gX3 ps.length kX3) := X.out.cell 2 2 rfl rfl
    have c30 : w18.cell? ⟨b3, 0, none⟩ = some (.slice gG1 nl.length kG1) := X.out.cell 3 0 rfl rfl
    have c31 : w18.cell? ⟨b3, 1, none⟩ = some (.slice gG2 nr.length kG2) := X.out.cell 3 1 rfl rfl
    have c32 : w18.cell? ⟨b3, 2, none⟩ = some (.slice gG3 ps.length kG3) := X.out.cell 3 2 rfl rfl
    go_wp2_with fail
    clear c00 c01 c02 c10 c11 c12 c20 c21 c22 c30 c31 c32
    go_at_call 36
    refine (TA.out _ X.out.below).mono ?_
    rintro e w19 ⟨uh1, vh1, uh2, vh2, uh3, vh3, rfl, Ih, hb⟩
    have X := hide (X.out.up hb)
    have CA := hide (CA.out.below hb)
    have CG := hide (CG.out.below hb)
    have N25 := hide hb.size
    clear hb
    have c00 : w19.cell? ⟨w.heap.size, 0, none⟩ = some (.slice a1 l.length c1) := X.out.cell 0 0 rfl rfl
    have c01 : w19.cell? ⟨w.heap.size, 1, none⟩ = some (.slice a2 r.length c2) := X.out.cell 0 1 rfl rfl
    have c02 : w19.cell? ⟨w.heap.size, 2, none⟩ = some (.slice a3 ps.length c3) := X.out.cell 0 2 rfl rfl
    have c10 : w19.cell? ⟨b1, 0, none⟩ = some (.slice gA1 nl.length kA1) := X.out.cell 1 0 rfl rfl
    have c11 : w19.cell? ⟨b1, 1, none⟩ = some (.slice gA2 nr.length kA2) := X.out.cell 1 1 rfl rfl
    have c12 : w19.cell? ⟨b1, 2, none⟩ = some (.slice gA3 ps.length kA3) := X.out.cell 1 2 rfl rfl
    have c20 : w19.cell? ⟨b2, 0, none⟩ = some (.slice gX1 l.length kX1) := X.out.cell 2 0 rfl rfl
    have c21 : w19.cell? ⟨b2, 1, none⟩ = some (.slice gX2 r.length kX2) := X.out.cell 2 1 rfl rfl
    have c22 : w19.cell? ⟨b2, 2, none⟩ = some (.slice gX3 ps.length kX3) := X.out.cell 2 2 rfl rfl
    have c30 : w19.cell? ⟨b3, 0, none⟩ = some (.slice gG1 nl.length kG1) := X.out.cell 3 0 rfl rfl
    have c31 : w19.cell? ⟨b3, 1, none⟩ = some (.slice gG2 nr.length kG2) := X.out.cell 3 1 rfl rfl
    have c32 : w19.cell? ⟨b3, 2, none⟩ = some (.slice gG3 ps.length kG3) := X.out.cell 3 2 rfl rfl
    go_wp2_with fail
    clear c00 c01 c02 c10 c11 c12 c20 c21 c22 c30 c31 c32
    go_at_call 37
    refine (TS.out _ X.out.below).mono ?_
    rintro e w20 ⟨svh, rfl, OSh, hb⟩
    obtain ⟨sgh, skh, rfl⟩ := OSh.form
    have hnh := OSh.nilcap
    have OSh := Osw.of OSh hb.size
    have Ih2 := Ih.up hb
    have X := hide (X.out.up hb)
    have CA := hide (CA.out.below hb)
    have CG := hide (CG.out.below hb)
    have N26 := hide hb.size
    clear hb
    have c00 : w20.cell? ⟨w.heap.size, 0, none⟩ = some (.slice a1 l.length c1) := X.out.cell 0 0 rfl rfl
    have c01 : w20.cell? ⟨w.heap.size, 1, none⟩ = some (.slice a2 r.length c2) := X.out.cell 0 1 rfl rfl
    have c02 : w20.cell? ⟨w.heap.size, 2, none⟩ = some (.slice a3 ps.length c3) := X.out.cell 0 2 rfl rfl
    have c10 : w20.cell? ⟨b1, 0, none⟩ = some (.slice gA1 nl.length kA1) := X.out.cell 1 0 rfl rfl
    have c11 : w20.cell? ⟨b1, 1, none⟩ = some (.slice gA2 nr.length kA2) := X.out.cell 1 1 rfl rfl
    have c12 : w20.cell? ⟨b1, 2, none⟩ = some (.slice gA3 ps.length kA3) := X.out.cell 1 2 rfl rfl
    have c20 : w20.cell? ⟨b2, 0, none⟩ = some (.slice gX1 l.length kX1) := X.out.cell 2 0 rfl rfl
    have c21 : w20.cell? ⟨b2, 1, none⟩ = some (.slice gX2 r.length kX2) := X.out.cell 2 1 rfl rfl
    have c22 : w20.cell? ⟨b2, 2, none⟩ = some (.slice gX3 ps.length kX3) := X.out.cell 2 2 rfl rfl
    have c30 : w20.cell? ⟨b3, 0, none⟩ = some (.slice gG1 nl.length kG1) := X.out.cell 3 0 rfl rfl
    have c31 : w20.cell? ⟨b3, 1, none⟩ = some (.slice gG2 nr.length kG2) := X.out.cell 3 1 rfl rfl
    have c32 : w20.cell? ⟨b3, 2, none⟩ = some (.slice gG3 ps.length kG3) := X.out.cell 3 2 rfl rfl
    go_wp2_with fail
    clear c00 c01 c02 c10 c11 c12 c20 c21 c22 c30 c31 c32
    go_at_call 15
    refine (HIP.out _ _ _ _ Ih2 (CSA.out _ _ _ _ OSh) hnh).mono ?_
    rintro e w21 ⟨x, y, z, loH, hiH, pH1, qH1, pH2, qH2, pH3, qH3, rfl, hlo, hhi, CH, hb⟩
    obtain ⟨gH1, kH1, rfl⟩ := CH.x.form
    obtain ⟨gH2, kH2, rfl⟩ := CH.y.form
    obtain ⟨gH3, kH3, rfl⟩ := CH.z.own.form
    have HHl := hide hlo
    have HHh := hide hhi
    clear hlo hhi
    have X := hide (X.out.up hb)
    have CA := hide (CA.out.below hb)
    have CG := hide (CG.out.below hb)
    have N27 := hide hb.size
    clear hb
    have CH := hide CH
    have hbl := below1 w21 (.cells #[.slice gH1 nl.length kH1, .slice gH2 nr.length kH2, .slice gH3 ps.length kH3] 32)
    have X := hide (X.out.alloc #[.slice gH1 nl.length kH1, .slice gH2 nr.length kH2, .slice gH3 ps.length kH3] 32)
    have CA := hide (CA.out.below hbl)
    have CG := hide (CG.out.below hbl)
    have CH := hide (CH.out.below hbl)
    clear hbl
    obtain ⟨w22, hw22⟩ : ∃ q, q = w21.alloc (.cells #[.slice gH1 nl.length kH1, .slice gH2 nr.length kH2, .slice gH3 ps.length kH3] 32) := ⟨_, rfl⟩
    obtain ⟨b4, hb4⟩ : ∃ q, q = w21.heap.size := ⟨_, rfl⟩
    have N30 := hide (show b4 = w21.heap.size ∧ w22.heap.size = w21.heap.size + 1 by rw [hw22, hb4]; simp)
    rw [← hw22] at X CA CG CH
    rw [← hb4] at X
    simp only [List.cons_append, List.nil_append] at X
    have c00 : w22.cell? ⟨w.heap.size, 0, none⟩ = some (.slice a1 l.length c1) := X.out.cell 0 0 rfl rfl
    have c01 : w22.cell? ⟨w.heap.size, 1, none⟩ = some (.slice a2 r.length c2) := X.out.cell 0 1 rfl rfl
    have c02 : w22.cell? ⟨w.heap.size, 2, none⟩ = some (.slice a3 ps.length c3) := X.out.cell 0 2 rfl rfl
    have c10 : w22.cell? ⟨b1, 0, none⟩ = some (.slice gA1 nl.length kA1) := X.out.cell 1 0 rfl rfl
    have c11 : w22.cell? ⟨b1, 1, none⟩ = some (.slice gA2 nr.length kA2) := X.out.cell 1 1 rfl rfl
    have c12 : w22.cell? ⟨b1, 2, none⟩ = some (.slice gA3 ps.length kA3) := X.out.cell 1 2 rfl rfl
    have c20 : w22.cell? ⟨b2, 0, none⟩ = some (.slice gX1 l.length kX1) := X.out.cell 2 0 rfl rfl
    have c21 : w22.cell? ⟨b2, 1, none⟩ = some (.slice gX2 r.length kX2) := X.out.cell 2 1 rfl rfl
    have c22 : w22.cell? ⟨b2, 2, none⟩ = some (.slice gX3 ps.length kX3) := X.out.cell 2 2 rfl rfl
    have c30 : w22.cell? ⟨b3, 0, none⟩ = some (.slice gG1 nl.length kG1) := X.out.cell 3 0 rfl rfl
    have c31 : w22.cell? ⟨b3, 1, none⟩ = some (.slice gG2 nr.length kG2) := X.out.cell 3 1 rfl rfl
    have c32 : w22.cell? ⟨b3, 2, none⟩ = some (.slice gG3 ps.length kG3) := X.out.cell 3 2 rfl rfl
    have c40 : w22.cell? ⟨b4, 0, none⟩ = some (.slice gH1 nl.length kH1) := X.out.cell 4 0 rfl rfl
    have c41 : w22.cell? ⟨b4, 1, none⟩ = some (.slice gH2 nr.length kH2) := X.out.cell 4 1 rfl rfl
    have c42 : w22.cell? ⟨b4, 2, none⟩ = some (.slice gH3 ps.length kH3) := X.out.cell 4 2 rfl rfl
    rw [hw22] at c00 c01 c02 c10 c11 c12 c20 c21 c22 c30 c31 c32 c40 c41 c42
    go_wp2_with fail
    rw [← hw22]
    try rw [← hb4]
    clear hw22 hb4
    clear c00 c01 c02 c10 c11 c12 c20 c21 c22 c30 c31 c32 c40 c41 c42
    go_at_call 38
    refine (eqCracker_same _ _ nl nr ps _ _ (Nat.le_refl _) (CK.out _ _ _ _ _ _ _ _ _ _ _ _ CH.out) (CK.out _ _ _ _ _ _ _ _ _ _ _ _ CA.out)).mono ?_
    rintro e w23 ⟨rfl, hb⟩
    have X := hide (X.out.up hb)
    have CA := hide (CA.out.below hb)
    have CG := hide (CG.out.below hb)
    have CH := hide (CH.out.below hb)
    have N31 := hide hb.size
    clear hb
    have c00 : w23.cell? ⟨w.heap.size, 0, none⟩ = some (.slice a1 l.length c1) := X.out.cell 0 0 rfl rfl
    have c01 : w23.cell? ⟨w.heap.size, 1, none⟩ = some (.slice a2 r.length c2) := X.out.cell 0 1 rfl rfl
    have c02 : w23.cell? ⟨w.heap.size, 2, none⟩ = some (.slice a3 ps.length c3) := X.out.cell 0 2 rfl rfl
    have c10 : w23.cell? ⟨b1, 0, none⟩ = some (.slice gA1 nl.length kA1) := X.out.cell 1 0 rfl rfl
    have c11 : w23.cell? ⟨b1, 1, none⟩ = some (.slice gA2 nr.length kA2) := X.out.cell 1 1 rfl rfl
    have c12 : w23.cell? ⟨b1, 2, none⟩ = some (.slice gA3 ps.length kA3) := X.out.cell 1 2 rfl rfl
    have c20 : w23.cell? ⟨b2, 0, none⟩ = some (.slice gX1 l.length kX1) := X.out.cell 2 0 rfl rfl
    have c21 : w23.cell? ⟨b2, 1, none⟩ = some (.slice gX2 r.length kX2) := X.out.cell 2 1 rfl rfl
    have c22 : w23.cell? ⟨b2, 2, none⟩ = some (.slice gX3 ps.length kX3) := X.out.cell 2 2 rfl rfl
    have c30 : w23.cell? ⟨b3, 0, none⟩ = some (.slice gG1 nl.length kG1) := X.out.cell 3 0 rfl rfl
    have c31 : w23.cell? ⟨b3, 1, none⟩ = some (.slice gG2 nr.length kG2) := X.out.cell 3 1 rfl rfl
    have c32 : w23.cell? ⟨b3, 2, none⟩ = some (.slice gG3 ps.length kG3) := X.out.cell 3 2 rfl rfl
    have c40 : w23.cell? ⟨b4, 0, none⟩ = some (.slice gH1 nl.length kH1) := X.out.cell 4 0 rfl rfl
    have c41 : w23.cell? ⟨b4, 1, none⟩ = some (.slice gH2 nr.length kH2) := X.out.cell 4 1 rfl rfl
    have c42 : w23.cell? ⟨b4, 2, none⟩ = some (.slice gH3 ps.length kH3) := X.out.cell 4 2 rfl rfl
    go_wp2_with fail
    clear c00 c01 c02 c10 c11 c12 c20 c21 c22 c30 c31 c32 c40 c41 c42
    go_at_call 40
    refine (HHd.out _ _ _ _ _ _ _ _ _ _ _ _ CG.out).mono ?_
    rintro e w24 ⟨rfl, hb⟩
    have X := hide (X.out.up hb)
    have CA := hide (CA.out.below hb)
    have CG := hide (CG.out.below hb)
    have CH := hide (CH.out.below hb)
    have N32 := hide hb.size
    clear hb
    go_wp2_with fail
    go_ret
    exact ⟨rfl, X.out.below⟩

set_option maxRecDepth 100000 in
theorem lifted (os : Os) (started : os.Started) (H : Type) (enc : TypeId × Value → H) :
    ReturnsInHanded {} Try.checked os 6 .any (Rows.fnExactApplySwapsSpec.pre6 enc Try.prog Try.f6 Rows.fnExactApplySwapsRow.domain false) (Rows.fnExactApplySwapsSpec.post enc Try.prog Try.f6 false true false false) := by
  refine returnsInHanded_of_change (C := Try.checked) own started (by kernel_rfl) Try.func6
    (ChangeSpec.witness6 (enc := enc) (C := Try.checked) false ⟨#[], #[.agg #[.slice none 0 0, .slice none 0 0, .slice none 0 0], .slice none 0 0], []⟩ 8 (by kernel_rfl) (by kernel_rfl) (by kernel_rfl) (by kernel_rfl)) ?_
  intro W base args ds gs before hval0 hW hcnd _
  have hval : ∀ (j : Nat) t v, Try.f6.params[j]? = some t → args[j]? = some v → Value.okWide Try.prog W .any base t v := hval0
  have hW' := hW
  obtain ⟨p, q, hA0, hV, rfl, hfz, hnd⟩ := hW
  have hA : DataW.TrodAll enc Try.prog W 0 (fun _ => true) true Try.f6.params.toList args.toList ds p := hA0
  rw [Try.params6] at hA hval
  obtain ⟨v0, vs0, d0, ds0, p0, q0, hargs, rfl, rfl, h0, r0⟩ := trodAll_cons hA
  obtain ⟨v1, vs1, d1, ds1, p1, q1, rfl, rfl, rfl, h1, r1⟩ := trodAll_cons r0
  obtain ⟨rfl, rfl, rfl⟩ := trodAll_nil r1
  obtain rfl : args = #[v0, v1] := by cases args; simp_all
  obtain ⟨rfl, rfl⟩ := trodVars_none hV
  have k0 := h0
  have lt0 : ∀ x ∈ p0, x.block < W.heap.size := by obtain ⟨m, hm⟩ := k0; exact DataW.trod_lt m _ _ _ hm
  have k1 := h1
  have lt1 : ∀ x ∈ p1, x.block < W.heap.size := by obtain ⟨m, hm⟩ := k1; exact DataW.trod_lt m _ _ _ hm
  have w0 := open_ck (hval 0 58 v0 rfl rfl) h0
  have w1 := open_sws (hval 1 59 v1 rfl rfl) h1
  clear hA0 hval0
  refine (walk W v0 w0 v1 w1).mono fun e W' ⟨he, bel⟩ => ?_
  subst he
  exact ⟨_, rfl, _, _, _, [], _, [], hW', trodAll_mk1 (shut_bool Try.underlying4 _), (trodAll_cons_mk (Below.trod laidOut (by kernel_rfl) (of_decide_eq_true (by kernel_rfl)) k0 bel lt0) (trodAll_cons_mk (Below.trod laidOut (by kernel_rfl) (of_decide_eq_true (by kernel_rfl)) k1 bel lt1) trodAll_mk0)), rfl, bel.frame _, fun h => by cases h⟩

theorem over : Rows.fnExactApplySwapsRow.holds Try.pinned (OpenSpec.ofChange Rows.fnExactApplySwapsSpec) :=
  OpenClaim.holds_of_wide 6 Try.f6 rfl rfl rfl rfl rfl rfl rfl ⟨rfl, rfl, rfl, rfl, rfl⟩ rfl rfl rfl rfl rfl (by kernel_rfl) Try.func6 (by kernel_rfl)
    (of_decide_eq_true (by kernel_rfl)) (by unfold Func.isWrapper; first | (rw [if_pos (by decide +kernel)]; kernel_rfl) | (rw [if_neg (by decide +kernel)]; exact ⟨rfl, rfl⟩))
    (fun os started H enc _ => lifted os started H enc)

/-- The statement. -/
theorem proved : Rows.FnExactApplySwapsSaid := over
#print axioms proved
end Go.Proofs.Ytobdghabehbcjaa.fnExactApplySwaps
