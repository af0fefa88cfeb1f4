/- The law FnPartitions holds: whatever the arguments, the call returns true, and they read afterwards as before. -/
import Derived.Test.YtoaafklogibfpaaRows
import Derived.WalkKit
import Derived.ProofKit
import Derived.OpenShut
import Derived.ShutString
import Derived.ChangeOld
import Derived.Below
import Derived.Test.YtoaafklogibfpaaBf
import Derived.Test.YtoaafklogibfpaaBg
import Derived.Test.YtoaafklogibfpaaBd
namespace Go.Proofs.Ytoaafklogibfpaa.fnPartitions
open Go.ChangeShapes Go.WideShapes Go.ChangeAt Go.RowKit
open Go.ChangeMaps (open_string shut_string)
set_option linter.unusedVariables false
set_option linter.unusedSimpArgs false

theorem own : ownKnob Try.prog.godebug = none := by kernel_rfl
theorem laidOut : laidOutB Try.prog = true := by kernel_rfl

set_option maxRecDepth 100000 in
set_option maxHeartbeats 20000000 in
theorem walk (w : World) (v0 : Value) (w0 : CodeV w v0) :
    Calls Try.prog 4 #[v0] w fun e w' => e = .returned (.bool true) ∧ Below w.heap.size w w' := by
  obtain ⟨ca, clen, ccap, rfl, hcode⟩ := w0
  by_cases hbig : ¬ clen ≤ 1048576
  · go_enter Try.func4, Try.ntmps4
    go_wp2_with fail
    go_at_call 19
    refine (bigY ca clen ccap w (by omega)).mono ?_
    rintro e wq ⟨rfl, rfl⟩
    go_wp2_with fail
    go_ret
    exact ⟨rfl, Below.refl _ _⟩
  · skip
    have X := hide (Kn.start w)
    have HBG := hide (bigN ca clen ccap w (by omega))
    have HDR := hide (drPart_any ca clen ccap w hcode (by omega))
    clear hcode hbig
    go_enter Try.func4, Try.ntmps4
    go_wp2_with fail
    go_at_call 19
    refine HBG.out.mono ?_
    rintro e wq ⟨rfl, rfl⟩
    go_wp2_with fail
    go_at_call 20
    refine HDR.out.mono ?_
    rintro e w1 ⟨gl, capl, l, a, b, p, hl, hv, ha, hb', hp, rfl, his, hb⟩
    have X := hide (X.out.up hb)
    have wl : ∀ x ∈ l, I64 x := fun x hx => ⟨by have := hv x hx; omega, by have := hv x hx; omega⟩
    have IL := hide (show IU w1 (.slice (some ⟨gl, 0, none⟩) l.length capl) l from his.ints (Nat.le_refl _) (by omega) wl)
    have IS := hide (show Is w1 w.heap.size 3 (.slice (some ⟨gl, 0, none⟩) l.length capl) l from his)
    clear hb his HBG HDR hv
    have HPI := hide (fun (W : World) (h : IU W (.slice (some ⟨gl, 0, none⟩) l.length capl) l) => iPart_any _ l a b p W W.heap.size h (Nat.le_refl _) (by omega))
    have HPS := hide (fun (W : World) (h : IU W (.slice (some ⟨gl, 0, none⟩) l.length capl) l) => sPart_any _ l a b p W W.heap.size h (Nat.le_refl _) (by omega))
    have hnum := partP_nums l a b p (by omega)
    have hpw := partP_wf l a b p (by omega)
    obtain ⟨q, hq⟩ : ∃ q, q = partP l a b p := ⟨_, rfl⟩
    rw [← hq] at HPI HPS hnum hpw
    have HQ := hide hq
    clear hq
    obtain ⟨sw, t⟩ := q
    simp only at HPI HPS hnum hpw
    have hsl : sw.length ≤ 1048576 := hnum.2.1
    have HPW := hide hpw
    have HNM := hide hnum
    clear hpw hnum
    have hsw1 : (((sw.length : Nat) : Int) != ((sw.length : Nat) : Int)) = false := by simp
    have hsw2 : (t != t) = false := by simp
    go_wp2_with fail
    go_at_call 21
    refine (HPI.out _ IL.out).mono ?_
    rintro e w2 ⟨v, rfl, OS, hb⟩
    obtain ⟨gA, kA, rfl⟩ := OS.form
    have PA := hide (show PU w2 (.slice gA sw.length kA) sw from OS.pvs (Nat.le_refl _) (by show sw.length ≤ _; omega) HPW.out)
    have ZA := hide OS.nilcap
    clear OS
    have X := hide (X.out.up hb)
    have IL := hide (IL.out.below hb)
    have IS := hide (IS.out.below hb)
    have N0 := hide hb.size
    clear hb
    go_wp2_with fail
    go_at_call 22
    refine (HPS.out _ IL.out).mono ?_
    rintro e w3 ⟨v, rfl, OS, hb⟩
    obtain ⟨gB, kB, rfl⟩ := OS.form
    have PB := hide (show PU w3 (.slice gB sw.length kB) sw from OS.pvs (Nat.le_refl _) (by show sw.length ≤ _; omega) HPW.out)
    have ZB := hide OS.nilcap
    clear OS
    have X := hide (X.out.up hb)
    have IL := hide (IL.out.below hb)
    have IS := hide (IS.out.below hb)
    have PA := hide (PA.out.below hb)
    have N1 := hide hb.size
    clear hb
    by_cases hval : ¬(0 ≤ a ∧ a ≤ b ∧ b ≤ (l.length : Int))
    · have hst : sw = [] ∧ t = 0 := by have := HQ.out; unfold partP at this; rw [if_neg hval] at this; exact Prod.mk.inj this
      obtain ⟨rfl, rfl⟩ := hst
      clear hsw1 hsw2
      by_cases h1 : a < 0
      · have t1 : decide (a < 0) = true := by simp; omega
        clear hval
        go_wp2_with fail
        go_ret
        exact ⟨rfl, X.out.below⟩
      have t1 : decide (a < 0) = false := by simp; omega
      by_cases h2 : b < a
      · have t2 : decide (b < a) = true := by simp; omega
        clear hval h1
        go_wp2_with fail
        go_ret
        exact ⟨rfl, X.out.below⟩
      have t2 : decide (b < a) = false := by simp; omega
      have t3 : decide ((l.length : Int) < b) = true := by simp; omega
      clear hval h1 h2
      go_wp2_with fail
      go_ret
      exact ⟨rfl, X.out.below⟩
    have hval : 0 ≤ a ∧ a ≤ b ∧ b ≤ (l.length : Int) := by omega
    obtain ⟨ma, rfl⟩ : ∃ m : Nat, a = (m : Int) := ⟨a.toNat, by omega⟩
    obtain ⟨mb, rfl⟩ : ∃ m : Nat, b = (m : Int) := ⟨b.toNat, by omega⟩
    have hok := pt_valid (l := l) (p := p) hval
    rw [← HQ.out] at hok
    simp only at hok
    have t1 : decide ((ma : Int) < 0) = false := by simp <;> omega
    have t2 : decide ((mb : Int) < (ma : Int)) = false := by simp; omega
    have t3 : decide ((l.length : Int) < (mb : Int)) = false := by simp; omega
    have HN := hide (fun (W : World) (h : Is W w.heap.size 3 (.slice (some ⟨gl, 0, none⟩) l.length capl) l) => sNew_any _ l _ W (OI.of h).1 wl)
    have hnf := newL_len hl wl
    have hor := fun h => new_or (l := l) h
    obtain ⟨nl, hnl⟩ : ∃ q, q = newL l := ⟨_, rfl⟩
    obtain ⟨nr, hnr⟩ : ∃ q, q = newR l := ⟨_, rfl⟩
    rw [← hnl, ← hnr] at HN hnf
    rw [← hnl, ← hnr] at hor
    clear hnl hnr
    obtain ⟨n1, n2, n3, n4⟩ := hnf
    have HA := hide (fun (W : World) (v sv : Value) (h : CU W v nl nr []) (h2 : PU W sv sw) => iApply_any v sv nl nr [] sw W W.heap.size h h2 (Nat.le_refl _) (by omega) (by omega) (by simp))
    have hap := fun h => ap_undone (l := nl) (r := nr) (sw := sw) h
    have hap0 := fun h => ap_done (l := nl) (r := nr) (sw := sw) h
    have m1 : (apL nl nr sw).length ≤ 1048576 := by rw [apL_length]; omega
    have m2 : (apR nl nr sw).length ≤ 1048576 := by rw [apR_length]; omega
    have m3 := apL_wf (r := nr) (sw := sw) n3
    have m4 := apR_wf (l := nl) (sw := sw) n4
    have m0 := apL_length nl nr sw
    obtain ⟨l1, hl1⟩ : ∃ q, q = apL nl nr sw := ⟨_, rfl⟩
    obtain ⟨r1, hr1⟩ : ∃ q, q = apR nl nr sw := ⟨_, rfl⟩
    obtain ⟨b1, hb1⟩ : ∃ q, q = canSwap nl nr sw := ⟨_, rfl⟩
    rw [← hl1, ← hr1, ← hb1] at HA
    rw [← hl1, ← hr1] at hap
    rw [← hl1, ← hr1, ← hb1] at hap0
    rw [← hl1] at m0 m1 m3
    rw [← hr1] at m2 m4
    clear hl1 hr1 hb1
    have HU := hide (fun (W : World) (v : Value) (ad : Option Addr) (cp : Nat) (h : CU W v l1 r1 []) (h2 : PU W (.slice ad sw.length cp) sw) (h3 : ad = none → cp = 0) => iUndo_any v ad cp l1 r1 [] sw W W.heap.size h h2 h3 (Nat.le_refl _) m1 m2 (by simp) hsl)
    have k1 : (apL l1 r1 sw.reverse).length ≤ 1048576 := by rw [apL_length]; omega
    have k2 : (apR l1 r1 sw.reverse).length ≤ 1048576 := by rw [apR_length]; omega
    have k3 := apL_wf (r := r1) (sw := sw.reverse) m3
    have k4 := apR_wf (l := l1) (sw := sw.reverse) m4
    obtain ⟨l2, hl2⟩ : ∃ q, q = apL l1 r1 sw.reverse := ⟨_, rfl⟩
    obtain ⟨r2, hr2⟩ : ∃ q, q = apR l1 r1 sw.reverse := ⟨_, rfl⟩
    obtain ⟨b2, hb2⟩ : ∃ q, q = canSwap l1 r1 sw.reverse := ⟨_, rfl⟩
    rw [← hl2, ← hr2, ← hb2] at HU
    rw [← hl2, ← hr2, ← hb2] at hap
    rw [← hl2] at k1 k3
    rw [← hr2] at k2 k4
    clear hl2 hr2 hb2
    have KC := hide (fun (W : World) (x y z : Value) (lo hi p1 q1 p2 q2 p3 q3 : Nat) (h : OC W x y z nl nr [] lo hi p1 q1 p2 q2 p3 q3) => (show CU W _ nl nr [] from h.ck n3 n4 (by simp) (by simp)))
    have KX := hide (fun (W : World) (x y z : Value) (lo hi p1 q1 p2 q2 p3 q3 : Nat) (h : OC W x y z l1 r1 [] lo hi p1 q1 p2 q2 p3 q3) => (show CU W _ l1 r1 [] from h.ck m3 m4 (by simp) (by simp)))
    have KY := hide (fun (W : World) (x y z : Value) (lo hi p1 q1 p2 q2 p3 q3 : Nat) (h : OC W x y z l2 r2 [] lo hi p1 q1 p2 q2 p3 q3) => (show CU W _ l2 r2 [] from h.ck k3 k4 (by simp) (by simp)))
    have HOK := hide hok
    have HOR := hide hor
    have HAP := hide hap
    have HAP0 := hide hap0
    have HM0 := hide m0
    have HVL := hide hval
    clear hok hor hap hap0 m0 m1 m2 m3 m4 k1 k2 k3 k4 n1 n2 n3 n4 wl hval
    go_wp2_with fail
    go_at_call 23
    refine (HN.out _ IS.out).mono ?_
    rintro e w4 ⟨x, y, z, loC, hiC, pC1, qC1, pC2, qC2, pC3, qC3, rfl, hlo, hhi, CC, hb⟩
    obtain ⟨gC1, kC1, rfl⟩ := CC.x.form
    obtain ⟨gC2, kC2, rfl⟩ := CC.y.form
    obtain ⟨gC3, kC3, rfl⟩ := CC.z.own.form
    have CC := hide (KC.out _ _ _ _ _ _ _ _ _ _ _ _ CC)
    clear hlo hhi
    have X := hide (X.out.up hb)
    have IL := hide (IL.out.below hb)
    have IS := hide (IS.out.below hb)
    have PA := hide (PA.out.below hb)
    have PB := hide (PB.out.below hb)
    have N2 := hide hb.size
    clear hb
    have hbl := below1 w4 (.cells #[.slice gC1 nl.length kC1, .slice gC2 nr.length kC2, .slice gC3 0 kC3] 31)
    have X := hide (X.out.alloc #[.slice gC1 nl.length kC1, .slice gC2 nr.length kC2, .slice gC3 0 kC3] 31)
    have IL := hide (IL.out.below hbl)
    have IS := hide (IS.out.below hbl)
    have PA := hide (PA.out.below hbl)
    have PB := hide (PB.out.below hbl)
    have CC := hide (CC.out.below hbl)
    clear hbl
    obtain ⟨w5, hw5⟩ : ∃ q, q = w4.alloc (.cells #[.slice gC1 nl.length kC1, .slice gC2 nr.length kC2, .slice gC3 0 kC3] 31) := ⟨_, rfl⟩
    obtain ⟨b0, hb0⟩ : ∃ q, q = w4.heap.size := ⟨_, rfl⟩
    have N3 := hide (show b0 = w4.heap.size ∧ w5.heap.size = w4.heap.size + 1 by rw [hw5, hb0]; simp)
    rw [← hw5] at X IL IS PA PB CC
    rw [← hb0] at X
    simp only [List.cons_append, List.nil_append] at X
    clear IS
    have c00 : w5.cell? ⟨b0, 0, none⟩ = some (.slice gC1 nl.length kC1) := X.out.cell 0 0 rfl rfl
    have c01 : w5.cell? ⟨b0, 1, none⟩ = some (.slice gC2 nr.length kC2) := X.out.cell 0 1 rfl rfl
    have c02 : w5.cell? ⟨b0, 2, none⟩ = some (.slice gC3 0 kC3) := X.out.cell 0 2 rfl rfl
    rw [hw5] at c00 c01 c02
    go_wp2_with fail
    rw [← hw5]
    try rw [← hb0]
    clear hw5 hb0
    clear c00 c01 c02
    go_at_call 24
    refine (HA.out _ _ _ CC.out PA.out).mono ?_
    rintro e w6 ⟨x, y, z, loX, hiX, pX1, qX1, pX2, qX2, pX3, qX3, rfl, hlo, hhi, CX, hb⟩
    obtain ⟨gX1, kX1, rfl⟩ := CX.x.form
    obtain ⟨gX2, kX2, rfl⟩ := CX.y.form
    obtain ⟨gX3, kX3, rfl⟩ := CX.z.own.form
    have CX := hide (KX.out _ _ _ _ _ _ _ _ _ _ _ _ CX)
    clear hlo hhi
    have X := hide (X.out.up hb)
    have IL := hide (IL.out.below hb)
    have PA := hide (PA.out.below hb)
    have PB := hide (PB.out.below hb)
    have CC := hide (CC.out.below hb)
    have N4 := hide hb.size
    clear hb
    have hbl := below1 w6 (.cells #[.slice gX1 l1.length kX1, .slice gX2 r1.length kX2, .slice gX3 0 kX3] 31)
    have X := hide (X.out.alloc #[.slice gX1 l1.length kX1, .slice gX2 r1.length kX2, .slice gX3 0 kX3] 31)
    have IL := hide (IL.out.below hbl)
    have PA := hide (PA.out.below hbl)
    have PB := hide (PB.out.below hbl)
    have CC := hide (CC.out.below hbl)
    have CX := hide (CX.out.below hbl)
    clear hbl
    obtain ⟨w7, hw7⟩ : ∃ q, q = w6.alloc (.cells #[.slice gX1 l1.length kX1, .slice gX2 r1.length kX2, .slice gX3 0 kX3] 31) := ⟨_, rfl⟩
    obtain ⟨b1, hb1⟩ : ∃ q, q = w6.heap.size := ⟨_, rfl⟩
    have N5 := hide (show b1 = w6.heap.size ∧ w7.heap.size = w6.heap.size + 1 by rw [hw7, hb1]; simp)
    rw [← hw7] at X IL PA PB CC CX
    rw [← hb1] at X
    simp only [List.cons_append, List.nil_append] at X
    have c00 : w7.cell? ⟨b0, 0, none⟩ = some (.slice gC1 nl.length kC1) := X.out.cell 0 0 rfl rfl
    have c01 : w7.cell? ⟨b0, 1, none⟩ = some (.slice gC2 nr.length kC2) := X.out.cell 0 1 rfl rfl
    have c02 : w7.cell? ⟨b0, 2, none⟩ = some (.slice gC3 0 kC3) := X.out.cell 0 2 rfl rfl
    have c10 : w7.cell? ⟨b1, 0, none⟩ = some (.slice gX1 l1.length kX1) := X.out.cell 1 0 rfl rfl
    have c11 : w7.cell? ⟨b1, 1, none⟩ = some (.slice gX2 r1.length kX2) := X.out.cell 1 1 rfl rfl
    have c12 : w7.cell? ⟨b1, 2, none⟩ = some (.slice gX3 0 kX3) := X.out.cell 1 2 rfl rfl
    rw [hw7] at c00 c01 c02 c10 c11 c12
    go_wp2_with fail
    rw [← hw7]
    try rw [← hb1]
    clear hw7 hb1
    clear c00 c01 c02 c10 c11 c12
    go_at_call 25
    refine (HU.out _ _ _ _ CX.out PA.out ZA.out).mono ?_
    rintro e w8 ⟨x, y, z, loY, hiY, pY1, qY1, pY2, qY2, pY3, qY3, rfl, hlo, hhi, CY, hb⟩
    obtain ⟨gY1, kY1, rfl⟩ := CY.x.form
    obtain ⟨gY2, kY2, rfl⟩ := CY.y.form
    obtain ⟨gY3, kY3, rfl⟩ := CY.z.own.form
    have CY := hide (KY.out _ _ _ _ _ _ _ _ _ _ _ _ CY)
    clear hlo hhi
    have X := hide (X.out.up hb)
    have IL := hide (IL.out.below hb)
    have PA := hide (PA.out.below hb)
    have PB := hide (PB.out.below hb)
    have CC := hide (CC.out.below hb)
    have CX := hide (CX.out.below hb)
    have N6 := hide hb.size
    clear hb
    have hbl := below1 w8 (.cells #[.slice gY1 l2.length kY1, .slice gY2 r2.length kY2, .slice gY3 0 kY3] 31)
    have X := hide (X.out.alloc #[.slice gY1 l2.length kY1, .slice gY2 r2.length kY2, .slice gY3 0 kY3] 31)
    have IL := hide (IL.out.below hbl)
    have PA := hide (PA.out.below hbl)
    have PB := hide (PB.out.below hbl)
    have CC := hide (CC.out.below hbl)
    have CX := hide (CX.out.below hbl)
    have CY := hide (CY.out.below hbl)
    clear hbl
    obtain ⟨w9, hw9⟩ : ∃ q, q = w8.alloc (.cells #[.slice gY1 l2.length kY1, .slice gY2 r2.length kY2, .slice gY3 0 kY3] 31) := ⟨_, rfl⟩
    obtain ⟨b2, hb2⟩ : ∃ q, q = w8.heap.size := ⟨_, rfl⟩
    have N7 := hide (show b2 = w8.heap.size ∧ w9.heap.size = w8.heap.size + 1 by rw [hw9, hb2]; simp)
    rw [← hw9] at X IL PA PB CC CX CY
    rw [← hb2] at X
    simp only [List.cons_append, List.nil_append] at X
    by_cases hlen : ¬ nl.length = l.length
    · have t4 : (((nl.length : Nat) : Int) != ((l.length : Nat) : Int)) = true := by simp; omega
      clear hlen
      have c00 : w9.cell? ⟨b0, 0, none⟩ = some (.slice gC1 nl.length kC1) := X.out.cell 0 0 rfl rfl
      have c01 : w9.cell? ⟨b0, 1, none⟩ = some (.slice gC2 nr.length kC2) := X.out.cell 0 1 rfl rfl
      have c02 : w9.cell? ⟨b0, 2, none⟩ = some (.slice gC3 0 kC3) := X.out.cell 0 2 rfl rfl
      have c10 : w9.cell? ⟨b1, 0, none⟩ = some (.slice gX1 l1.length kX1) := X.out.cell 1 0 rfl rfl
      have c11 : w9.cell? ⟨b1, 1, none⟩ = some (.slice gX2 r1.length kX2) := X.out.cell 1 1 rfl rfl
      have c12 : w9.cell? ⟨b1, 2, none⟩ = some (.slice gX3 0 kX3) := X.out.cell 1 2 rfl rfl
      have c20 : w9.cell? ⟨b2, 0, none⟩ = some (.slice gY1 l2.length kY1) := X.out.cell 2 0 rfl rfl
      have c21 : w9.cell? ⟨b2, 1, none⟩ = some (.slice gY2 r2.length kY2) := X.out.cell 2 1 rfl rfl
      have c22 : w9.cell? ⟨b2, 2, none⟩ = some (.slice gY3 0 kY3) := X.out.cell 2 2 rfl rfl
      rw [hw9] at c00 c01 c02 c10 c11 c12 c20 c21 c22
      go_wp2_with fail
      rw [← hw9]
      try rw [← hb2]
      go_ret
      exact ⟨rfl, X.out.below⟩
    have hlen : nl.length = l.length := by omega
    obtain ⟨hnl, hnr⟩ := HOR.out hlen
    have hal : sw.all (swOk nl.length) = true := by rw [hlen]; exact HOK.out.all
    obtain ⟨e1, e2, e3⟩ := HAP.out (by rw [hnr, hlen]) hal
    obtain ⟨d1, d2, -⟩ := HAP0.out (by rw [hnr, hlen]) hal
    subst e1 d1
    have HE := hide (show eqC l2 r2 [] nl nr [] = true by rw [e2, e3]; simp [eqC])
    have HD := hide (show l1 = swaps l sw by rw [d2, hnl])
    have hl1n : l1.length = l.length := by have := HM0.out; omega
    have t4 : (((nl.length : Nat) : Int) != ((l.length : Nat) : Int)) = false := by simp; omega
    have t5 : (((l1.length : Nat) : Int) != ((l.length : Nat) : Int)) = false := by simp; omega
    have HL1 := hide hl1n
    have hmb : mb ≤ l.length := by have := HVL.out; omega
    have hmab : ma ≤ mb := by have := HVL.out; omega
    clear hal e2 e3 d2 hnl hnr hlen HOR HAP HAP0 hl1n
    have c00 : w9.cell? ⟨b0, 0, none⟩ = some (.slice gC1 nl.length kC1) := X.out.cell 0 0 rfl rfl
    have c01 : w9.cell? ⟨b0, 1, none⟩ = some (.slice gC2 nr.length kC2) := X.out.cell 0 1 rfl rfl
    have c02 : w9.cell? ⟨b0, 2, none⟩ = some (.slice gC3 0 kC3) := X.out.cell 0 2 rfl rfl
    have c10 : w9.cell? ⟨b1, 0, none⟩ = some (.slice gX1 l1.length kX1) := X.out.cell 1 0 rfl rfl
    have c11 : w9.cell? ⟨b1, 1, none⟩ = some (.slice gX2 r1.length kX2) := X.out.cell 1 1 rfl rfl
    have c12 : w9.cell? ⟨b1, 2, none⟩ = some (.slice gX3 0 kX3) := X.out.cell 1 2 rfl rfl
    have c20 : w9.cell? ⟨b2, 0, none⟩ = some (.slice gY1 l2.length kY1) := X.out.cell 2 0 rfl rfl
    have c21 : w9.cell? ⟨b2, 1, none⟩ = some (.slice gY2 r2.length kY2) := X.out.cell 2 1 rfl rfl
    have c22 : w9.cell? ⟨b2, 2, none⟩ = some (.slice gY3 0 kY3) := X.out.cell 2 2 rfl rfl
    rw [hw9] at c00 c01 c02 c10 c11 c12 c20 c21 c22
    go_wp2_with fail
    rw [← hw9]
    try rw [← hb2]
    clear hw9 hb2
    clear c00 c01 c02 c10 c11 c12 c20 c21 c22
    go_loopw [16] (fun u wr => ∃ (k : Nat), ma ≤ k ∧ k ≤ mb ∧ u = .int .i64 k ∧ w9 = wr) (fun u _ => mb - (intOf u).toNat)
    case atStart => exact ⟨ma, Nat.le_refl _, hmab, rfl, rfl⟩
    case round =>
    obtain ⟨k, hk1, hk2, rfl, rfl⟩ := hrel
    have c00 : w9.cell? ⟨b0, 0, none⟩ = some (.slice gC1 nl.length kC1) := X.out.cell 0 0 rfl rfl
    have c01 : w9.cell? ⟨b0, 1, none⟩ = some (.slice gC2 nr.length kC2) := X.out.cell 0 1 rfl rfl
    have c02 : w9.cell? ⟨b0, 2, none⟩ = some (.slice gC3 0 kC3) := X.out.cell 0 2 rfl rfl
    have c10 : w9.cell? ⟨b1, 0, none⟩ = some (.slice gX1 l1.length kX1) := X.out.cell 1 0 rfl rfl
    have c11 : w9.cell? ⟨b1, 1, none⟩ = some (.slice gX2 r1.length kX2) := X.out.cell 1 1 rfl rfl
    have c12 : w9.cell? ⟨b1, 2, none⟩ = some (.slice gX3 0 kX3) := X.out.cell 1 2 rfl rfl
    have c20 : w9.cell? ⟨b2, 0, none⟩ = some (.slice gY1 l2.length kY1) := X.out.cell 2 0 rfl rfl
    have c21 : w9.cell? ⟨b2, 1, none⟩ = some (.slice gY2 r2.length kY2) := X.out.cell 2 1 rfl rfl
    have c22 : w9.cell? ⟨b2, 2, none⟩ = some (.slice gY3 0 kY3) := X.out.cell 2 2 rfl rfl
    by_cases hlt : k < mb
    · obtain ⟨bx, ox, hg, hc⟩ := CX.out.left k (by have := HL1.out; omega)
      subst hg
      have hdv := HOK.out.div k (by omega) (by omega)
      rw [← HD.out] at hdv
      obtain ⟨y, hy⟩ : ∃ y, y = l1.getD k 0 := ⟨_, rfl⟩
      rw [← hy] at hc hdv
      have t6 : (decide (y < p) == decide ((k : Int) < t)) = true := by simp [hdv]
      have hkl : k < l1.length := by have := HL1.out; omega
      clear hdv hy
      go_wp2_with fail
      go_roundw
      case rel => exact ⟨k + 1, by omega, by omega, by go_num, by first | rfl | trivial⟩
      case measure => simp [intOf]; omega
    have hke : k = mb := by omega
    subst hke
    go_wp2_with fail
    go_loopw [17] (fun u wr => ∃ (k qq : Nat), k ≤ sw.length ∧ u = .int .i64 k ∧ w9.drewN qq = wr) (fun u _ => sw.length - (intOf u).toNat)
    case atStart => exact ⟨0, 0, by omega, rfl, rfl⟩
    case round =>
    obtain ⟨j, qq, hj, rfl, rfl⟩ := hrel
    by_cases hjs : j < sw.length
    · obtain ⟨b1', o1, hg1, hA1, hA2⟩ := PA.out.cells j hjs
      obtain ⟨b2', o2, hg2, hB1, hB2⟩ := PB.out.cells j hjs
      subst hg1 hg2
      have hord := HOK.out.order _ (List.getElem_mem hjs)
      obtain ⟨q, hq⟩ : ∃ q, q = sw[j] := ⟨_, rfl⟩
      rw [← hq] at hA1 hA2 hB1 hB2 hord
      have HQJ := hide hq
      clear hq
      obtain ⟨x, y⟩ := q
      simp only at hA1 hA2 hB1 hB2 hord
      have t7 : decide (y ≤ x) = false := by simp; omega
      by_cases hj0 : j = 0
      · subst hj0
        have t8 : decide ((0 : Int) < ((0 : Nat) : Int)) = false := by simp
        clear hord
        simp only [Nat.zero_mul, Nat.add_zero, Nat.zero_add] at hA1 hA2 hB1 hB2
        go_wp2_with fail
        go_quiet (fail)
        go_wp2_with fail
        go_roundw
        case rel => exact ⟨0 + 1, qq + nq, by omega, by go_num, rfl⟩
        case measure => simp [intOf]; omega
      · obtain ⟨j, rfl⟩ : ∃ j', j = j' + 1 := ⟨j - 1, by omega⟩
        obtain ⟨b3', o3, hg3, hC1, hC2⟩ := PA.out.cells j (by omega)
        obtain ⟨rfl, rfl⟩ : b1' = b3' ∧ o1 = o3 := by simpa using hg3
        have hin := List.pairwise_iff_getElem.1 HOK.out.inward j (j + 1) (by omega) hjs (by omega)
        rw [← HQJ.out] at hin
        obtain ⟨q', hq'⟩ : ∃ q, q = sw[j]'(by omega) := ⟨_, rfl⟩
        rw [← hq'] at hC1 hC2 hin
        clear hq' hg3
        obtain ⟨x', y'⟩ := q'
        simp only at hC1 hC2 hin
        have t8 : decide (0 < j + 1) = true := by simp
        have t9 : decide (x ≤ x') = false := by simp; omega
        have t10 : decide (y' ≤ y) = false := by simp; omega
        clear hord hin hj0
        go_wp2_with fail
        go_quiet (fail)
        go_wp2_with fail
        go_roundw
        case rel => exact ⟨j + 1 + 1, qq + nq, by omega, by go_num, rfl⟩
        case measure => simp [intOf]; omega
    have hje : j = sw.length := by omega
    subst hje
    have u1 : decide (2 * (sw.length : Int) ≤ (k : Int) - (ma : Int)) = true := by have := HOK.out.len; simp; omega
    have u2 : decide ((ma : Int) ≤ t) = true := by have := HOK.out.lo; simp; omega
    have u3 : decide (t ≤ (k : Int)) = true := by have := HOK.out.hi; simp; omega
    have X := hide (X.out.drewN qq)
    have CY := hide (CY.out.below (below_drewN (Below.refl _ _) qq))
    have CC := hide (CC.out.below (below_drewN (Below.refl _ _) qq))
    clear c00 c01 c02 c10 c11 c12 c20 c21 c22
    have c00 : (w9.drewN qq).cell? ⟨b0, 0, none⟩ = some (.slice gC1 nl.length kC1) := X.out.cell 0 0 rfl rfl
    have c01 : (w9.drewN qq).cell? ⟨b0, 1, none⟩ = some (.slice gC2 nr.length kC2) := X.out.cell 0 1 rfl rfl
    have c02 : (w9.drewN qq).cell? ⟨b0, 2, none⟩ = some (.slice gC3 0 kC3) := X.out.cell 0 2 rfl rfl
    have c10 : (w9.drewN qq).cell? ⟨b1, 0, none⟩ = some (.slice gX1 l1.length kX1) := X.out.cell 1 0 rfl rfl
    have c11 : (w9.drewN qq).cell? ⟨b1, 1, none⟩ = some (.slice gX2 r1.length kX2) := X.out.cell 1 1 rfl rfl
    have c12 : (w9.drewN qq).cell? ⟨b1, 2, none⟩ = some (.slice gX3 0 kX3) := X.out.cell 1 2 rfl rfl
    have c20 : (w9.drewN qq).cell? ⟨b2, 0, none⟩ = some (.slice gY1 l2.length kY1) := X.out.cell 2 0 rfl rfl
    have c21 : (w9.drewN qq).cell? ⟨b2, 1, none⟩ = some (.slice gY2 r2.length kY2) := X.out.cell 2 1 rfl rfl
    have c22 : (w9.drewN qq).cell? ⟨b2, 2, none⟩ = some (.slice gY3 0 kY3) := X.out.cell 2 2 rfl rfl
    go_wp2_with fail
    go_at_call 26
    refine (sEqCk_any _ _ l2 r2 nl nr [] [] _ _ CY.out CC.out (Nat.le_refl _)).mono ?_
    rintro e we ⟨rfl, hb⟩
    rw [HE.out]
    have X := hide (X.out.up hb)
    clear hb
    go_wp2_with fail
    go_ret
    exact ⟨rfl, X.out.below⟩

set_option maxRecDepth 100000 in
theorem lifted (os : Os) (started : os.Started) (H : Type) (enc : TypeId × Value → H) :
    ReturnsInHanded {} Try.checked os 4 .any (Rows.fnPartitionsSpec.pre6 enc Try.prog Try.f4 Rows.fnPartitionsRow.domain false) (Rows.fnPartitionsSpec.post enc Try.prog Try.f4 false true false false) := by
  refine returnsInHanded_of_change (C := Try.checked) own started (by kernel_rfl) Try.func4
    (ChangeSpec.witness6 (enc := enc) (C := Try.checked) false ⟨#[], #[.slice none 0 0], []⟩ 8 (by kernel_rfl) (by kernel_rfl) (by kernel_rfl) (by kernel_rfl)) ?_
  intro W base args ds gs before hval0 hW hcnd _
  have hval : ∀ (j : Nat) t v, Try.f4.params[j]? = some t → args[j]? = some v → Value.okWide Try.prog W .any base t v := hval0
  have hW' := hW
  obtain ⟨p, q, hA0, hV, rfl, hfz, hnd⟩ := hW
  have hA : DataW.TrodAll enc Try.prog W 0 (fun _ => true) true Try.f4.params.toList args.toList ds p := hA0
  rw [Try.params4] at hA hval
  obtain ⟨v0, vs0, d0, ds0, p0, q0, hargs, rfl, rfl, h0, r0⟩ := trodAll_cons hA
  obtain ⟨rfl, rfl, rfl⟩ := trodAll_nil r0
  obtain rfl : args = #[v0] := by cases args; simp_all
  obtain ⟨rfl, rfl⟩ := trodVars_none hV
  have k0 := h0
  have lt0 : ∀ x ∈ p0, x.block < W.heap.size := by obtain ⟨m, hm⟩ := k0; exact DataW.trod_lt m _ _ _ hm
  have w0 := open_code (hval 0 40 v0 rfl rfl) h0
  clear hA0 hval0
  refine (walk W v0 w0).mono fun e W' ⟨he, bel⟩ => ?_
  subst he
  exact ⟨_, rfl, _, _, _, [], _, [], hW', trodAll_mk1 (shut_bool Try.underlying4 _), (trodAll_cons_mk (Below.trod laidOut (by kernel_rfl) (of_decide_eq_true (by kernel_rfl)) k0 bel lt0) trodAll_mk0), rfl, bel.frame _, fun h => by cases h⟩

theorem over : Rows.fnPartitionsRow.holds Try.pinned (OpenSpec.ofChange Rows.fnPartitionsSpec) :=
  OpenClaim.holds_of_wide 4 Try.f4 rfl rfl rfl rfl rfl rfl rfl ⟨rfl, rfl, rfl, rfl, rfl⟩ rfl rfl rfl rfl rfl (by kernel_rfl) Try.func4 (by kernel_rfl)
    (of_decide_eq_true (by kernel_rfl)) (by unfold Func.isWrapper; first | (rw [if_pos (by decide +kernel)]; kernel_rfl) | (rw [if_neg (by decide +kernel)]; exact ⟨rfl, rfl⟩))
    (fun os started H enc _ => lifted os started H enc)

/-- The statement. -/
theorem proved : Rows.FnPartitionsSaid := over
#print axioms proved
end Go.Proofs.Ytoaafklogibfpaa.fnPartitions
