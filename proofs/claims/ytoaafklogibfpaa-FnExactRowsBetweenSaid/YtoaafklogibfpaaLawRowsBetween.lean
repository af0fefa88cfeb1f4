/- The law FnExactRowsBetween holds: whatever the arguments, the call returns true, and they read afterwards as before. -/
import Derived.Test.YtoaafklogibfpaaRows
import Derived.WalkKit
import Derived.ProofKit
import Derived.OpenShut
import Derived.ShutString
import Derived.ChangeOld
import Derived.Below
import Derived.Test.YtoaafklogibfpaaRbw
import Derived.Test.YtoaafklogibfpaaOck
namespace Go.Proofs.Ytoaafklogibfpaa.fnExactRowsBetween
open Go.ChangeShapes Go.WideShapes Go.ChangeAt Go.RowKit
open Go.ChangeMaps (open_string shut_string)
set_option linter.unusedVariables false
set_option linter.unusedSimpArgs false

theorem own : ownKnob Try.prog.godebug = none := by kernel_rfl
theorem laidOut : laidOutB Try.prog = true := by kernel_rfl

theorem Is.nilcap {w : World} {base : Nat} {e : TypeId} {a : Option Addr} {n c : Nat} {l : List Int} (h : Is w base e (.slice a n c) l) : a = none → c = 0 := by
  intro ha
  subst ha
  rcases h.2 with ⟨e, _⟩ | ⟨g, cap, cur, e, _⟩
  · injection e
  · injection e with e1; cases e1

set_option maxRecDepth 100000 in
set_option maxHeartbeats 8000000 in
theorem walk (w : World) (v0 : Value) (w0 : ∃ l r ps, Ck w w.heap.size v0 l r ps) (av : Int) (wv : (Lit.int .i64 av).wf = true) (at' : Int) (wt : (Lit.int .i64 at').wf = true) :
    Calls Try.prog 7 #[v0, .int .i64 av, .int .i64 at'] w fun e w' => e = .returned (.bool true) ∧ Below w.heap.size w w' := by
  obtain ⟨l, r, ps, hv⟩ := w0
  have hav : I64 av := by have := bounds_i64 wv; exact ⟨by omega, by omega⟩
  have hat : I64 at' := by have := bounds_i64 wt; exact ⟨by omega, by omega⟩
  clear wv wt
  obtain ⟨a1, c1, a2, c2, a3, c3, rfl, -⟩ := hv.form
  obtain ⟨wl, wr, wpl, wp⟩ := hv.wf
  have V := hide hv
  clear hv
  have X := hide (Kn.one w #[.slice a1 l.length c1, .slice a2 r.length c2, .slice a3 ps.length c3] 25)
  obtain ⟨wC, hwC⟩ : ∃ q, q = w.alloc (.cells #[.slice a1 l.length c1, .slice a2 r.length c2, .slice a3 ps.length c3] 25) := ⟨_, rfl⟩
  have N0 := hide (show wC.heap.size = w.heap.size + 1 by rw [hwC]; simp)
  rw [← hwC] at X
  have hsz := hide (fun (W : World) (h : Below w.heap.size w W) => szCracker_any _ l r ps 1048576 W w.heap.size (V.out.below h (Nat.le_refl _)) h.size (by omega) (by omega))
  obtain ⟨z1, hz1⟩ : ∃ z, z = szC (l.length + r.length + ps.length) 1048576 := ⟨_, rfl⟩
  rw [← hz1] at hsz
  unfold szC at hz1
  by_cases hneg : z1 < 0
  · have b0 : decide (z1 < 0) = true := by simp; omega
    clear hz1
    go_enter Try.func7, Try.ntmps7
    have c00 : wC.cell? ⟨w.heap.size, 0, none⟩ = some (.slice a1 l.length c1) := X.out.cell 0 0 rfl rfl
    have c01 : wC.cell? ⟨w.heap.size, 1, none⟩ = some (.slice a2 r.length c2) := X.out.cell 0 1 rfl rfl
    have c02 : wC.cell? ⟨w.heap.size, 2, none⟩ = some (.slice a3 ps.length c3) := X.out.cell 0 2 rfl rfl
    rw [hwC] at c00 c01 c02
    go_wp2_with fail
    rw [← hwC]
    clear hwC c00 c01 c02
    go_at_call 11
    refine (hsz.out _ X.out.below).mono ?_
    rintro e w1 ⟨rfl, hb⟩
    have X := hide (X.out.up hb)
    have N1 := hide hb.size
    clear hb
    go_wp2_with fail
    go_ret
    exact ⟨rfl, X.out.below⟩
  have hbig : l.length + r.length + ps.length ≤ 1048576 := by split at hz1 <;> omega
  have b0 : decide (z1 < 0) = false := by simp; omega
  clear hz1 hneg
  · skip
    have T := hide (fun (W : World) (h : Below w.heap.size w W) => toCracker_own _ l r ps W w.heap.size (V.out.below h (Nat.le_refl _)) h.size (by omega) (by omega) (by omega))
    have TA := hide (fun (W : World) (h : Below w.heap.size w W) => toCracker_any _ l r ps W w.heap.size (V.out.below h (Nat.le_refl _)) h.size (by omega) (by omega) (by omega))
    have HSP := hide (fun (W : World) (v : Value) (h : Ck W W.heap.size v l r ps) => sRows_any v l r ps av at' W W.heap.size h (Nat.le_refl _) hav hat (by omega))
    have HIP := hide (fun (W : World) (v : Value) (h : Ck W W.heap.size v l r ps) => iRows_any v l r ps av at' W W.heap.size h (Nat.le_refl _) hav hat (by omega))
    have hs1 : (rbL l r ps av at').length ≤ 1048576 := by have := rbL_le l r ps av at'; omega
    have hs2 : ∀ x ∈ rbL l r ps av at', I64 x := fun x hx => wr x (rbL_mem x hx)
    obtain ⟨s, hs⟩ : ∃ q, q = rbL l r ps av at' := ⟨_, rfl⟩
    rw [← hs] at HSP HIP hs1 hs2
    clear hs
    have CK0 := hide (fun (W : World) (x y z : Value) (lo hi p1 q1 p2 q2 p3 q3 : Nat) (h : OC W x y z l r ps lo hi p1 q1 p2 q2 p3 q3) => h.ck wl wr (by omega) wp)
    obtain ⟨M0, hM0⟩ : ∃ M : Int, M = 1 + (l.length : Int) + (r.length : Int) + 2 * (ps.length : Int) := ⟨_, rfl⟩
    have HM0 := hide (fun (W : World) (x y z : Value) (lo hi p1 q1 p2 q2 p3 q3 : Nat) (h : OC W x y z l r ps lo hi p1 q1 p2 q2 p3 q3) => show Calls Try.prog 17 #[.agg #[x, y, z], .int .i64 1] W (RetMC W x y z lo hi p1 q1 p2 q2 p3 q3 M0 (mkI 1 l.length) (mkI (1 + l.length) r.length) (mkP (1 + l.length + r.length) ps.length)) by rw [hM0]; exact markCracker_oc x y z l r ps lo hi p1 q1 p2 q2 p3 q3 1 W h (by omega) (by omega))
    have hK : decide (M0 < 0) = false := by simp; omega
    have CI := hide (fun (W : World) (v : Value) (lo hi : Nat) (h : Ow W v s lo hi) => h.ints hs2)
    obtain ⟨M, hM⟩ : ∃ M : Int, M = 1 + (s.length : Int) := ⟨_, rfl⟩
    have HMk := hide (fun (W : World) (v : Value) (lo hi : Nat) (h : Ow W v s lo hi) => show Calls Try.prog 42 #[v, .int .i64 1] W (RetMS W v lo hi M (mkI 1 s.length)) by rw [hM]; exact markIntS_ow v s lo hi 1 W h (by omega) (by omega))
    have HHd := hide (fun (W : World) (v : Value) (lo hi : Nat) (h : Ow W v (mkI 1 s.length) lo hi) => show Calls Try.prog 43 #[v, .int .i64 1] W (fun e w' => e = .returned (.int .i64 M) ∧ W = w') by rw [hM]; exact heldIntS_ow v s.length lo hi 1 W h (by omega) (by omega))
    have hMn : decide (M < 0) = false := by simp; omega
    have hMM : (M != M) = false := by simp
    clear hM0 hM hs1 hs2 wl wr wpl wp hav hat
    go_enter Try.func7, Try.ntmps7
    have c00 : wC.cell? ⟨w.heap.size, 0, none⟩ = some (.slice a1 l.length c1) := X.out.cell 0 0 rfl rfl
    have c01 : wC.cell? ⟨w.heap.size, 1, none⟩ = some (.slice a2 r.length c2) := X.out.cell 0 1 rfl rfl
    have c02 : wC.cell? ⟨w.heap.size, 2, none⟩ = some (.slice a3 ps.length c3) := X.out.cell 0 2 rfl rfl
    rw [hwC] at c00 c01 c02
    go_wp2_with fail
    rw [← hwC]
    clear hwC c00 c01 c02
    go_at_call 11
    refine (hsz.out _ X.out.below).mono ?_
    rintro e w1 ⟨rfl, hb⟩
    have X := hide (X.out.up hb)
    have N1 := hide hb.size
    clear hb
    have c00 : w1.cell? ⟨w.heap.size, 0, none⟩ = some (.slice a1 l.length c1) := X.out.cell 0 0 rfl rfl
    have c01 : w1.cell? ⟨w.heap.size, 1, none⟩ = some (.slice a2 r.length c2) := X.out.cell 0 1 rfl rfl
    have c02 : w1.cell? ⟨w.heap.size, 2, none⟩ = some (.slice a3 ps.length c3) := X.out.cell 0 2 rfl rfl
    go_wp2_with fail
    clear c00 c01 c02
    go_at_call 13
    refine (TA.out _ X.out.below).mono ?_
    rintro e w2 ⟨ua1, va1, ua2, va2, ua3, va3, rfl, Ia, hb⟩
    have X := hide (X.out.up hb)
    have N2 := hide hb.size
    clear hb
    have c00 : w2.cell? ⟨w.heap.size, 0, none⟩ = some (.slice a1 l.length c1) := X.out.cell 0 0 rfl rfl
    have c01 : w2.cell? ⟨w.heap.size, 1, none⟩ = some (.slice a2 r.length c2) := X.out.cell 0 1 rfl rfl
    have c02 : w2.cell? ⟨w.heap.size, 2, none⟩ = some (.slice a3 ps.length c3) := X.out.cell 0 2 rfl rfl
    go_wp2_with fail
    clear c00 c01 c02
    go_at_call 39
    refine (HSP.out _ _ Ia).mono ?_
    rintro e w3 ⟨vA, hiA, rfl, CA, hb⟩
    have HAh := hide CA.top
    have CA := hide CA
    have X := hide (X.out.up hb)
    have N3 := hide hb.size
    clear hb
    clear Ia
    have c00 : w3.cell? ⟨w.heap.size, 0, none⟩ = some (.slice a1 l.length c1) := X.out.cell 0 0 rfl rfl
    have c01 : w3.cell? ⟨w.heap.size, 1, none⟩ = some (.slice a2 r.length c2) := X.out.cell 0 1 rfl rfl
    have c02 : w3.cell? ⟨w.heap.size, 2, none⟩ = some (.slice a3 ps.length c3) := X.out.cell 0 2 rfl rfl
    go_wp2_with fail
    clear c00 c01 c02
    go_at_call 13
    refine (T.out _ X.out.below).mono ?_
    rintro e w4 ⟨vx, lox, rfl, hlo, OX, hb⟩
    obtain ⟨x, y, z, m1, m2, rfl, ox1, ox2, ox3⟩ := OX
    have CX := OC.of_ock ox1 ox2 ox3
    obtain ⟨gX1, kX1, rfl⟩ := CX.x.form
    obtain ⟨gX2, kX2, rfl⟩ := CX.y.form
    obtain ⟨gX3, kX3, rfl⟩ := CX.z.own.form
    have HXl := hide hlo
    clear hlo ox1 ox2 ox3
    have X := hide (X.out.up hb)
    have CA := hide (CA.out.below hb)
    have N5 := hide hb.size
    clear hb
    have CX := hide CX
    have hbl := below1 w4 (.cells #[.slice gX1 l.length kX1, .slice gX2 r.length kX2, .slice gX3 ps.length kX3] 31)
    have X := hide (X.out.alloc #[.slice gX1 l.length kX1, .slice gX2 r.length kX2, .slice gX3 ps.length kX3] 31)
    have CA := hide (CA.out.below hbl)
    have CX := hide (CX.out.below hbl)
    clear hbl
    obtain ⟨w5, hw5⟩ : ∃ q, q = w4.alloc (.cells #[.slice gX1 l.length kX1, .slice gX2 r.length kX2, .slice gX3 ps.length kX3] 31) := ⟨_, rfl⟩
    obtain ⟨b1, hb1⟩ : ∃ q, q = w4.heap.size := ⟨_, rfl⟩
    have N7 := hide (show b1 = w4.heap.size ∧ w5.heap.size = w4.heap.size + 1 by rw [hw5, hb1]; simp)
    rw [← hw5] at X CA CX
    rw [← hb1] at X
    simp only [List.cons_append, List.nil_append] at X
    have c00 : w5.cell? ⟨w.heap.size, 0, none⟩ = some (.slice a1 l.length c1) := X.out.cell 0 0 rfl rfl
    have c01 : w5.cell? ⟨w.heap.size, 1, none⟩ = some (.slice a2 r.length c2) := X.out.cell 0 1 rfl rfl
    have c02 : w5.cell? ⟨w.heap.size, 2, none⟩ = some (.slice a3 ps.length c3) := X.out.cell 0 2 rfl rfl
    have c10 : w5.cell? ⟨b1, 0, none⟩ = some (.slice gX1 l.length kX1) := X.out.cell 1 0 rfl rfl
    have c11 : w5.cell? ⟨b1, 1, none⟩ = some (.slice gX2 r.length kX2) := X.out.cell 1 1 rfl rfl
    have c12 : w5.cell? ⟨b1, 2, none⟩ = some (.slice gX3 ps.length kX3) := X.out.cell 1 2 rfl rfl
    rw [hw5] at c00 c01 c02 c10 c11 c12
    go_wp2_with fail
    rw [← hw5]
    try rw [← hb1]
    clear hw5 hb1
    clear c00 c01 c02 c10 c11 c12
    go_at_call 40
    refine (HIP.out _ _ (CK0.out _ _ _ _ _ _ _ _ _ _ _ _ CX.out)).mono ?_
    rintro e w6 ⟨vG, hiG, rfl, CG, hb⟩
    have HGh := hide CG.top
    have CG := hide CG
    have X := hide (X.out.up hb)
    have CA := hide (CA.out.below hb)
    have CX := hide (CX.out.below hb)
    have N8 := hide hb.size
    clear hb
    have c00 : w6.cell? ⟨w.heap.size, 0, none⟩ = some (.slice a1 l.length c1) := X.out.cell 0 0 rfl rfl
    have c01 : w6.cell? ⟨w.heap.size, 1, none⟩ = some (.slice a2 r.length c2) := X.out.cell 0 1 rfl rfl
    have c02 : w6.cell? ⟨w.heap.size, 2, none⟩ = some (.slice a3 ps.length c3) := X.out.cell 0 2 rfl rfl
    have c10 : w6.cell? ⟨b1, 0, none⟩ = some (.slice gX1 l.length kX1) := X.out.cell 1 0 rfl rfl
    have c11 : w6.cell? ⟨b1, 1, none⟩ = some (.slice gX2 r.length kX2) := X.out.cell 1 1 rfl rfl
    have c12 : w6.cell? ⟨b1, 2, none⟩ = some (.slice gX3 ps.length kX3) := X.out.cell 1 2 rfl rfl
    go_wp2_with fail
    clear c00 c01 c02 c10 c11 c12
    go_at_call 41
    refine (eqIntS_alike _ _ s _ _ (CI.out _ _ _ _ CG.out) (CI.out _ _ _ _ CA.out)).mono ?_
    rintro e w7 ⟨rfl, hb⟩
    have X := hide (X.out.up hb)
    have CA := hide (CA.out.below hb)
    have CX := hide (CX.out.below hb)
    have CG := hide (CG.out.below hb)
    have N10 := hide hb.size
    clear hb
    have c00 : w7.cell? ⟨w.heap.size, 0, none⟩ = some (.slice a1 l.length c1) := X.out.cell 0 0 rfl rfl
    have c01 : w7.cell? ⟨w.heap.size, 1, none⟩ = some (.slice a2 r.length c2) := X.out.cell 0 1 rfl rfl
    have c02 : w7.cell? ⟨w.heap.size, 2, none⟩ = some (.slice a3 ps.length c3) := X.out.cell 0 2 rfl rfl
    have c10 : w7.cell? ⟨b1, 0, none⟩ = some (.slice gX1 l.length kX1) := X.out.cell 1 0 rfl rfl
    have c11 : w7.cell? ⟨b1, 1, none⟩ = some (.slice gX2 r.length kX2) := X.out.cell 1 1 rfl rfl
    have c12 : w7.cell? ⟨b1, 2, none⟩ = some (.slice gX3 ps.length kX3) := X.out.cell 1 2 rfl rfl
    go_wp2_with fail
    have X := hide X.out.drew
    have CA := hide (CA.out.below (Below.refl _ _).drew)
    have CX := hide (CX.out.below (Below.refl _ _).drew)
    have CG := hide (CG.out.below (Below.refl _ _).drew)
    have NQ := hide True.intro
    go_region_held3 (fun w' => w'.cell? ⟨w.heap.size, 0, none⟩ = some (.slice a1 l.length c1) ∧ w'.cell? ⟨w.heap.size, 1, none⟩ = some (.slice a2 r.length c2) ∧ w'.cell? ⟨w.heap.size, 2, none⟩ = some (.slice a3 ps.length c3) ∧ w'.cell? ⟨b1, 0, none⟩ = some (.slice gX1 l.length kX1) ∧ w'.cell? ⟨b1, 1, none⟩ = some (.slice gX2 r.length kX2) ∧ w'.cell? ⟨b1, 2, none⟩ = some (.slice gX3 ps.length kX3)) (first | exact ⟨c00, c01, c02, c10, c11, c12⟩ | go_keep) (first
      | (go_at_call 13; refine (TA.out _ X.out.below).mono ?_; rintro e wq ⟨ub1, vb1, ub2, vb2, ub3, vb3, rfl, Ib, hb⟩; have NQ := hide hb.size; have X := hide (X.out.up hb); have CA := hide (CA.out.below hb); have CX := hide (CX.out.below hb); have CG := hide (CG.out.below hb); have c00 : wq.cell? ⟨w.heap.size, 0, none⟩ = some (.slice a1 l.length c1) := X.out.cell 0 0 rfl rfl; have c01 : wq.cell? ⟨w.heap.size, 1, none⟩ = some (.slice a2 r.length c2) := X.out.cell 0 1 rfl rfl; have c02 : wq.cell? ⟨w.heap.size, 2, none⟩ = some (.slice a3 ps.length c3) := X.out.cell 0 2 rfl rfl; have c10 : wq.cell? ⟨b1, 0, none⟩ = some (.slice gX1 l.length kX1) := X.out.cell 1 0 rfl rfl; have c11 : wq.cell? ⟨b1, 1, none⟩ = some (.slice gX2 r.length kX2) := X.out.cell 1 1 rfl rfl; have c12 : wq.cell? ⟨b1, 2, none⟩ = some (.slice gX3 ps.length kX3) := X.out.cell 1 2 rfl rfl)
      | (go_at_call 16; refine (eqCracker_same _ _ l r ps _ _ (Nat.le_refl _) (CK0.out _ _ _ _ _ _ _ _ _ _ _ _ CX.out) Ib).mono ?_; rintro e wq ⟨rfl, hb⟩; have NR := hide (Nat.le_trans NQ.out hb.size); have X := hide (X.out.up hb); have CA := hide (CA.out.below hb); have CX := hide (CX.out.below hb); have CG := hide (CG.out.below hb); have c00 : wq.cell? ⟨w.heap.size, 0, none⟩ = some (.slice a1 l.length c1) := X.out.cell 0 0 rfl rfl; have c01 : wq.cell? ⟨w.heap.size, 1, none⟩ = some (.slice a2 r.length c2) := X.out.cell 0 1 rfl rfl; have c02 : wq.cell? ⟨w.heap.size, 2, none⟩ = some (.slice a3 ps.length c3) := X.out.cell 0 2 rfl rfl; have c10 : wq.cell? ⟨b1, 0, none⟩ = some (.slice gX1 l.length kX1) := X.out.cell 1 0 rfl rfl; have c11 : wq.cell? ⟨b1, 1, none⟩ = some (.slice gX2 r.length kX2) := X.out.cell 1 1 rfl rfl; have c12 : wq.cell? ⟨b1, 2, none⟩ = some (.slice gX3 ps.length kX3) := X.out.cell 1 2 rfl rfl))
    have c00 : wq.cell? ⟨w.heap.size, 0, none⟩ = some (.slice a1 l.length c1) := X.out.cell 0 0 rfl rfl
    have c01 : wq.cell? ⟨w.heap.size, 1, none⟩ = some (.slice a2 r.length c2) := X.out.cell 0 1 rfl rfl
    have c02 : wq.cell? ⟨w.heap.size, 2, none⟩ = some (.slice a3 ps.length c3) := X.out.cell 0 2 rfl rfl
    have c10 : wq.cell? ⟨b1, 0, none⟩ = some (.slice gX1 l.length kX1) := X.out.cell 1 0 rfl rfl
    have c11 : wq.cell? ⟨b1, 1, none⟩ = some (.slice gX2 r.length kX2) := X.out.cell 1 1 rfl rfl
    have c12 : wq.cell? ⟨b1, 2, none⟩ = some (.slice gX3 ps.length kX3) := X.out.cell 1 2 rfl rfl
    go_wp2_with fail
    clear c00 c01 c02 c10 c11 c12
    go_at_call 17
    refine (HM0.out _ _ _ _ _ _ _ _ _ _ _ _ CX.out).mono ?_
    rintro e w8 ⟨rfl, -, s⟩
    have qN0 := N0.out
    have qN1 := N1.out
    have qN2 := N2.out
    have qN3 := N3.out
    have qHAh := HAh.out
    have qN5 := N5.out
    have qHXl := HXl.out
    have qN7 := N7.out
    have qN8 := N8.out
    have qHGh := HGh.out
    have qN10 := N10.out
    have qNR := NR.out
    have tCA := CA.out.le
    have tCG := CG.out.le
    have tCX := CX.out.top.1
    have X := hide (X.out.seg s (by omega) (by simp; omega))
    have CA := hide (CA.out.seg s (by omega))
    have CG := hide (CG.out.seg s (by omega))
    have N12 := hide s.below.size
    clear s qN0 qN1 qN2 qN3 qHAh qN5 qHXl qN7 qN8 qHGh qN10 qNR tCA tCX tCG
    clear CX
    have c00 : w8.cell? ⟨w.heap.size, 0, none⟩ = some (.slice a1 l.length c1) := X.out.cell 0 0 rfl rfl
    have c01 : w8.cell? ⟨w.heap.size, 1, none⟩ = some (.slice a2 r.length c2) := X.out.cell 0 1 rfl rfl
    have c02 : w8.cell? ⟨w.heap.size, 2, none⟩ = some (.slice a3 ps.length c3) := X.out.cell 0 2 rfl rfl
    have c10 : w8.cell? ⟨b1, 0, none⟩ = some (.slice gX1 l.length kX1) := X.out.cell 1 0 rfl rfl
    have c11 : w8.cell? ⟨b1, 1, none⟩ = some (.slice gX2 r.length kX2) := X.out.cell 1 1 rfl rfl
    have c12 : w8.cell? ⟨b1, 2, none⟩ = some (.slice gX3 ps.length kX3) := X.out.cell 1 2 rfl rfl
    go_wp2_with fail
    clear c00 c01 c02 c10 c11 c12
    go_at_call 41
    refine (eqIntS_alike _ _ s _ _ (CI.out _ _ _ _ CG.out) (CI.out _ _ _ _ CA.out)).mono ?_
    rintro e w9 ⟨rfl, hb⟩
    have X := hide (X.out.up hb)
    have CA := hide (CA.out.below hb)
    have CG := hide (CG.out.below hb)
    have N13 := hide hb.size
    clear hb
    have c00 : w9.cell? ⟨w.heap.size, 0, none⟩ = some (.slice a1 l.length c1) := X.out.cell 0 0 rfl rfl
    have c01 : w9.cell? ⟨w.heap.size, 1, none⟩ = some (.slice a2 r.length c2) := X.out.cell 0 1 rfl rfl
    have c02 : w9.cell? ⟨w.heap.size, 2, none⟩ = some (.slice a3 ps.length c3) := X.out.cell 0 2 rfl rfl
    have c10 : w9.cell? ⟨b1, 0, none⟩ = some (.slice gX1 l.length kX1) := X.out.cell 1 0 rfl rfl
    have c11 : w9.cell? ⟨b1, 1, none⟩ = some (.slice gX2 r.length kX2) := X.out.cell 1 1 rfl rfl
    have c12 : w9.cell? ⟨b1, 2, none⟩ = some (.slice gX3 ps.length kX3) := X.out.cell 1 2 rfl rfl
    go_wp2_with fail
    clear c00 c01 c02 c10 c11 c12
    go_at_call 42
    refine (HMk.out _ _ _ _ CG.out).mono ?_
    rintro e w10 ⟨rfl, CG2, s⟩
    have qN0 := N0.out
    have qN1 := N1.out
    have qN2 := N2.out
    have qN3 := N3.out
    have qHAh := HAh.out
    have qN5 := N5.out
    have qHXl := HXl.out
    have qN7 := N7.out
    have qN8 := N8.out
    have qHGh := HGh.out
    have qN10 := N10.out
    have qNR := NR.out
    have qN12 := N12.out
    have qN13 := N13.out
    have tCA := CA.out.le
    have tCG := CG.out.le
    have X := hide (X.out.seg s (by omega) (by simp; omega))
    have CA := hide (CA.out.seg s (by omega))
    have N14 := hide s.below.size
    clear s qN0 qN1 qN2 qN3 qHAh qN5 qHXl qN7 qN8 qHGh qN10 qNR qN12 qN13 tCA tCG
    have CG := hide CG2
    have c00 : w10.cell? ⟨w.heap.size, 0, none⟩ = some (.slice a1 l.length c1) := X.out.cell 0 0 rfl rfl
    have c01 : w10.cell? ⟨w.heap.size, 1, none⟩ = some (.slice a2 r.length c2) := X.out.cell 0 1 rfl rfl
    have c02 : w10.cell? ⟨w.heap.size, 2, none⟩ = some (.slice a3 ps.length c3) := X.out.cell 0 2 rfl rfl
    have c10 : w10.cell? ⟨b1, 0, none⟩ = some (.slice gX1 l.length kX1) := X.out.cell 1 0 rfl rfl
    have c11 : w10.cell? ⟨b1, 1, none⟩ = some (.slice gX2 r.length kX2) := X.out.cell 1 1 rfl rfl
    have c12 : w10.cell? ⟨b1, 2, none⟩ = some (.slice gX3 ps.length kX3) := X.out.cell 1 2 rfl rfl
    go_wp2_with fail
    clear c00 c01 c02 c10 c11 c12
    go_at_call 43
    refine (HHd.out _ _ _ _ CG.out).mono ?_
    rintro e wq ⟨rfl, rfl⟩
    have c00 : w10.cell? ⟨w.heap.size, 0, none⟩ = some (.slice a1 l.length c1) := X.out.cell 0 0 rfl rfl
    have c01 : w10.cell? ⟨w.heap.size, 1, none⟩ = some (.slice a2 r.length c2) := X.out.cell 0 1 rfl rfl
    have c02 : w10.cell? ⟨w.heap.size, 2, none⟩ = some (.slice a3 ps.length c3) := X.out.cell 0 2 rfl rfl
    have c10 : w10.cell? ⟨b1, 0, none⟩ = some (.slice gX1 l.length kX1) := X.out.cell 1 0 rfl rfl
    have c11 : w10.cell? ⟨b1, 1, none⟩ = some (.slice gX2 r.length kX2) := X.out.cell 1 1 rfl rfl
    have c12 : w10.cell? ⟨b1, 2, none⟩ = some (.slice gX3 ps.length kX3) := X.out.cell 1 2 rfl rfl
    go_wp2_with fail
    clear c00 c01 c02 c10 c11 c12
    go_at_call 13
    refine (TA.out _ X.out.below).mono ?_
    rintro e w11 ⟨uh1, vh1, uh2, vh2, uh3, vh3, rfl, Ih, hb⟩
    have X := hide (X.out.up hb)
    have CA := hide (CA.out.below hb)
    have CG := hide (CG.out.below hb)
    have N15 := hide hb.size
    clear hb
    have c00 : w11.cell? ⟨w.heap.size, 0, none⟩ = some (.slice a1 l.length c1) := X.out.cell 0 0 rfl rfl
    have c01 : w11.cell? ⟨w.heap.size, 1, none⟩ = some (.slice a2 r.length c2) := X.out.cell 0 1 rfl rfl
    have c02 : w11.cell? ⟨w.heap.size, 2, none⟩ = some (.slice a3 ps.length c3) := X.out.cell 0 2 rfl rfl
    have c10 : w11.cell? ⟨b1, 0, none⟩ = some (.slice gX1 l.length kX1) := X.out.cell 1 0 rfl rfl
    have c11 : w11.cell? ⟨b1, 1, none⟩ = some (.slice gX2 r.length kX2) := X.out.cell 1 1 rfl rfl
    have c12 : w11.cell? ⟨b1, 2, none⟩ = some (.slice gX3 ps.length kX3) := X.out.cell 1 2 rfl rfl
    go_wp2_with fail
    clear c00 c01 c02 c10 c11 c12
    go_at_call 40
    refine (HIP.out _ _ Ih).mono ?_
    rintro e w12 ⟨vH, hiH, rfl, CH, hb⟩
    have HHh := hide CH.top
    have CH := hide CH
    have X := hide (X.out.up hb)
    have CA := hide (CA.out.below hb)
    have CG := hide (CG.out.below hb)
    have N16 := hide hb.size
    clear hb
    have c00 : w12.cell? ⟨w.heap.size, 0, none⟩ = some (.slice a1 l.length c1) := X.out.cell 0 0 rfl rfl
    have c01 : w12.cell? ⟨w.heap.size, 1, none⟩ = some (.slice a2 r.length c2) := X.out.cell 0 1 rfl rfl
    have c02 : w12.cell? ⟨w.heap.size, 2, none⟩ = some (.slice a3 ps.length c3) := X.out.cell 0 2 rfl rfl
    have c10 : w12.cell? ⟨b1, 0, none⟩ = some (.slice gX1 l.length kX1) := X.out.cell 1 0 rfl rfl
    have c11 : w12.cell? ⟨b1, 1, none⟩ = some (.slice gX2 r.length kX2) := X.out.cell 1 1 rfl rfl
    have c12 : w12.cell? ⟨b1, 2, none⟩ = some (.slice gX3 ps.length kX3) := X.out.cell 1 2 rfl rfl
    go_wp2_with fail
    clear c00 c01 c02 c10 c11 c12
    go_at_call 41
    refine (eqIntS_alike _ _ s _ _ (CI.out _ _ _ _ CH.out) (CI.out _ _ _ _ CA.out)).mono ?_
    rintro e w13 ⟨rfl, hb⟩
    have X := hide (X.out.up hb)
    have CA := hide (CA.out.below hb)
    have CG := hide (CG.out.below hb)
    have CH := hide (CH.out.below hb)
    have N18 := hide hb.size
    clear hb
    have c00 : w13.cell? ⟨w.heap.size, 0, none⟩ = some (.slice a1 l.length c1) := X.out.cell 0 0 rfl rfl
    have c01 : w13.cell? ⟨w.heap.size, 1, none⟩ = some (.slice a2 r.length c2) := X.out.cell 0 1 rfl rfl
    have c02 : w13.cell? ⟨w.heap.size, 2, none⟩ = some (.slice a3 ps.length c3) := X.out.cell 0 2 rfl rfl
    have c10 : w13.cell? ⟨b1, 0, none⟩ = some (.slice gX1 l.length kX1) := X.out.cell 1 0 rfl rfl
    have c11 : w13.cell? ⟨b1, 1, none⟩ = some (.slice gX2 r.length kX2) := X.out.cell 1 1 rfl rfl
    have c12 : w13.cell? ⟨b1, 2, none⟩ = some (.slice gX3 ps.length kX3) := X.out.cell 1 2 rfl rfl
    go_wp2_with fail
    clear c00 c01 c02 c10 c11 c12
    go_at_call 43
    refine (HHd.out _ _ _ _ CG.out).mono ?_
    rintro e wq ⟨rfl, rfl⟩
    have c00 : w13.cell? ⟨w.heap.size, 0, none⟩ = some (.slice a1 l.length c1) := X.out.cell 0 0 rfl rfl
    have c01 : w13.cell? ⟨w.heap.size, 1, none⟩ = some (.slice a2 r.length c2) := X.out.cell 0 1 rfl rfl
    have c02 : w13.cell? ⟨w.heap.size, 2, none⟩ = some (.slice a3 ps.length c3) := X.out.cell 0 2 rfl rfl
    have c10 : w13.cell? ⟨b1, 0, none⟩ = some (.slice gX1 l.length kX1) := X.out.cell 1 0 rfl rfl
    have c11 : w13.cell? ⟨b1, 1, none⟩ = some (.slice gX2 r.length kX2) := X.out.cell 1 1 rfl rfl
    have c12 : w13.cell? ⟨b1, 2, none⟩ = some (.slice gX3 ps.length kX3) := X.out.cell 1 2 rfl rfl
    go_wp2_with fail
    clear c00 c01 c02 c10 c11 c12
    go_ret
    exact ⟨rfl, X.out.below⟩

set_option maxRecDepth 100000 in
theorem lifted (os : Os) (started : os.Started) (H : Type) (enc : TypeId × Value → H) :
    ReturnsInHanded {} Try.checked os 7 .any (Rows.fnExactRowsBetweenSpec.pre6 enc Try.prog Try.f7 Rows.fnExactRowsBetweenRow.domain false) (Rows.fnExactRowsBetweenSpec.post enc Try.prog Try.f7 false true false false) := by
  refine returnsInHanded_of_change (C := Try.checked) own started (by kernel_rfl) Try.func7
    (ChangeSpec.witness6 (enc := enc) (C := Try.checked) false ⟨#[], #[.agg #[.slice none 0 0, .slice none 0 0, .slice none 0 0], .int .i64 0, .int .i64 0], []⟩ 8 (by kernel_rfl) (by kernel_rfl) (by kernel_rfl) (by kernel_rfl)) ?_
  intro W base args ds gs before hval0 hW hcnd _
  have hval : ∀ (j : Nat) t v, Try.f7.params[j]? = some t → args[j]? = some v → Value.okWide Try.prog W .any base t v := hval0
  have hW' := hW
  obtain ⟨p, q, hA0, hV, rfl, hfz, hnd⟩ := hW
  have hA : DataW.TrodAll enc Try.prog W 0 (fun _ => true) true Try.f7.params.toList args.toList ds p := hA0
  rw [Try.params7] at hA hval
  obtain ⟨v0, vs0, d0, ds0, p0, q0, hargs, rfl, rfl, h0, r0⟩ := trodAll_cons hA
  obtain ⟨v1, vs1, d1, ds1, p1, q1, rfl, rfl, rfl, h1, r1⟩ := trodAll_cons r0
  obtain ⟨v2, vs2, d2, ds2, p2, q2, rfl, rfl, rfl, h2, r2⟩ := trodAll_cons r1
  obtain ⟨rfl, rfl, rfl⟩ := trodAll_nil r2
  obtain rfl : args = #[v0, v1, v2] := by cases args; simp_all
  obtain ⟨rfl, rfl⟩ := trodVars_none hV
  have k0 := h0
  have lt0 : ∀ x ∈ p0, x.block < W.heap.size := by obtain ⟨m, hm⟩ := k0; exact DataW.trod_lt m _ _ _ hm
  have k1 := h1
  have lt1 : ∀ x ∈ p1, x.block < W.heap.size := by obtain ⟨m, hm⟩ := k1; exact DataW.trod_lt m _ _ _ hm
  have k2 := h2
  have lt2 : ∀ x ∈ p2, x.block < W.heap.size := by obtain ⟨m, hm⟩ := k2; exact DataW.trod_lt m _ _ _ hm
  have w0 := open_ck (hval 0 25 v0 rfl rfl) h0
  obtain ⟨a1, rfl, e1, f1, w1⟩ := open_int Try.underlying3 (hval 1 3 v1 rfl rfl) h1
  obtain ⟨a2, rfl, e2, f2, w2⟩ := open_int Try.underlying3 (hval 2 3 v2 rfl rfl) h2
  clear hA0 hval0
  refine (walk W v0 w0 a1 w1 a2 w2).mono fun e W' ⟨he, bel⟩ => ?_
  subst he
  exact ⟨_, rfl, _, _, _, [], _, [], hW', trodAll_mk1 (shut_bool Try.underlying4 _), (trodAll_cons_mk (Below.trod laidOut (by kernel_rfl) (of_decide_eq_true (by kernel_rfl)) k0 bel lt0) (trodAll_cons_mk (Below.trod laidOut (by kernel_rfl) (of_decide_eq_true (by kernel_rfl)) k1 bel lt1) (trodAll_cons_mk (Below.trod laidOut (by kernel_rfl) (of_decide_eq_true (by kernel_rfl)) k2 bel lt2) trodAll_mk0))), rfl, bel.frame _, fun h => by cases h⟩

theorem over : Rows.fnExactRowsBetweenRow.holds Try.pinned (OpenSpec.ofChange Rows.fnExactRowsBetweenSpec) :=
  OpenClaim.holds_of_wide 7 Try.f7 rfl rfl rfl rfl rfl rfl rfl ⟨rfl, rfl, rfl, rfl, rfl⟩ rfl rfl rfl rfl rfl (by kernel_rfl) Try.func7 (by kernel_rfl)
    (of_decide_eq_true (by kernel_rfl)) (by unfold Func.isWrapper; first | (rw [if_pos (by decide +kernel)]; kernel_rfl) | (rw [if_neg (by decide +kernel)]; exact ⟨rfl, rfl⟩))
    (fun os started H enc _ => lifted os started H enc)

/-- The statement. -/
theorem proved : Rows.FnExactRowsBetweenSaid := over
#print axioms proved
end Go.Proofs.Ytoaafklogibfpaa.fnExactRowsBetween
