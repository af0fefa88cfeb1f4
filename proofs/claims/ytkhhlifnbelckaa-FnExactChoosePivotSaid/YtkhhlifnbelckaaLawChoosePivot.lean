/- The law FnExactChoosePivot holds: whatever the arguments, the call returns true, and they read afterwards as before. -/
import Derived.Test.YtkhhlifnbelckaaRows
import Derived.WalkKit
import Derived.ProofKit
import Derived.OpenShut
import Derived.ShutString
import Derived.ChangeOld
import Derived.Below
import Derived.Test.YtkhhlifnbelckaaPlF
import Derived.Test.YtkhhlifnbelckaaOck
namespace Go.Proofs.Ytkhhlifnbelckaa.fnExactChoosePivot
open Go.ChangeShapes Go.WideShapes Go.ChangeAt Go.RowKit
open Go.ChangeMaps (open_string shut_string)
set_option linter.unusedVariables false
set_option linter.unusedSimpArgs false

theorem own : ownKnob Try.prog.godebug = none := by kernel_rfl
theorem laidOut : laidOutB Try.prog = true := by kernel_rfl

theorem Kn.put3s {w W : World} {g : Nat} {x y z : Value} {t : TypeId} (h : Kn w W [(g, #[x, y, z], t)]) (a b c : Value) :
    Kn w (((W.setCell ⟨g, 0, none⟩ a).setCell ⟨g, 1, none⟩ b).setCell ⟨g, 2, none⟩ c) [(g, #[a, b, c], t)] := ((h.set 0 0 rfl a).set 0 1 rfl b).set 0 2 rfl c

theorem below_upA {W W' : World} {o : Obj} (hb : Below (W.alloc o).heap.size (W.alloc o) W') : Below W.heap.size W W' := (below1 W o).trans (hb.mono (by simp))
theorem lt_alloc {W : World} {o : Obj} {lo : Nat} (h : (W.alloc o).heap.size ≤ lo) : W.heap.size < lo := by
  simp at h
  omega

theorem le_al {W : World} {o : Obj} {n : Nat} (h : n ≤ W.heap.size) : n ≤ (W.alloc o).heap.size := by
  simp
  omega

theorem le_s3 {W : World} {a b c : Addr} {x y z : Value} {n : Nat} (h : n ≤ W.heap.size) : n ≤ (((W.setCell a x).setCell b y).setCell c z).heap.size := by
  simpa using h

theorem below_upD {W W' : World} {o : Obj} (hb : Below (W.alloc o).drew.heap.size (W.alloc o).drew W') : Below W.heap.size W W' := (below1 W o).drew.trans (hb.mono (by simp))

set_option maxRecDepth 100000 in
set_option maxHeartbeats 40000000 in
theorem walk (w : World) (v0 : Value) (w0 : ∃ l r ps, Ck w w.heap.size v0 l r ps) (v1 : Value) (w1' : ∃ f t s : Int, v1 = .agg #[.int .i64 f, .int .i64 t, .int .i64 s] ∧ I64 f ∧ I64 t ∧ I64 s) (aA : Int) (wA : (Lit.int .i64 aA).wf = true) (aB : Int) (wB : (Lit.int .i64 aB).wf = true) :
    Calls Try.prog 8 #[v0, v1, .int .i64 aA, .int .i64 aB] w fun e w' => e = .returned (.bool true) ∧ Below w.heap.size w w' := by
  obtain ⟨l, r, ps, hv⟩ := w0
  obtain ⟨p, t, s, rfl, -, -, -⟩ := w1'
  obtain ⟨a1, c1, a2, c2, a3, c3, rfl, -⟩ := hv.form
  obtain ⟨wl, wr, wpl, wp⟩ := hv.wf
  have V := hide hv
  clear hv wA wB
  have X := hide (Kn.two w #[.slice a1 l.length c1, .slice a2 r.length c2, .slice a3 ps.length c3] #[.int .i64 p, .int .i64 t, .int .i64 s] 66 54)
  obtain ⟨wC, hwC⟩ : ∃ q, q = (w.alloc (.cells #[.slice a1 l.length c1, .slice a2 r.length c2, .slice a3 ps.length c3] 66)).alloc (.cells #[.int .i64 p, .int .i64 t, .int .i64 s] 54) := ⟨_, rfl⟩
  rw [← hwC] at X
  have hsz := hide (fun (W : World) (h : Below w.heap.size w W) => szCracker_any _ l r ps 1048576 W w.heap.size (V.out.below h (Nat.le_refl _)) h.size (by omega) (by omega))
  obtain ⟨z1, hz1⟩ : ∃ z, z = szC (l.length + r.length + ps.length) 1048576 := ⟨_, rfl⟩
  rw [← hz1] at hsz
  unfold szC at hz1
  by_cases hneg : z1 < 0
  · have b0 : decide (z1 < 0) = true := by simp; omega
    clear hz1
    go_enter Try.func8, Try.ntmps8
    have c00 : wC.cell? ⟨w.heap.size, 0, none⟩ = some (.slice a1 l.length c1) := X.out.cell 0 0 rfl rfl
    have c01 : wC.cell? ⟨w.heap.size, 1, none⟩ = some (.slice a2 r.length c2) := X.out.cell 0 1 rfl rfl
    have c02 : wC.cell? ⟨w.heap.size, 2, none⟩ = some (.slice a3 ps.length c3) := X.out.cell 0 2 rfl rfl
    rw [hwC] at c00 c01 c02
    go_wp2_with fail
    rw [← hwC]
    clear hwC c00 c01 c02
    go_at_call 39
    refine (hsz.out _ X.out.below).mono ?_
    rintro e w1 ⟨rfl, hb⟩
    have X := hide (X.out.up hb)
    clear hb
    go_wp2_with fail
    go_ret
    exact ⟨rfl, X.out.below⟩
  have hbig : l.length + r.length + ps.length ≤ 1048576 := by split at hz1 <;> omega
  have b0 : decide (z1 < 0) = false := by simp; omega
  clear hz1 hneg
  · skip
    have T := hide (fun (W : World) (h : Below w.heap.size w W) => toCracker_own _ l r ps W w.heap.size (V.out.below h (Nat.le_refl _)) h.size (by omega) (by omega) (by omega))
    have TA := hide (fun (W : World) (h : Below w.heap.size w W) => toCracker_any _ l r ps W w.heap.size (V.out.below h (Nat.le_refl _)) h.size (by omega) (by omega) (by omega))
    obtain ⟨m, hm⟩ : ∃ m, m = chM l r ps p t s aA aB := ⟨_, rfl⟩
    obtain ⟨ns, hns⟩ : ∃ m, m = chS l r ps p t s aA aB := ⟨_, rfl⟩
    have HSP := hide (fun (W : World) (v : Value) (h : Ck W W.heap.size v l r ps) => show Calls Try.prog 40 #[v, .agg #[.int .i64 p, .int .i64 t, .int .i64 s], .int .i64 aA, .int .i64 aB] W (RetMSt W m p t ns) by rw [hm, hns]; exact sCho_any v l r ps p t s aA aB W W.heap.size h (Nat.le_refl _))
    have HIP := hide (fun (W : World) (v : Value) (h : Ck W W.heap.size v l r ps) => show Calls Try.prog 42 #[v, .agg #[.int .i64 p, .int .i64 t, .int .i64 s], .int .i64 aA, .int .i64 aB] W (RetMSt W m p t ns) by rw [hm, hns]; exact iCho_any v l r ps p t s aA aB W W.heap.size h (Nat.le_refl _))
    have CK0 := hide (fun (W : World) (x y z : Value) (lo hi p1 q1 p2 q2 p3 q3 : Nat) (h : OC W x y z l r ps lo hi p1 q1 p2 q2 p3 q3) => h.ck wl wr (by omega) wp)
    have hmm : (m != m) = false := by simp
    clear hm hns wl wr wpl wp hbig
    go_enter Try.func8, Try.ntmps8
    have c00 : wC.cell? ⟨w.heap.size, 0, none⟩ = some (.slice a1 l.length c1) := X.out.cell 0 0 rfl rfl
    have c01 : wC.cell? ⟨w.heap.size, 1, none⟩ = some (.slice a2 r.length c2) := X.out.cell 0 1 rfl rfl
    have c02 : wC.cell? ⟨w.heap.size, 2, none⟩ = some (.slice a3 ps.length c3) := X.out.cell 0 2 rfl rfl
    rw [hwC] at c00 c01 c02
    go_wp2_with fail
    rw [← hwC]
    clear hwC c00 c01 c02
    go_at_call 39
    refine (hsz.out _ X.out.below).mono ?_
    rintro e w1 ⟨rfl, hb⟩
    have X := hide (X.out.up hb)
    clear hb
    have c00 : w1.cell? ⟨w.heap.size, 0, none⟩ = some (.slice a1 l.length c1) := X.out.cell 0 0 rfl rfl
    have c01 : w1.cell? ⟨w.heap.size, 1, none⟩ = some (.slice a2 r.length c2) := X.out.cell 0 1 rfl rfl
    have c02 : w1.cell? ⟨w.heap.size, 2, none⟩ = some (.slice a3 ps.length c3) := X.out.cell 0 2 rfl rfl
    have c10 : w1.cell? ⟨w.heap.size + 1, 0, none⟩ = some (.int .i64 p) := X.out.cell 1 0 rfl rfl
    have c11 : w1.cell? ⟨w.heap.size + 1, 1, none⟩ = some (.int .i64 t) := X.out.cell 1 1 rfl rfl
    have c12 : w1.cell? ⟨w.heap.size + 1, 2, none⟩ = some (.int .i64 s) := X.out.cell 1 2 rfl rfl
    go_upto_region 5 with fail
    have X1 := X
    go_cut [10, 11] (fun x sp wx => ∃ (W' : World) (g : Nat), W' = wx ∧ x = .int .i64 m ∧ sp = .pointer (some ⟨g, 0, none⟩) ∧ Hid (Kn w1 wx [(g, #[.int .i64 p, .int .i64 t, .int .i64 ns], 56)]))
    case first =>
      clear X T
      have KS := hide (fun (w' : World) (M : List (Nat × Array Value × TypeId)) (h : Kn w1 w' M) => show w'.cell? ⟨w.heap.size, 0, none⟩ = some (.slice a1 l.length c1) ∧ w'.cell? ⟨w.heap.size, 1, none⟩ = some (.slice a2 r.length c2) ∧ w'.cell? ⟨w.heap.size, 2, none⟩ = some (.slice a3 ps.length c3) ∧ w'.cell? ⟨w.heap.size + 1, 0, none⟩ = some (.int .i64 p) ∧ w'.cell? ⟨w.heap.size + 1, 1, none⟩ = some (.int .i64 t) ∧ w'.cell? ⟨w.heap.size + 1, 2, none⟩ = some (.int .i64 s) from ⟨(Kn.join X1.out h).cell 0 0 rfl rfl, (Kn.join X1.out h).cell 0 1 rfl rfl, (Kn.join X1.out h).cell 0 2 rfl rfl, (Kn.join X1.out h).cell 1 0 rfl rfl, (Kn.join X1.out h).cell 1 1 rfl rfl, (Kn.join X1.out h).cell 1 2 rfl rfl⟩)
      have KB := hide (fun (w' : World) (M : List (Nat × Array Value × TypeId)) (h : Kn w1 w' M) => (Kn.join X1.out h).below)
      have Y0 := hide (Kn.start w1)
      have Y := hide (Y0.out.drew)
      clear X1 c00 c01 c02 c10 c11 c12
      obtain ⟨c00, c01, c02, c10, c11, c12⟩ := KS.out _ _ Y.out
      go_region_held3 (fun w' => w'.cell? ⟨w.heap.size, 0, none⟩ = some (.slice a1 l.length c1) ∧ w'.cell? ⟨w.heap.size, 1, none⟩ = some (.slice a2 r.length c2) ∧ w'.cell? ⟨w.heap.size, 2, none⟩ = some (.slice a3 ps.length c3) ∧ w'.cell? ⟨w.heap.size + 1, 0, none⟩ = some (.int .i64 p) ∧ w'.cell? ⟨w.heap.size + 1, 1, none⟩ = some (.int .i64 t) ∧ w'.cell? ⟨w.heap.size + 1, 2, none⟩ = some (.int .i64 s)) (first | with_reducible exact KS.out _ _ Y.out | with_reducible exact KS.out _ _ (Y.out.alloc _ _) | with_reducible exact KS.out _ _ (Y0.out.alloc _ _).drew | with_reducible exact KS.out _ _ (Kn.put3s Y.out _ _ _) | go_keep) (first
        | (go_at_call 41; refine (TA.out _ (by first | with_reducible exact KB.out _ _ Y.out | with_reducible exact KB.out _ _ (Y.out.alloc _ _) | with_reducible exact KB.out _ _ (Y0.out.alloc _ _).drew)).mono ?_; rintro e wq ⟨u1, v1, u2, v2, u3, v3, rfl, IA, hb⟩; replace IA := hide IA; clear c00 c01 c02 c10 c11 c12; (first | replace Y := hide (by with_reducible exact Y.out.up hb) | replace Y := hide (by with_reducible exact Y.out.upA hb) | replace Y := hide (by with_reducible exact Y0.out.upD hb)); obtain ⟨c00, c01, c02, c10, c11, c12⟩ := KS.out _ _ Y.out; (first | clear e0 e1 e2 f0 f1 f2 f3 | skip); (first | (have e0 := Y.out.cell 0 0 rfl rfl; have e1 := Y.out.cell 0 1 rfl rfl; have e2 := Y.out.cell 0 2 rfl rfl; have f0 := Y.out.free 0 0 rfl; have f1 := Y.out.free 0 1 rfl; have f2 := Y.out.free 0 2 rfl; have f3 := Y.out.lt 0 rfl) | skip); clear hb)
        | (go_at_call 31; refine (toSettings_any _ _ _ _).mono ?_; rintro e wq ⟨rfl, hb⟩; (first | replace IA := hide (by with_reducible exact IA.out.up hb) | replace IA := hide (by with_reducible exact IA.out.up (below_upA hb)) | replace IA := hide (by with_reducible exact IA.out.up (below_upD hb))); clear c00 c01 c02 c10 c11 c12; (first | replace Y := hide (by with_reducible exact Y.out.up hb) | replace Y := hide (by with_reducible exact Y.out.upA hb) | replace Y := hide (by with_reducible exact Y0.out.upD hb)); obtain ⟨c00, c01, c02, c10, c11, c12⟩ := KS.out _ _ Y.out; (first | clear e0 e1 e2 f0 f1 f2 f3 | skip); (first | (have e0 := Y.out.cell 0 0 rfl rfl; have e1 := Y.out.cell 0 1 rfl rfl; have e2 := Y.out.cell 0 2 rfl rfl; have f0 := Y.out.free 0 0 rfl; have f1 := Y.out.free 0 1 rfl; have f2 := Y.out.free 0 2 rfl; have f3 := Y.out.lt 0 rfl) | skip); clear hb)
        | (go_at_call 40; refine (HSP.out _ _ (by first | with_reducible exact IA.out | with_reducible exact IA.out.up (below1 _ _) | with_reducible exact IA.out.up (below1 _ _).drew)).mono ?_; rintro e wq ⟨rfl, hb⟩; clear c00 c01 c02 c10 c11 c12; (first | replace Y := hide (by with_reducible exact Y.out.up hb) | replace Y := hide (by with_reducible exact Y.out.upA hb) | replace Y := hide (by with_reducible exact Y0.out.upD hb)); obtain ⟨c00, c01, c02, c10, c11, c12⟩ := KS.out _ _ Y.out; (first | clear e0 e1 e2 f0 f1 f2 f3 | skip); (first | (have e0 := Y.out.cell 0 0 rfl rfl; have e1 := Y.out.cell 0 1 rfl rfl; have e2 := Y.out.cell 0 2 rfl rfl; have f0 := Y.out.free 0 0 rfl; have f1 := Y.out.free 0 1 rfl; have f2 := Y.out.free 0 2 rfl; have f3 := Y.out.lt 0 rfl) | skip); clear hb))
      all_goals go_wp2_with fail
      all_goals go_meet
      all_goals first | exact ⟨_, _, rfl, rfl, rfl, Y.out.alloc _ _⟩ | exact ⟨_, _, rfl, rfl, rfl, Kn.put3s Y.out _ _ _⟩
    case rest =>
    obtain ⟨wA, gA, rfl, rfl, rfl, Y⟩ := hcut
    have hbY := Y.out.below
    have X := hide (Kn.join X1.out Y.out)
    simp only [List.cons_append, List.nil_append] at X
    clear hbY Y X1 c00 c01 c02 c10 c11 c12
    have c00 : wA.cell? ⟨w.heap.size, 0, none⟩ = some (.slice a1 l.length c1) := X.out.cell 0 0 rfl rfl
    have c01 : wA.cell? ⟨w.heap.size, 1, none⟩ = some (.slice a2 r.length c2) := X.out.cell 0 1 rfl rfl
    have c02 : wA.cell? ⟨w.heap.size, 2, none⟩ = some (.slice a3 ps.length c3) := X.out.cell 0 2 rfl rfl
    go_wp2_with fail
    clear c00 c01 c02
    go_at_call 41
    refine (T.out _ X.out.below).mono ?_
    rintro e w3 ⟨vx, lox, rfl, hlo, OX, hb⟩
    obtain ⟨x, y, z, m1, m2, rfl, ox1, ox2, ox3⟩ := OX
    have CX := OC.of_ock ox1 ox2 ox3
    obtain ⟨gX1, kX1, rfl⟩ := CX.x.form
    obtain ⟨gX2, kX2, rfl⟩ := CX.y.form
    obtain ⟨gX3, kX3, rfl⟩ := CX.z.own.form
    have X := hide (X.out.up hb)
    clear hlo ox1 ox2 ox3 hb
    have hbl := below1 w3 (.cells #[.slice gX1 l.length kX1, .slice gX2 r.length kX2, .slice gX3 ps.length kX3] 27)
    have X := hide (X.out.alloc #[.slice gX1 l.length kX1, .slice gX2 r.length kX2, .slice gX3 ps.length kX3] 27)
    have CX := hide (CX.below hbl)
    clear hbl
    obtain ⟨w4, hw4⟩ : ∃ q, q = w3.alloc (.cells #[.slice gX1 l.length kX1, .slice gX2 r.length kX2, .slice gX3 ps.length kX3] 27) := ⟨_, rfl⟩
    obtain ⟨b4, hb4⟩ : ∃ q, q = w3.heap.size := ⟨_, rfl⟩
    rw [← hw4] at X CX
    rw [← hb4] at X
    simp only [List.cons_append, List.nil_append] at X
    have c00 : w4.cell? ⟨w.heap.size, 0, none⟩ = some (.slice a1 l.length c1) := X.out.cell 0 0 rfl rfl
    rw [hw4] at c00
    have c10 : w4.cell? ⟨w.heap.size + 1, 0, none⟩ = some (.int .i64 p) := X.out.cell 1 0 rfl rfl
    have c11 : w4.cell? ⟨w.heap.size + 1, 1, none⟩ = some (.int .i64 t) := X.out.cell 1 1 rfl rfl
    have c12 : w4.cell? ⟨w.heap.size + 1, 2, none⟩ = some (.int .i64 s) := X.out.cell 1 2 rfl rfl
    have c30 : w4.cell? ⟨b4, 0, none⟩ = some (.slice gX1 l.length kX1) := X.out.cell 3 0 rfl rfl
    have c31 : w4.cell? ⟨b4, 1, none⟩ = some (.slice gX2 r.length kX2) := X.out.cell 3 1 rfl rfl
    have c32 : w4.cell? ⟨b4, 2, none⟩ = some (.slice gX3 ps.length kX3) := X.out.cell 3 2 rfl rfl
    go_upto_region 7 with fail
    rw [← hw4]
    try rw [← hb4]
    rw [← hw4] at c00
    clear hw4 hb4
    have X1 := X
    go_cut [13, 14] (fun x sp wx => ∃ (W' : World) (g : Nat), W' = wx ∧ x = .int .i64 m ∧ sp = .pointer (some ⟨g, 0, none⟩) ∧ Hid (Kn w4 wx [(g, #[.int .i64 p, .int .i64 t, .int .i64 ns], 56)]))
    case first =>
      clear X T
      have KS := hide (fun (w' : World) (M : List (Nat × Array Value × TypeId)) (h : Kn w4 w' M) => show w'.cell? ⟨w.heap.size + 1, 0, none⟩ = some (.int .i64 p) ∧ w'.cell? ⟨w.heap.size + 1, 1, none⟩ = some (.int .i64 t) ∧ w'.cell? ⟨w.heap.size + 1, 2, none⟩ = some (.int .i64 s) ∧ w'.cell? ⟨b4, 0, none⟩ = some (.slice gX1 l.length kX1) ∧ w'.cell? ⟨b4, 1, none⟩ = some (.slice gX2 r.length kX2) ∧ w'.cell? ⟨b4, 2, none⟩ = some (.slice gX3 ps.length kX3) from ⟨(Kn.join X1.out h).cell 1 0 rfl rfl, (Kn.join X1.out h).cell 1 1 rfl rfl, (Kn.join X1.out h).cell 1 2 rfl rfl, (Kn.join X1.out h).cell 3 0 rfl rfl, (Kn.join X1.out h).cell 3 1 rfl rfl, (Kn.join X1.out h).cell 3 2 rfl rfl⟩)
      have KB := hide (fun (w' : World) (M : List (Nat × Array Value × TypeId)) (h : Kn w4 w' M) => (Kn.join X1.out h).below)
      have Y0 := hide (Kn.start w4)
      have Y := hide (Y0.out.drew)
      clear X1 c10 c11 c12 c30 c31 c32
      obtain ⟨c10, c11, c12, c30, c31, c32⟩ := KS.out _ _ Y.out
      go_region_held3 (fun w' => w'.cell? ⟨w.heap.size + 1, 0, none⟩ = some (.int .i64 p) ∧ w'.cell? ⟨w.heap.size + 1, 1, none⟩ = some (.int .i64 t) ∧ w'.cell? ⟨w.heap.size + 1, 2, none⟩ = some (.int .i64 s) ∧ w'.cell? ⟨b4, 0, none⟩ = some (.slice gX1 l.length kX1) ∧ w'.cell? ⟨b4, 1, none⟩ = some (.slice gX2 r.length kX2) ∧ w'.cell? ⟨b4, 2, none⟩ = some (.slice gX3 ps.length kX3)) (first | with_reducible exact KS.out _ _ Y.out | with_reducible exact KS.out _ _ (Y.out.alloc _ _) | with_reducible exact KS.out _ _ (Y0.out.alloc _ _).drew | with_reducible exact KS.out _ _ (Kn.put3s Y.out _ _ _) | go_keep) (first
        | (go_at_call 31; refine (toSettings_any _ _ _ _).mono ?_; rintro e wq ⟨rfl, hb⟩; clear c10 c11 c12 c30 c31 c32; (first | replace Y := hide (by with_reducible exact Y.out.up hb) | replace Y := hide (by with_reducible exact Y.out.upA hb) | replace Y := hide (by with_reducible exact Y0.out.upD hb)); obtain ⟨c10, c11, c12, c30, c31, c32⟩ := KS.out _ _ Y.out; (first | clear e0 e1 e2 f0 f1 f2 f3 | skip); (first | (have e0 := Y.out.cell 0 0 rfl rfl; have e1 := Y.out.cell 0 1 rfl rfl; have e2 := Y.out.cell 0 2 rfl rfl; have f0 := Y.out.free 0 0 rfl; have f1 := Y.out.free 0 1 rfl; have f2 := Y.out.free 0 2 rfl; have f3 := Y.out.lt 0 rfl) | skip); clear hb)
        | (go_at_call 42; refine (HIP.out _ _ (CK0.out _ _ _ _ _ _ _ _ _ _ _ _ (by first | with_reducible exact CX.out.below Y.out.below | with_reducible exact CX.out.below (Y.out.alloc _ _).below | with_reducible exact CX.out.below (Y0.out.alloc _ _).drew.below))).mono ?_; rintro e wq ⟨rfl, hb⟩; clear c10 c11 c12 c30 c31 c32; (first | replace Y := hide (by with_reducible exact Y.out.up hb) | replace Y := hide (by with_reducible exact Y.out.upA hb) | replace Y := hide (by with_reducible exact Y0.out.upD hb)); obtain ⟨c10, c11, c12, c30, c31, c32⟩ := KS.out _ _ Y.out; (first | clear e0 e1 e2 f0 f1 f2 f3 | skip); (first | (have e0 := Y.out.cell 0 0 rfl rfl; have e1 := Y.out.cell 0 1 rfl rfl; have e2 := Y.out.cell 0 2 rfl rfl; have f0 := Y.out.free 0 0 rfl; have f1 := Y.out.free 0 1 rfl; have f2 := Y.out.free 0 2 rfl; have f3 := Y.out.lt 0 rfl) | skip); clear hb))
      all_goals go_wp2_with fail
      all_goals go_meet
      all_goals first | exact ⟨_, _, rfl, rfl, rfl, Y.out.alloc _ _⟩ | exact ⟨_, _, rfl, rfl, rfl, Kn.put3s Y.out _ _ _⟩
    case rest =>
    obtain ⟨wG, gG, rfl, rfl, rfl, Y⟩ := hcut
    have hbY := Y.out.below
    have CX := hide (CX.out.below hbY)
    have X := hide (Kn.join X1.out Y.out)
    simp only [List.cons_append, List.nil_append] at X
    clear hbY Y X1 c10 c11 c12 c30 c31 c32
    have c20 : wG.cell? ⟨gA, 0, none⟩ = some (.int .i64 p) := X.out.cell 2 0 rfl rfl
    have c21 : wG.cell? ⟨gA, 1, none⟩ = some (.int .i64 t) := X.out.cell 2 1 rfl rfl
    have c22 : wG.cell? ⟨gA, 2, none⟩ = some (.int .i64 ns) := X.out.cell 2 2 rfl rfl
    have c40 : wG.cell? ⟨gG, 0, none⟩ = some (.int .i64 p) := X.out.cell 4 0 rfl rfl
    have c41 : wG.cell? ⟨gG, 1, none⟩ = some (.int .i64 t) := X.out.cell 4 1 rfl rfl
    have c42 : wG.cell? ⟨gG, 2, none⟩ = some (.int .i64 ns) := X.out.cell 4 2 rfl rfl
    go_wp2_with fail
    clear c20 c21 c22 c40 c41 c42
    go_at_call 43
    refine (eqSettings_same _ _ _ _).mono ?_
    rintro e w6 ⟨rfl, hb⟩
    have X := hide (X.out.up hb)
    have CX := hide (CX.out.below hb)
    clear hb
    have c00 : w6.cell? ⟨w.heap.size, 0, none⟩ = some (.slice a1 l.length c1) := X.out.cell 0 0 rfl rfl
    have c01 : w6.cell? ⟨w.heap.size, 1, none⟩ = some (.slice a2 r.length c2) := X.out.cell 0 1 rfl rfl
    have c02 : w6.cell? ⟨w.heap.size, 2, none⟩ = some (.slice a3 ps.length c3) := X.out.cell 0 2 rfl rfl
    have c30 : w6.cell? ⟨b4, 0, none⟩ = some (.slice gX1 l.length kX1) := X.out.cell 3 0 rfl rfl
    have c31 : w6.cell? ⟨b4, 1, none⟩ = some (.slice gX2 r.length kX2) := X.out.cell 3 1 rfl rfl
    have c32 : w6.cell? ⟨b4, 2, none⟩ = some (.slice gX3 ps.length kX3) := X.out.cell 3 2 rfl rfl
    go_wp2_with fail
    have X := hide X.out.drew
    have CX := hide (CX.out.below (Below.refl _ _).drew)
    go_region_held3 (fun w' => w'.cell? ⟨w.heap.size, 0, none⟩ = some (.slice a1 l.length c1) ∧ w'.cell? ⟨w.heap.size, 1, none⟩ = some (.slice a2 r.length c2) ∧ w'.cell? ⟨w.heap.size, 2, none⟩ = some (.slice a3 ps.length c3) ∧ w'.cell? ⟨b4, 0, none⟩ = some (.slice gX1 l.length kX1) ∧ w'.cell? ⟨b4, 1, none⟩ = some (.slice gX2 r.length kX2) ∧ w'.cell? ⟨b4, 2, none⟩ = some (.slice gX3 ps.length kX3)) (first | exact ⟨c00, c01, c02, c30, c31, c32⟩ | go_keep) (first
      | (go_at_call 41; refine (TA.out _ X.out.below).mono ?_; rintro e wq ⟨ub1, vb1, ub2, vb2, ub3, vb3, rfl, Ib, hb⟩; have X := hide (X.out.up hb); have CX := hide (CX.out.below hb); have c00 : wq.cell? ⟨w.heap.size, 0, none⟩ = some (.slice a1 l.length c1) := X.out.cell 0 0 rfl rfl; have c01 : wq.cell? ⟨w.heap.size, 1, none⟩ = some (.slice a2 r.length c2) := X.out.cell 0 1 rfl rfl; have c02 : wq.cell? ⟨w.heap.size, 2, none⟩ = some (.slice a3 ps.length c3) := X.out.cell 0 2 rfl rfl; have c30 : wq.cell? ⟨b4, 0, none⟩ = some (.slice gX1 l.length kX1) := X.out.cell 3 0 rfl rfl; have c31 : wq.cell? ⟨b4, 1, none⟩ = some (.slice gX2 r.length kX2) := X.out.cell 3 1 rfl rfl; have c32 : wq.cell? ⟨b4, 2, none⟩ = some (.slice gX3 ps.length kX3) := X.out.cell 3 2 rfl rfl)
      | (go_at_call 44; refine (eqCracker_same _ _ l r ps _ _ (Nat.le_refl _) (CK0.out _ _ _ _ _ _ _ _ _ _ _ _ CX.out) Ib).mono ?_; rintro e wq ⟨rfl, hb⟩; have X := hide (X.out.up hb); have c00 : wq.cell? ⟨w.heap.size, 0, none⟩ = some (.slice a1 l.length c1) := X.out.cell 0 0 rfl rfl; have c01 : wq.cell? ⟨w.heap.size, 1, none⟩ = some (.slice a2 r.length c2) := X.out.cell 0 1 rfl rfl; have c02 : wq.cell? ⟨w.heap.size, 2, none⟩ = some (.slice a3 ps.length c3) := X.out.cell 0 2 rfl rfl; have c30 : wq.cell? ⟨b4, 0, none⟩ = some (.slice gX1 l.length kX1) := X.out.cell 3 0 rfl rfl; have c31 : wq.cell? ⟨b4, 1, none⟩ = some (.slice gX2 r.length kX2) := X.out.cell 3 1 rfl rfl; have c32 : wq.cell? ⟨b4, 2, none⟩ = some (.slice gX3 ps.length kX3) := X.out.cell 3 2 rfl rfl))
    go_wp2_with fail
    go_ret
    exact ⟨rfl, X.out.below⟩

set_option maxRecDepth 100000 in
theorem lifted (os : Os) (started : os.Started) (H : Type) (enc : TypeId × Value → H) :
    ReturnsInHanded {} Try.checked os 8 .any (Rows.fnExactChoosePivotSpec.pre6 enc Try.prog Try.f8 Rows.fnExactChoosePivotRow.domain false) (Rows.fnExactChoosePivotSpec.post enc Try.prog Try.f8 false true false false) := by
  refine returnsInHanded_of_change (C := Try.checked) own started (by kernel_rfl) Try.func8
    (ChangeSpec.witness6 (enc := enc) (C := Try.checked) false ⟨#[], #[.agg #[.slice none 0 0, .slice none 0 0, .slice none 0 0], .agg #[.int .i64 0, .int .i64 0, .int .i64 0], .int .i64 0, .int .i64 0], []⟩ 8 (by kernel_rfl) (by kernel_rfl) (by kernel_rfl) (by kernel_rfl)) ?_
  intro W base args ds gs before hval0 hW hcnd _
  have hval : ∀ (j : Nat) t v, Try.f8.params[j]? = some t → args[j]? = some v → Value.okWide Try.prog W .any base t v := hval0
  have hW' := hW
  obtain ⟨p, q, hA0, hV, rfl, hfz, hnd⟩ := hW
  have hA : DataW.TrodAll enc Try.prog W 0 (fun _ => true) true Try.f8.params.toList args.toList ds p := hA0
  rw [Try.params8] at hA hval
  obtain ⟨v0, vs0, d0, ds0, p0, q0, hargs, rfl, rfl, h0, r0⟩ := trodAll_cons hA
  obtain ⟨v1, vs1, d1, ds1, p1, q1, rfl, rfl, rfl, h1, r1⟩ := trodAll_cons r0
  obtain ⟨v2, vs2, d2, ds2, p2, q2, rfl, rfl, rfl, h2, r2⟩ := trodAll_cons r1
  obtain ⟨v3, vs3, d3, ds3, p3, q3, rfl, rfl, rfl, h3, r3⟩ := trodAll_cons r2
  obtain ⟨rfl, rfl, rfl⟩ := trodAll_nil r3
  obtain rfl : args = #[v0, v1, v2, v3] := by cases args; simp_all
  obtain ⟨rfl, rfl⟩ := trodVars_none hV
  have k0 := h0
  have lt0 : ∀ x ∈ p0, x.block < W.heap.size := by obtain ⟨m, hm⟩ := k0; exact DataW.trod_lt m _ _ _ hm
  have k1 := h1
  have lt1 : ∀ x ∈ p1, x.block < W.heap.size := by obtain ⟨m, hm⟩ := k1; exact DataW.trod_lt m _ _ _ hm
  have k2 := h2
  have lt2 : ∀ x ∈ p2, x.block < W.heap.size := by obtain ⟨m, hm⟩ := k2; exact DataW.trod_lt m _ _ _ hm
  have k3 := h3
  have lt3 : ∀ x ∈ p3, x.block < W.heap.size := by obtain ⟨m, hm⟩ := k3; exact DataW.trod_lt m _ _ _ hm
  have w0 := open_ck (hval 0 66 v0 rfl rfl) h0
  have w1 := open_st (hval 1 54 v1 rfl rfl) h1
  obtain ⟨a2, rfl, e2, f2, w2⟩ := open_int Try.underlying3 (hval 2 3 v2 rfl rfl) h2
  obtain ⟨a3, rfl, e3, f3, w3⟩ := open_int Try.underlying3 (hval 3 3 v3 rfl rfl) h3
  clear hA0 hval0
  refine (walk W v0 w0 v1 w1 a2 w2 a3 w3).mono fun e W' ⟨he, bel⟩ => ?_
  subst he
  exact ⟨_, rfl, _, _, _, [], _, [], hW', trodAll_mk1 (shut_bool Try.underlying4 _), (trodAll_cons_mk (Below.trod laidOut (by kernel_rfl) (of_decide_eq_true (by kernel_rfl)) k0 bel lt0) (trodAll_cons_mk (Below.trod laidOut (by kernel_rfl) (of_decide_eq_true (by kernel_rfl)) k1 bel lt1) (trodAll_cons_mk (Below.trod laidOut (by kernel_rfl) (of_decide_eq_true (by kernel_rfl)) k2 bel lt2) (trodAll_cons_mk (Below.trod laidOut (by kernel_rfl) (of_decide_eq_true (by kernel_rfl)) k3 bel lt3) trodAll_mk0)))), rfl, bel.frame _, fun h => by cases h⟩

theorem over : Rows.fnExactChoosePivotRow.holds Try.pinned (OpenSpec.ofChange Rows.fnExactChoosePivotSpec) :=
  OpenClaim.holds_of_wide 8 Try.f8 rfl rfl rfl rfl rfl rfl rfl ⟨rfl, rfl, rfl, rfl, rfl⟩ rfl rfl rfl rfl rfl (by kernel_rfl) Try.func8 (by kernel_rfl)
    (of_decide_eq_true (by kernel_rfl)) (by unfold Func.isWrapper; first | (rw [if_pos (by decide +kernel)]; kernel_rfl) | (rw [if_neg (by decide +kernel)]; exact ⟨rfl, rfl⟩))
    (fun os started H enc _ => lifted os started H enc)

/-- The statement. -/
theorem proved : Rows.FnExactChoosePivotSaid := over
#print axioms proved
end Go.Proofs.Ytkhhlifnbelckaa.fnExactChoosePivot
