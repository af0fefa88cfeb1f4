/- The law FnExactCrackWith holds: whatever the arguments, the call returns true, and they read afterwards as before. -/
import Derived.Test.YtdjhnamofmcmjaaRows
import Derived.WalkKit
import Derived.ProofKit
import Derived.OpenShut
import Derived.ShutString
import Derived.ChangeOld
import Derived.Below
import Derived.Test.YtdjhnamofmcmjaaZc
import Derived.Test.YtdjhnamofmcmjaaZa
namespace Go.Proofs.Ytdjhnamofmcmjaa.fnExactCrackWith
open Go.ChangeShapes Go.WideShapes Go.ChangeAt Go.RowKit
open Go.ChangeMaps (open_string shut_string)
set_option linter.unusedVariables false
set_option linter.unusedSimpArgs false

theorem own : ownKnob Try.prog.godebug = none := by kernel_rfl
theorem laidOut : laidOutB Try.prog = true := by kernel_rfl

set_option maxRecDepth 100000 in
set_option maxHeartbeats 40000000 in
theorem walk (w : World) (v0 : Value) (w0 : ∃ l r ps, Ck w w.heap.size v0 l r ps) (v1 : Value) (w1' : ∃ f t s : Int, v1 = .agg #[.int .i64 f, .int .i64 t, .int .i64 s] ∧ I64 f ∧ I64 t ∧ I64 s) (av : Int) (wv : (Lit.int .i64 av).wf = true) :
    Calls Try.prog 3 #[v0, v1, .int .i64 av] w fun e w' => e = .returned (.bool true) ∧ Below w.heap.size w w' := by
  obtain ⟨l, r, ps, hv⟩ := w0
  obtain ⟨p, t, s, rfl, -, -, -⟩ := w1'
  have hav := bounds_i64 wv
  clear wv
  obtain ⟨a1, c1, a2, c2, a3, c3, rfl, -⟩ := hv.form
  obtain ⟨wl, wr, wpl, wp⟩ := hv.wf
  have V := hide hv
  clear hv
  have X := hide (Kn.two w #[.slice a1 l.length c1, .slice a2 r.length c2, .slice a3 ps.length c3] #[.int .i64 p, .int .i64 t, .int .i64 s] 25 27)
  obtain ⟨wC, hwC⟩ : ∃ q, q = (w.alloc (.cells #[.slice a1 l.length c1, .slice a2 r.length c2, .slice a3 ps.length c3] 25)).alloc (.cells #[.int .i64 p, .int .i64 t, .int .i64 s] 27) := ⟨_, rfl⟩
  have N0 := hide (show wC.heap.size = w.heap.size + 1 + 1 by rw [hwC]; simp)
  rw [← hwC] at X
  have hsz := hide (fun (W : World) (h : Below w.heap.size w W) => szCracker_any _ l r ps 1048576 W w.heap.size (V.out.below h (Nat.le_refl _)) h.size (by omega) (by omega))
  obtain ⟨z1, hz1⟩ : ∃ z, z = szC (l.length + r.length + ps.length) 1048576 := ⟨_, rfl⟩
  rw [← hz1] at hsz
  unfold szC at hz1
  by_cases hneg : z1 < 0
  · have b0 : decide (z1 < 0) = true := by simp; omega
    clear hz1
    go_enter Try.func3, Try.ntmps3
    have c00 : wC.cell? ⟨w.heap.size, 0, none⟩ = some (.slice a1 l.length c1) := X.out.cell 0 0 rfl rfl
    have c01 : wC.cell? ⟨w.heap.size, 1, none⟩ = some (.slice a2 r.length c2) := X.out.cell 0 1 rfl rfl
    have c02 : wC.cell? ⟨w.heap.size, 2, none⟩ = some (.slice a3 ps.length c3) := X.out.cell 0 2 rfl rfl
    rw [hwC] at c00 c01 c02
    go_wp2_with fail
    rw [← hwC]
    clear hwC c00 c01 c02
    go_at_call 8
    refine (hsz.out _ X.out.below).mono ?_
    rintro e w1 ⟨rfl, hb⟩
    have X := hide (X.out.up hb)
    have N1 := hide hb.size
    clear hb
    go_wp2_with fail
    go_ret
    exact ⟨rfl, X.out.below⟩
  have hbig : l.length + r.length + ps.length ≤ 1048576 := by split at hz1 <;> omega
  have b0 : decide (z1 < 0) = false := by simp; omega
  clear hz1 hneg
  · skip
    have T := hide (fun (W : World) (h : Below w.heap.size w W) => toCracker_own _ l r ps W w.heap.size (V.out.below h (Nat.le_refl _)) h.size (by omega) (by omega) (by omega))
    have TA := hide (fun (W : World) (h : Below w.heap.size w W) => toCracker_any _ l r ps W w.heap.size (V.out.below h (Nat.le_refl _)) h.size (by omega) (by omega) (by omega))
    have hwf : Wf l r ps 1048576 := ⟨by omega, by omega, by omega, wl, wr, wp⟩
    have hI : I64 av := ⟨by omega, by omega⟩
    obtain ⟨hn1, hn2, hn3, hn4, hn5, hn6⟩ := cwF_wf (p := p) (t := t) (s := s) (v := av) hwf
    have HSP := hide (fun (W : World) (v : Value) (h : Ck W W.heap.size v l r ps) => show Calls Try.prog 9 #[v, .agg #[.int .i64 p, .int .i64 t, .int .i64 s], .int .i64 av] W (RetCW W (cwF l r ps p t s av) p t) from sCw_any v l r ps p t s av W h hwf hI)
    have HIP := hide (fun (W : World) (v : Value) (h : Ck W W.heap.size v l r ps) => show Calls Try.prog 12 #[v, .agg #[.int .i64 p, .int .i64 t, .int .i64 s], .int .i64 av] W (RetCW W (cwF l r ps p t s av) p t) from iCw_any v l r ps p t s av W h hwf hI)
    obtain ⟨S9, hS9⟩ : ∃ q, q = cwF l r ps p t s av := ⟨_, rfl⟩
    rw [← hS9] at HSP HIP
    rw [← hS9] at hn1 hn2 hn3 hn4 hn5 hn6
    clear hS9 hwf
    have CK := hide (fun (W : World) (x y z : Value) (lo hi p1 q1 p2 q2 p3 q3 : Nat) (h : OC W x y z S9.l S9.r S9.ps lo hi p1 q1 p2 q2 p3 q3) => h.ck hn4 hn5 (by omega) hn6)
    have CK0 := hide (fun (W : World) (x y z : Value) (lo hi p1 q1 p2 q2 p3 q3 : Nat) (h : OC W x y z l r ps lo hi p1 q1 p2 q2 p3 q3) => h.ck wl wr (by omega) wp)
    obtain ⟨M0, hM0⟩ : ∃ M : Int, M = 1 + (l.length : Int) + (r.length : Int) + 2 * (ps.length : Int) := ⟨_, rfl⟩
    have HM0 := hide (fun (W : World) (x y z : Value) (lo hi p1 q1 p2 q2 p3 q3 : Nat) (h : OC W x y z l r ps lo hi p1 q1 p2 q2 p3 q3) => show Calls Try.prog 15 #[.agg #[x, y, z], .int .i64 1] W (RetMC W x y z lo hi p1 q1 p2 q2 p3 q3 M0 (mkI 1 l.length) (mkI (1 + l.length) r.length) (mkP (1 + l.length + r.length) ps.length)) by rw [hM0]; exact markCracker_oc x y z l r ps lo hi p1 q1 p2 q2 p3 q3 1 W h (by omega) (by omega))
    have hK : decide (M0 < 0) = false := by simp; omega
    obtain ⟨M, hM⟩ : ∃ M : Int, M = 1 + (S9.l.length : Int) + (S9.r.length : Int) + 2 * (S9.ps.length : Int) := ⟨_, rfl⟩
    have HMk := hide (fun (W : World) (x y z : Value) (lo hi p1 q1 p2 q2 p3 q3 : Nat) (h : OC W x y z S9.l S9.r S9.ps lo hi p1 q1 p2 q2 p3 q3) => show Calls Try.prog 15 #[.agg #[x, y, z], .int .i64 1] W (RetMC W x y z lo hi p1 q1 p2 q2 p3 q3 M (mkI 1 S9.l.length) (mkI (1 + S9.l.length) S9.r.length) (mkP (1 + S9.l.length + S9.r.length) S9.ps.length)) by rw [hM]; exact markCracker_oc x y z S9.l S9.r S9.ps lo hi p1 q1 p2 q2 p3 q3 1 W h (by omega) (by omega))
    have HHd := hide (fun (W : World) (x y z : Value) (lo hi p1 q1 p2 q2 p3 q3 : Nat) (h : OC W x y z (mkI 1 S9.l.length) (mkI (1 + S9.l.length) S9.r.length) (mkP (1 + S9.l.length + S9.r.length) S9.ps.length) lo hi p1 q1 p2 q2 p3 q3) => show Calls Try.prog 16 #[.agg #[x, y, z], .int .i64 1] W (RetI1 W M) by rw [hM]; exact heldCracker_oc x y z S9.l.length S9.r.length S9.ps.length lo hi p1 q1 p2 q2 p3 q3 1 W h (by omega) (by omega))
    have hMn : decide (M < 0) = false := by simp; omega
    have hMM : (M != M) = false := by simp
    have hTn : ((S9.n : Int) != (S9.n : Int)) = false := by simp
    clear hM0 hM hn1 hn2 hn3 hn4 hn5 hn6 wl wr wpl wp hav hI
    go_enter Try.func3, Try.ntmps3
    have c00 : wC.cell? ⟨w.heap.size, 0, none⟩ = some (.slice a1 l.length c1) := X.out.cell 0 0 rfl rfl
    have c01 : wC.cell? ⟨w.heap.size, 1, none⟩ = some (.slice a2 r.length c2) := X.out.cell 0 1 rfl rfl
    have c02 : wC.cell? ⟨w.heap.size, 2, none⟩ = some (.slice a3 ps.length c3) := X.out.cell 0 2 rfl rfl
    rw [hwC] at c00 c01 c02
    go_wp2_with fail
    rw [← hwC]
    clear hwC c00 c01 c02
    go_at_call 8
    refine (hsz.out _ X.out.below).mono ?_
    rintro e w1 ⟨rfl, hb⟩
    have X := hide (X.out.up hb)
    have N1 := hide hb.size
    clear hb
    have c00 : w1.cell? ⟨w.heap.size, 0, none⟩ = some (.slice a1 l.length c1) := X.out.cell 0 0 rfl rfl
    have c01 : w1.cell? ⟨w.heap.size, 1, none⟩ = some (.slice a2 r.length c2) := X.out.cell 0 1 rfl rfl
    have c02 : w1.cell? ⟨w.heap.size, 2, none⟩ = some (.slice a3 ps.length c3) := X.out.cell 0 2 rfl rfl
    have c10 : w1.cell? ⟨w.heap.size + 1, 0, none⟩ = some (.int .i64 p) := X.out.cell 1 0 rfl rfl
    have c11 : w1.cell? ⟨w.heap.size + 1, 1, none⟩ = some (.int .i64 t) := X.out.cell 1 1 rfl rfl
    have c12 : w1.cell? ⟨w.heap.size + 1, 2, none⟩ = some (.int .i64 s) := X.out.cell 1 2 rfl rfl
    go_upto_region 5 with fail
    have X1 := X
    go_cut [8, 9, 10] (fun q1 q2  q4 wx => ∃ (W' : World) (ga gb lo hi p1 q1' p2 q2' p3 q3' kA1 kA2 kA3 : Nat) (gA1 gA2 gA3 : Option Addr), W' = wx ∧ q1 = .pointer (some ⟨ga, 0, none⟩) ∧ q2 = .pointer (some ⟨gb, 0, none⟩) ∧ q4 = .int .i64 (S9.n : Int) ∧ Hid (Kn w1 wx [(ga, #[.slice gA1 S9.l.length kA1, .slice gA2 S9.r.length kA2, .slice gA3 S9.ps.length kA3], 31), (gb, #[.int .i64 p, .int .i64 t, .int .i64 S9.s], 32)]) ∧ Hid (OC wx (.slice gA1 S9.l.length kA1) (.slice gA2 S9.r.length kA2) (.slice gA3 S9.ps.length kA3) S9.l S9.r S9.ps lo hi p1 q1' p2 q2' p3 q3') ∧ Hid (w1.heap.size ≤ lo) ∧ Hid (ga < lo ∨ hi ≤ ga) ∧ Hid (gb < lo ∨ hi ≤ gb))
    case first => as_aux_lemma =>
      have HX1 := hide (fun (W' : World) (M : List (Nat × Array Value × TypeId)) (h : Kd [] w1 W' M) => X1.out.up (below_nil h))
      have KS := hide (fun (w' : World) (M : List (Nat × Array Value × TypeId)) (h : Kd [] w1 w' M) => show w'.cell? ⟨w.heap.size, 0, none⟩ = some (.slice a1 l.length c1) ∧ w'.cell? ⟨w.heap.size, 1, none⟩ = some (.slice a2 r.length c2) ∧ w'.cell? ⟨w.heap.size, 2, none⟩ = some (.slice a3 ps.length c3) ∧ w'.cell? ⟨w.heap.size + 1, 0, none⟩ = some (.int .i64 p) ∧ w'.cell? ⟨w.heap.size + 1, 1, none⟩ = some (.int .i64 t) ∧ w'.cell? ⟨w.heap.size + 1, 2, none⟩ = some (.int .i64 s) from ⟨(HX1.out _ _ h).cell 0 0 rfl rfl, (HX1.out _ _ h).cell 0 1 rfl rfl, (HX1.out _ _ h).cell 0 2 rfl rfl, (HX1.out _ _ h).cell 1 0 rfl rfl, (HX1.out _ _ h).cell 1 1 rfl rfl, (HX1.out _ _ h).cell 1 2 rfl rfl⟩)
      have F1 := hide (fun (W' : World) (u1 u2 u3 : Option Addr) (v1 v2 v3 : Nat) (h : Ck W' W'.heap.size (.agg #[.slice u1 l.length v1, .slice u2 r.length v2, .slice u3 ps.length v3]) l r ps) => show Bl (fun W => Ck W W.heap.size (.agg #[.slice u1 l.length v1, .slice u2 r.length v2, .slice u3 ps.length v3]) l r ps) W' from fun W2 hb2 => h.up hb2)
      have Y0 := hide (Kw.start (F := fun W => True) [] w1 (fun _ _ => True.intro))
      have F3 := hide (fun (W' : World) (x y z : Value) (lo hi n1 h1 n2 h2 n3 h3 : Nat) (O : OC W' x y z S9.l S9.r S9.ps lo hi n1 h1 n2 h2 n3 h3) => show Bl (fun W => OC W x y z S9.l S9.r S9.ps lo hi n1 h1 n2 h2 n3 h3) W' from fun W2 hb2 => O.below hb2)
      have HLO := hide (fun (W' : World) (M : List (Nat × Array Value × TypeId)) (h : Kd [] w1 W' M) (lo : Nat) (hl : W'.heap.size ≤ lo) => show w1.heap.size ≤ lo ∧ ∀ e ∈ M, e.1 < lo from ⟨Nat.le_trans (below_nil h).size hl, fun e he => Nat.lt_of_lt_of_le (Array.getElem?_eq_some_iff.1 (h.hold e he)).1 hl⟩)
      have Y := hide (Y0.out.drew)
      clear X X1 T HM0 hK HMk HHd hMn hMM CK  HIP CK0
      clear c00 c01 c02 c10 c11 c12
      obtain ⟨c00, c01, c02, c10, c11, c12⟩ := KS.out _ _ Y.out.kd
      go_region_held3 (fun w' => w'.cell? ⟨w.heap.size, 0, none⟩ = some (.slice a1 l.length c1) ∧ w'.cell? ⟨w.heap.size, 1, none⟩ = some (.slice a2 r.length c2) ∧ w'.cell? ⟨w.heap.size, 2, none⟩ = some (.slice a3 ps.length c3) ∧ w'.cell? ⟨w.heap.size + 1, 0, none⟩ = some (.int .i64 p) ∧ w'.cell? ⟨w.heap.size + 1, 1, none⟩ = some (.int .i64 t) ∧ w'.cell? ⟨w.heap.size + 1, 2, none⟩ = some (.int .i64 s)) (first | with_reducible exact KS.out _ _ Y.out.kd | with_reducible exact KS.out _ _ (Y.out.alloc _ _).kd | with_reducible exact KS.out _ _ ((Y.out.alloc _ _).alloc _ _).kd | with_reducible exact KS.out _ _ (Y0.out.alloc _ _).drew.kd | with_reducible exact KS.out _ _ ((Y0.out.alloc _ _).alloc _ _).drew.kd | with_reducible exact KS.out _ _ (Y.out.kd.put3c 0 rfl _ _ _) | with_reducible exact KS.out _ _ (Y.out.kd.put3c 1 rfl _ _ _) | with_reducible exact KS.out _ _ ((Y.out.kd.put3c 0 rfl _ _ _).put3c 1 rfl _ _ _) | with_reducible exact KS.out _ _ ((Y.out.kd.put3c 1 rfl _ _ _).put3c 0 rfl _ _ _) | with_reducible exact KS.out _ _ ((Y.out.kd.put3c 0 rfl _ _ _).alloc _ _) | go_keep) (first
        | (go_at_call 10; refine (TA.out _ (by first | with_reducible exact (HX1.out _ _ Y.out.kd).below | with_reducible exact (HX1.out _ _ (Y.out.alloc _ _).kd).below | with_reducible exact (HX1.out _ _ ((Y.out.alloc _ _).alloc _ _).kd).below | with_reducible exact (HX1.out _ _ (Y0.out.alloc _ _).drew.kd).below | with_reducible exact (HX1.out _ _ ((Y0.out.alloc _ _).alloc _ _).drew.kd).below)).mono ?_; rintro e wq ⟨u1, v1, u2, v2, u3, v3, rfl, I, hb⟩; (first | replace Y := hide (by with_reducible exact Y.out.next hb (F1.out _ _ _ _ _ _ _ I)) | replace Y := hide (by with_reducible exact (Y.out.alloc _ _).next hb (F1.out _ _ _ _ _ _ _ I)) | replace Y := hide (by with_reducible exact ((Y.out.alloc _ _).alloc _ _).next hb (F1.out _ _ _ _ _ _ _ I)) | replace Y := hide (by with_reducible exact (Y0.out.alloc _ _).drew.next hb (F1.out _ _ _ _ _ _ _ I)) | replace Y := hide (by with_reducible exact ((Y0.out.alloc _ _).alloc _ _).drew.next hb (F1.out _ _ _ _ _ _ _ I))); clear I; clear hb c00 c01 c02 c10 c11 c12; obtain ⟨c00, c01, c02, c10, c11, c12⟩ := KS.out _ _ Y.out.kd; (try simp only [World.size_alloc, World.size_drew, List.cons_append, List.nil_append] at Y); (first | clear e00 e01 e02 f00 f01 f02 f0l | skip); (first | (have e00 := Y.out.kd.cell 0 0 rfl rfl; have e01 := Y.out.kd.cell 0 1 rfl rfl; have e02 := Y.out.kd.cell 0 2 rfl rfl; have f00 := Y.out.kd.free 0 0 rfl; have f01 := Y.out.kd.free 0 1 rfl; have f02 := Y.out.kd.free 0 2 rfl; have f0l := Y.out.kd.lt 0 rfl) | skip); (first | clear e10 e11 e12 f10 f11 f12 f1l n01 n10 | skip); (first | (have e10 := Y.out.kd.cell 1 0 rfl rfl; have e11 := Y.out.kd.cell 1 1 rfl rfl; have e12 := Y.out.kd.cell 1 2 rfl rfl; have f10 := Y.out.kd.free 1 0 rfl; have f11 := Y.out.kd.free 1 1 rfl; have f12 := Y.out.kd.free 1 2 rfl; have f1l := Y.out.kd.lt 1 rfl; have n01 := Y.out.kd.ne 0 1 rfl rfl (by decide); have n10 := Y.out.kd.ne 1 0 rfl rfl (by decide); (try simp only [World.size_alloc, World.size_drew] at e10 e11 e12 f10 f11 f12 f1l n01 n10)) | skip))
        | (go_at_call 11; refine (toSettings_any _ _ _ _).mono ?_; rintro e wq ⟨rfl, hb⟩; (first | replace Y := hide (by with_reducible exact Y.out.up hb) | replace Y := hide (by with_reducible exact (Y.out.alloc _ _).up hb) | replace Y := hide (by with_reducible exact ((Y.out.alloc _ _).alloc _ _).up hb) | replace Y := hide (by with_reducible exact (Y0.out.alloc _ _).drew.up hb) | replace Y := hide (by with_reducible exact ((Y0.out.alloc _ _).alloc _ _).drew.up hb)); clear hb c00 c01 c02 c10 c11 c12; obtain ⟨c00, c01, c02, c10, c11, c12⟩ := KS.out _ _ Y.out.kd; (try simp only [World.size_alloc, World.size_drew, List.cons_append, List.nil_append] at Y); (first | clear e00 e01 e02 f00 f01 f02 f0l | skip); (first | (have e00 := Y.out.kd.cell 0 0 rfl rfl; have e01 := Y.out.kd.cell 0 1 rfl rfl; have e02 := Y.out.kd.cell 0 2 rfl rfl; have f00 := Y.out.kd.free 0 0 rfl; have f01 := Y.out.kd.free 0 1 rfl; have f02 := Y.out.kd.free 0 2 rfl; have f0l := Y.out.kd.lt 0 rfl) | skip); (first | clear e10 e11 e12 f10 f11 f12 f1l n01 n10 | skip); (first | (have e10 := Y.out.kd.cell 1 0 rfl rfl; have e11 := Y.out.kd.cell 1 1 rfl rfl; have e12 := Y.out.kd.cell 1 2 rfl rfl; have f10 := Y.out.kd.free 1 0 rfl; have f11 := Y.out.kd.free 1 1 rfl; have f12 := Y.out.kd.free 1 2 rfl; have f1l := Y.out.kd.lt 1 rfl; have n01 := Y.out.kd.ne 0 1 rfl rfl (by decide); have n10 := Y.out.kd.ne 1 0 rfl rfl (by decide); (try simp only [World.size_alloc, World.size_drew] at e10 e11 e12 f10 f11 f12 f1l n01 n10)) | skip))
        | (go_at_call 9; refine (HSP.out _ _ (by first | with_reducible exact Y.out.now | with_reducible exact (Y.out.alloc _ _).now | with_reducible exact ((Y.out.alloc _ _).alloc _ _).now | with_reducible exact (Y0.out.alloc _ _).drew.now | with_reducible exact ((Y0.out.alloc _ _).alloc _ _).drew.now)).mono ?_; rintro e wq ⟨x', y', z', lo, hi, p1, q1', p2, q2', p3, q3', rfl, hlo, hhi, O, hb⟩; obtain ⟨gA1, kA1, rfl⟩ := O.x.form; obtain ⟨gA2, kA2, rfl⟩ := O.y.form; obtain ⟨gA3, kA3, rfl⟩ := O.z.own.form; (first | have HL := (by with_reducible exact HLO.out _ _ Y.out.kd _ hlo) | have HL := (by with_reducible exact HLO.out _ _ (Y.out.alloc _ _).kd _ hlo) | have HL := (by with_reducible exact HLO.out _ _ ((Y.out.alloc _ _).alloc _ _).kd _ hlo) | have HL := (by with_reducible exact HLO.out _ _ (Y0.out.alloc _ _).drew.kd _ hlo) | have HL := (by with_reducible exact HLO.out _ _ ((Y0.out.alloc _ _).alloc _ _).drew.kd _ hlo)); have HR := hide HL.1; have HM := hide HL.2; clear HL hlo hhi; (first | replace Y := hide (by with_reducible exact Y.out.next hb (F3.out _ _ _ _ _ _ _ _ _ _ _ _ O)) | replace Y := hide (by with_reducible exact (Y.out.alloc _ _).next hb (F3.out _ _ _ _ _ _ _ _ _ _ _ _ O)) | replace Y := hide (by with_reducible exact ((Y.out.alloc _ _).alloc _ _).next hb (F3.out _ _ _ _ _ _ _ _ _ _ _ _ O)) | replace Y := hide (by with_reducible exact (Y0.out.alloc _ _).drew.next hb (F3.out _ _ _ _ _ _ _ _ _ _ _ _ O)) | replace Y := hide (by with_reducible exact ((Y0.out.alloc _ _).alloc _ _).drew.next hb (F3.out _ _ _ _ _ _ _ _ _ _ _ _ O))); clear O; clear hb c00 c01 c02 c10 c11 c12; obtain ⟨c00, c01, c02, c10, c11, c12⟩ := KS.out _ _ Y.out.kd; (try simp only [World.size_alloc, World.size_drew, List.cons_append, List.nil_append] at Y); (first | clear e00 e01 e02 f00 f01 f02 f0l | skip); (first | (have e00 := Y.out.kd.cell 0 0 rfl rfl; have e01 := Y.out.kd.cell 0 1 rfl rfl; have e02 := Y.out.kd.cell 0 2 rfl rfl; have f00 := Y.out.kd.free 0 0 rfl; have f01 := Y.out.kd.free 0 1 rfl; have f02 := Y.out.kd.free 0 2 rfl; have f0l := Y.out.kd.lt 0 rfl) | skip); (first | clear e10 e11 e12 f10 f11 f12 f1l n01 n10 | skip); (first | (have e10 := Y.out.kd.cell 1 0 rfl rfl; have e11 := Y.out.kd.cell 1 1 rfl rfl; have e12 := Y.out.kd.cell 1 2 rfl rfl; have f10 := Y.out.kd.free 1 0 rfl; have f11 := Y.out.kd.free 1 1 rfl; have f12 := Y.out.kd.free 1 2 rfl; have f1l := Y.out.kd.lt 1 rfl; have n01 := Y.out.kd.ne 0 1 rfl rfl (by decide); have n10 := Y.out.kd.ne 1 0 rfl rfl (by decide); (try simp only [World.size_alloc, World.size_drew] at e10 e11 e12 f10 f11 f12 f1l n01 n10)) | skip); (try simp only [World.size_alloc, World.size_drew, List.cons_append, List.nil_append] at HM)))
      all_goals go_wp2_with fail
      all_goals go_meet
      all_goals first
        | (have Z := (Y.out.kd.alloc #[.slice gA1 S9.l.length kA1, .slice gA2 S9.r.length kA2, .slice gA3 S9.ps.length kA3] 31).alloc #[.int .i64 p, .int .i64 t, .int .i64 S9.s] 32; simp only [World.size_alloc, World.size_drew, World.size_setCell, List.set_cons_zero, List.set_cons_succ, List.cons_append, List.nil_append] at Z; have Zk := Z.kn; refine ⟨_, _, _, lo, hi, p1, q1', p2, q2', p3, q3', kA1, kA2, kA3, gA1, gA2, gA3, rfl, rfl, rfl, rfl, (by with_reducible exact hide Zk), ?_, HR.out, ?_, ?_⟩; (exact (Y.out.hold _ (below2 _ _ _))); (exact (.inr (Nat.le_trans (Y.out.now.top.2) (by simp)))); (exact (.inr (Nat.le_trans (Y.out.now.top.2) (by simp)))))
        | (have Z := (Y.out.kd.alloc #[.int .i64 p, .int .i64 t, .int .i64 S9.s] 32).alloc #[.slice gA1 S9.l.length kA1, .slice gA2 S9.r.length kA2, .slice gA3 S9.ps.length kA3] 31; simp only [World.size_alloc, World.size_drew, World.size_setCell, List.set_cons_zero, List.set_cons_succ, List.cons_append, List.nil_append] at Z; have Zk := Z.kn.swap; refine ⟨_, _, _, lo, hi, p1, q1', p2, q2', p3, q3', kA1, kA2, kA3, gA1, gA2, gA3, rfl, rfl, rfl, rfl, (by with_reducible exact hide Zk), ?_, HR.out, ?_, ?_⟩; (exact (Y.out.hold _ (below2 _ _ _))); (exact (.inr (Nat.le_trans (Y.out.now.top.2) (by simp)))); (exact (.inr (Nat.le_trans (Y.out.now.top.2) (by simp)))))
        | (have Z := (Y.out.kd.put3c 0 rfl (.slice gA1 S9.l.length kA1) (.slice gA2 S9.r.length kA2) (.slice gA3 S9.ps.length kA3)).alloc #[.int .i64 p, .int .i64 t, .int .i64 S9.s] 32; (try simp only [World.size_alloc, World.size_drew, World.size_setCell, List.set_cons_zero, List.set_cons_succ, List.cons_append, List.nil_append] at Z); have Zk := Z.kn; refine ⟨_, _, _, lo, hi, p1, q1', p2, q2', p3, q3', kA1, kA2, kA3, gA1, gA2, gA3, rfl, rfl, rfl, rfl, (by with_reducible exact hide Zk), ?_, HR.out, ?_, ?_⟩; (exact (Y.out.now.seg (seg3 _ _ _ _ _) (.inr (HM.out _ (List.mem_cons_self ..)))).below (below1 _ _)); (exact .inl (HM.out _ (List.mem_cons_self ..))); (exact (.inr (Nat.le_trans (Y.out.now.top.2) (by simp)))))
        | (have Z := (Y.out.kd.put3c 0 rfl (.int .i64 p) (.int .i64 t) (.int .i64 S9.s)).alloc #[.slice gA1 S9.l.length kA1, .slice gA2 S9.r.length kA2, .slice gA3 S9.ps.length kA3] 31; (try simp only [World.size_alloc, World.size_drew, World.size_setCell, List.set_cons_zero, List.set_cons_succ, List.cons_append, List.nil_append] at Z); have Zk := Z.kn.swap; refine ⟨_, _, _, lo, hi, p1, q1', p2, q2', p3, q3', kA1, kA2, kA3, gA1, gA2, gA3, rfl, rfl, rfl, rfl, (by with_reducible exact hide Zk), ?_, HR.out, ?_, ?_⟩; (exact (Y.out.now.seg (seg3 _ _ _ _ _) (.inr (HM.out _ (List.mem_cons_self ..)))).below (below1 _ _)); (exact (.inr (Nat.le_trans (Y.out.now.top.2) (by simp)))); (exact .inl (HM.out _ (List.mem_cons_self ..))))
        | (have Z := (Y.out.kd.put3c 0 rfl (.slice gA1 S9.l.length kA1) (.slice gA2 S9.r.length kA2) (.slice gA3 S9.ps.length kA3)).put3c 1 rfl (.int .i64 p) (.int .i64 t) (.int .i64 S9.s); (try simp only [World.size_alloc, World.size_drew, World.size_setCell, List.set_cons_zero, List.set_cons_succ, List.cons_append, List.nil_append] at Z); have Zk := Z.kn; refine ⟨_, _, _, lo, hi, p1, q1', p2, q2', p3, q3', kA1, kA2, kA3, gA1, gA2, gA3, rfl, rfl, rfl, rfl, (by with_reducible exact hide Zk), ?_, HR.out, ?_, ?_⟩; (exact (Y.out.now.seg (seg3 _ _ _ _ _) (.inr (HM.out _ (List.mem_cons_self ..)))).seg (seg3 _ _ _ _ _) (.inr (HM.out _ (List.mem_cons_of_mem _ (List.mem_cons_self ..))))); (exact .inl (HM.out _ (List.mem_cons_self ..))); (exact .inl (HM.out _ (List.mem_cons_of_mem _ (List.mem_cons_self ..)))))
        | (have Z := (Y.out.kd.put3c 1 rfl (.slice gA1 S9.l.length kA1) (.slice gA2 S9.r.length kA2) (.slice gA3 S9.ps.length kA3)).put3c 0 rfl (.int .i64 p) (.int .i64 t) (.int .i64 S9.s); (try simp only [World.size_alloc, World.size_drew, World.size_setCell, List.set_cons_zero, List.set_cons_succ, List.cons_append, List.nil_append] at Z); have Zk := Z.kn.swap; refine ⟨_, _, _, lo, hi, p1, q1', p2, q2', p3, q3', kA1, kA2, kA3, gA1, gA2, gA3, rfl, rfl, rfl, rfl, (by with_reducible exact hide Zk), ?_, HR.out, ?_, ?_⟩; (exact (Y.out.now.seg (seg3 _ _ _ _ _) (.inr (HM.out _ (List.mem_cons_of_mem _ (List.mem_cons_self ..))))).seg (seg3 _ _ _ _ _) (.inr (HM.out _ (List.mem_cons_self ..)))); (exact .inl (HM.out _ (List.mem_cons_of_mem _ (List.mem_cons_self ..)))); (exact .inl (HM.out _ (List.mem_cons_self ..))))
        | fail "fin"
    case rest =>
    obtain ⟨w2, gaA, gbA, loA, hiA, pA1, qA1, pA2, qA2, pA3, qA3, kA1, kA2, kA3, gA1, gA2, gA3, rfl, rfl, rfl, rfl, Y, CA, HAl, NAa, NAb⟩ := hcut
    have hbY := Y.out.below
    have NQA := hide hbY.size
    have NLA := hide (Y.out.low 0 rfl)
    have NTA := hide (Y.out.lt 0 rfl)
    have NMA := hide (Y.out.low 1 rfl)
    have NUA := hide (Y.out.lt 1 rfl)
    have X := hide (Kn.join X1.out Y.out)
    simp only [List.cons_append, List.nil_append] at X
    clear hbY Y X1 c00 c01 c02 c10 c11 c12
    have NOA := hide CA.out.top.2
    have c00 : w2.cell? ⟨w.heap.size, 0, none⟩ = some (.slice a1 l.length c1) := X.out.cell 0 0 rfl rfl
    have c01 : w2.cell? ⟨w.heap.size, 1, none⟩ = some (.slice a2 r.length c2) := X.out.cell 0 1 rfl rfl
    have c02 : w2.cell? ⟨w.heap.size, 2, none⟩ = some (.slice a3 ps.length c3) := X.out.cell 0 2 rfl rfl
    have c10 : w2.cell? ⟨w.heap.size + 1, 0, none⟩ = some (.int .i64 p) := X.out.cell 1 0 rfl rfl
    have c11 : w2.cell? ⟨w.heap.size + 1, 1, none⟩ = some (.int .i64 t) := X.out.cell 1 1 rfl rfl
    have c12 : w2.cell? ⟨w.heap.size + 1, 2, none⟩ = some (.int .i64 s) := X.out.cell 1 2 rfl rfl
    have c20 : w2.cell? ⟨gaA, 0, none⟩ = some (.slice gA1 S9.l.length kA1) := X.out.cell 2 0 rfl rfl
    have c21 : w2.cell? ⟨gaA, 1, none⟩ = some (.slice gA2 S9.r.length kA2) := X.out.cell 2 1 rfl rfl
    have c22 : w2.cell? ⟨gaA, 2, none⟩ = some (.slice gA3 S9.ps.length kA3) := X.out.cell 2 2 rfl rfl
    have c30 : w2.cell? ⟨gbA, 0, none⟩ = some (.int .i64 p) := X.out.cell 3 0 rfl rfl
    have c31 : w2.cell? ⟨gbA, 1, none⟩ = some (.int .i64 t) := X.out.cell 3 1 rfl rfl
    have c32 : w2.cell? ⟨gbA, 2, none⟩ = some (.int .i64 S9.s) := X.out.cell 3 2 rfl rfl
    go_wp2_with fail
    clear c00 c01 c02 c10 c11 c12 c20 c21 c22 c30 c31 c32
    go_at_call 10
    refine (T.out _ X.out.below).mono ?_
    rintro e w3 ⟨vx, lox, rfl, hlo, OX, hb⟩
    obtain ⟨x, y, z, m1, m2, rfl, ox1, ox2, ox3⟩ := OX
    have CX := OC.of_ock ox1 ox2 ox3
    obtain ⟨gX1, kX1, rfl⟩ := CX.x.form
    obtain ⟨gX2, kX2, rfl⟩ := CX.y.form
    obtain ⟨gX3, kX3, rfl⟩ := CX.z.own.form
    have HXl := hide hlo
    clear hlo ox1 ox2 ox3
    have X := hide (X.out.up hb)
    have CA := hide (CA.out.below hb)
    have N11 := hide hb.size
    clear hb
    obtain ⟨loX, hiX, pX1, qX1, pX2, qX2, pX3, qX3, CX, HXl⟩ : ∃ (loX hiX pX1 qX1 pX2 qX2 pX3 qX3 : Nat), OC w3 (.slice gX1 l.length kX1) (.slice gX2 r.length kX2) (.slice gX3 ps.length kX3) l r ps loX hiX pX1 qX1 pX2 qX2 pX3 qX3 ∧ w2.heap.size ≤ loX := ⟨_, _, _, _, _, _, _, _, CX, HXl.out⟩
    have HXl := hide HXl
    have NOX := hide CX.top.2
    have CX := hide CX
    have hbl := below1 w3 (.cells #[.slice gX1 l.length kX1, .slice gX2 r.length kX2, .slice gX3 ps.length kX3] 31)
    have X := hide (X.out.alloc #[.slice gX1 l.length kX1, .slice gX2 r.length kX2, .slice gX3 ps.length kX3] 31)
    have CA := hide (CA.out.below hbl)
    have CX := hide (CX.out.below hbl)
    clear hbl
    obtain ⟨w4, hw4⟩ : ∃ q, q = w3.alloc (.cells #[.slice gX1 l.length kX1, .slice gX2 r.length kX2, .slice gX3 ps.length kX3] 31) := ⟨_, rfl⟩
    obtain ⟨b4, hb4⟩ : ∃ q, q = w3.heap.size := ⟨_, rfl⟩
    have N14 := hide (show b4 = w3.heap.size ∧ w4.heap.size = w3.heap.size + 1 by rw [hw4, hb4]; simp)
    rw [← hw4] at X CA CX
    rw [← hb4] at X
    simp only [List.cons_append, List.nil_append] at X
    have c00 : w4.cell? ⟨w.heap.size, 0, none⟩ = some (.slice a1 l.length c1) := X.out.cell 0 0 rfl rfl
    have c01 : w4.cell? ⟨w.heap.size, 1, none⟩ = some (.slice a2 r.length c2) := X.out.cell 0 1 rfl rfl
    have c02 : w4.cell? ⟨w.heap.size, 2, none⟩ = some (.slice a3 ps.length c3) := X.out.cell 0 2 rfl rfl
    have c10 : w4.cell? ⟨w.heap.size + 1, 0, none⟩ = some (.int .i64 p) := X.out.cell 1 0 rfl rfl
    have c11 : w4.cell? ⟨w.heap.size + 1, 1, none⟩ = some (.int .i64 t) := X.out.cell 1 1 rfl rfl
    have c12 : w4.cell? ⟨w.heap.size + 1, 2, none⟩ = some (.int .i64 s) := X.out.cell 1 2 rfl rfl
    have c20 : w4.cell? ⟨gaA, 0, none⟩ = some (.slice gA1 S9.l.length kA1) := X.out.cell 2 0 rfl rfl
    have c21 : w4.cell? ⟨gaA, 1, none⟩ = some (.slice gA2 S9.r.length kA2) := X.out.cell 2 1 rfl rfl
    have c22 : w4.cell? ⟨gaA, 2, none⟩ = some (.slice gA3 S9.ps.length kA3) := X.out.cell 2 2 rfl rfl
    have c30 : w4.cell? ⟨gbA, 0, none⟩ = some (.int .i64 p) := X.out.cell 3 0 rfl rfl
    have c31 : w4.cell? ⟨gbA, 1, none⟩ = some (.int .i64 t) := X.out.cell 3 1 rfl rfl
    have c32 : w4.cell? ⟨gbA, 2, none⟩ = some (.int .i64 S9.s) := X.out.cell 3 2 rfl rfl
    have c40 : w4.cell? ⟨b4, 0, none⟩ = some (.slice gX1 l.length kX1) := X.out.cell 4 0 rfl rfl
    have c41 : w4.cell? ⟨b4, 1, none⟩ = some (.slice gX2 r.length kX2) := X.out.cell 4 1 rfl rfl
    have c42 : w4.cell? ⟨b4, 2, none⟩ = some (.slice gX3 ps.length kX3) := X.out.cell 4 2 rfl rfl
    rw [hw4] at c00 c01 c02 c10 c11 c12 c20 c21 c22 c30 c31 c32 c40 c41 c42
    go_upto_region 7 with fail
    rw [← hw4]
    try rw [← hb4]
    rw [← hw4] at c00 c01 c02 c10 c11 c12 c20 c21 c22 c30 c31 c32 c40 c41 c42
    clear hw4 hb4
    have X1 := X
    go_cut [12, 13, 14] (fun q1 q2  q4 wx => ∃ (W' : World) (ga gb lo hi p1 q1' p2 q2' p3 q3' kG1 kG2 kG3 : Nat) (gG1 gG2 gG3 : Option Addr), W' = wx ∧ q1 = .pointer (some ⟨ga, 0, none⟩) ∧ q2 = .pointer (some ⟨gb, 0, none⟩) ∧ q4 = .int .i64 (S9.n : Int) ∧ Hid (Kn w4 wx [(ga, #[.slice gG1 S9.l.length kG1, .slice gG2 S9.r.length kG2, .slice gG3 S9.ps.length kG3], 31), (gb, #[.int .i64 p, .int .i64 t, .int .i64 S9.s], 32)]) ∧ Hid (OC wx (.slice gG1 S9.l.length kG1) (.slice gG2 S9.r.length kG2) (.slice gG3 S9.ps.length kG3) S9.l S9.r S9.ps lo hi p1 q1' p2 q2' p3 q3') ∧ Hid (w4.heap.size ≤ lo) ∧ Hid (ga < lo ∨ hi ≤ ga) ∧ Hid (gb < lo ∨ hi ≤ gb))
    case first => as_aux_lemma =>
      have HX1 := hide (fun (W' : World) (M : List (Nat × Array Value × TypeId)) (h : Kd [] w4 W' M) => X1.out.up (below_nil h))
      have KS := hide (fun (w' : World) (M : List (Nat × Array Value × TypeId)) (h : Kd [] w4 w' M) => show w'.cell? ⟨w.heap.size + 1, 0, none⟩ = some (.int .i64 p) ∧ w'.cell? ⟨w.heap.size + 1, 1, none⟩ = some (.int .i64 t) ∧ w'.cell? ⟨w.heap.size + 1, 2, none⟩ = some (.int .i64 s) ∧ w'.cell? ⟨b4, 0, none⟩ = some (.slice gX1 l.length kX1) ∧ w'.cell? ⟨b4, 1, none⟩ = some (.slice gX2 r.length kX2) ∧ w'.cell? ⟨b4, 2, none⟩ = some (.slice gX3 ps.length kX3) from ⟨(HX1.out _ _ h).cell 1 0 rfl rfl, (HX1.out _ _ h).cell 1 1 rfl rfl, (HX1.out _ _ h).cell 1 2 rfl rfl, (HX1.out _ _ h).cell 4 0 rfl rfl, (HX1.out _ _ h).cell 4 1 rfl rfl, (HX1.out _ _ h).cell 4 2 rfl rfl⟩)
      have CX1 := CX
      have Y0 := hide (Kw.start (F := fun W => OC W (.slice gX1 l.length kX1) (.slice gX2 r.length kX2) (.slice gX3 ps.length kX3) l r ps loX hiX pX1 qX1 pX2 qX2 pX3 qX3) [] w4 (fun _ hb => CX1.out.below hb))
      have F3 := hide (fun (W' : World) (x y z : Value) (lo hi n1 h1 n2 h2 n3 h3 : Nat) (O : OC W' x y z S9.l S9.r S9.ps lo hi n1 h1 n2 h2 n3 h3) => show Bl (fun W => OC W x y z S9.l S9.r S9.ps lo hi n1 h1 n2 h2 n3 h3) W' from fun W2 hb2 => O.below hb2)
      have HLO := hide (fun (W' : World) (M : List (Nat × Array Value × TypeId)) (h : Kd [] w4 W' M) (lo : Nat) (hl : W'.heap.size ≤ lo) => show w4.heap.size ≤ lo ∧ ∀ e ∈ M, e.1 < lo from ⟨Nat.le_trans (below_nil h).size hl, fun e he => Nat.lt_of_lt_of_le (Array.getElem?_eq_some_iff.1 (h.hold e he)).1 hl⟩)
      have Y := hide (Y0.out.drew)
      clear X X1 T HM0 hK HMk HHd hMn hMM CK CA CX HSP TA
      clear c00 c01 c02 c10 c11 c12 c20 c21 c22 c30 c31 c32 c40 c41 c42
      obtain ⟨c10, c11, c12, c40, c41, c42⟩ := KS.out _ _ Y.out.kd
      go_region_held3 (fun w' => w'.cell? ⟨w.heap.size + 1, 0, none⟩ = some (.int .i64 p) ∧ w'.cell? ⟨w.heap.size + 1, 1, none⟩ = some (.int .i64 t) ∧ w'.cell? ⟨w.heap.size + 1, 2, none⟩ = some (.int .i64 s) ∧ w'.cell? ⟨b4, 0, none⟩ = some (.slice gX1 l.length kX1) ∧ w'.cell? ⟨b4, 1, none⟩ = some (.slice gX2 r.length kX2) ∧ w'.cell? ⟨b4, 2, none⟩ = some (.slice gX3 ps.length kX3)) (first | with_reducible exact KS.out _ _ Y.out.kd | with_reducible exact KS.out _ _ (Y.out.alloc _ _).kd | with_reducible exact KS.out _ _ ((Y.out.alloc _ _).alloc _ _).kd | with_reducible exact KS.out _ _ (Y0.out.alloc _ _).drew.kd | with_reducible exact KS.out _ _ ((Y0.out.alloc _ _).alloc _ _).drew.kd | with_reducible exact KS.out _ _ (Y.out.kd.put3c 0 rfl _ _ _) | with_reducible exact KS.out _ _ (Y.out.kd.put3c 1 rfl _ _ _) | with_reducible exact KS.out _ _ ((Y.out.kd.put3c 0 rfl _ _ _).put3c 1 rfl _ _ _) | with_reducible exact KS.out _ _ ((Y.out.kd.put3c 1 rfl _ _ _).put3c 0 rfl _ _ _) | with_reducible exact KS.out _ _ ((Y.out.kd.put3c 0 rfl _ _ _).alloc _ _) | go_keep) (first
        | (go_at_call 11; refine (toSettings_any _ _ _ _).mono ?_; rintro e wq ⟨rfl, hb⟩; (first | replace Y := hide (by with_reducible exact Y.out.up hb) | replace Y := hide (by with_reducible exact (Y.out.alloc _ _).up hb) | replace Y := hide (by with_reducible exact ((Y.out.alloc _ _).alloc _ _).up hb) | replace Y := hide (by with_reducible exact (Y0.out.alloc _ _).drew.up hb) | replace Y := hide (by with_reducible exact ((Y0.out.alloc _ _).alloc _ _).drew.up hb)); clear hb c10 c11 c12 c40 c41 c42; obtain ⟨c10, c11, c12, c40, c41, c42⟩ := KS.out _ _ Y.out.kd; (try simp only [World.size_alloc, World.size_drew, List.cons_append, List.nil_append] at Y); (first | clear e00 e01 e02 f00 f01 f02 f0l | skip); (first | (have e00 := Y.out.kd.cell 0 0 rfl rfl; have e01 := Y.out.kd.cell 0 1 rfl rfl; have e02 := Y.out.kd.cell 0 2 rfl rfl; have f00 := Y.out.kd.free 0 0 rfl; have f01 := Y.out.kd.free 0 1 rfl; have f02 := Y.out.kd.free 0 2 rfl; have f0l := Y.out.kd.lt 0 rfl) | skip); (first | clear e10 e11 e12 f10 f11 f12 f1l n01 n10 | skip); (first | (have e10 := Y.out.kd.cell 1 0 rfl rfl; have e11 := Y.out.kd.cell 1 1 rfl rfl; have e12 := Y.out.kd.cell 1 2 rfl rfl; have f10 := Y.out.kd.free 1 0 rfl; have f11 := Y.out.kd.free 1 1 rfl; have f12 := Y.out.kd.free 1 2 rfl; have f1l := Y.out.kd.lt 1 rfl; have n01 := Y.out.kd.ne 0 1 rfl rfl (by decide); have n10 := Y.out.kd.ne 1 0 rfl rfl (by decide); (try simp only [World.size_alloc, World.size_drew] at e10 e11 e12 f10 f11 f12 f1l n01 n10)) | skip))
        | (go_at_call 12; refine (HIP.out _ _ (CK0.out _ _ _ _ _ _ _ _ _ _ _ _ (by first | with_reducible exact Y.out.now | with_reducible exact (Y.out.alloc _ _).now | with_reducible exact ((Y.out.alloc _ _).alloc _ _).now | with_reducible exact (Y0.out.alloc _ _).drew.now | with_reducible exact ((Y0.out.alloc _ _).alloc _ _).drew.now))).mono ?_; rintro e wq ⟨x', y', z', lo, hi, p1, q1', p2, q2', p3, q3', rfl, hlo, hhi, O, hb⟩; obtain ⟨gG1, kG1, rfl⟩ := O.x.form; obtain ⟨gG2, kG2, rfl⟩ := O.y.form; obtain ⟨gG3, kG3, rfl⟩ := O.z.own.form; (first | have HL := (by with_reducible exact HLO.out _ _ Y.out.kd _ hlo) | have HL := (by with_reducible exact HLO.out _ _ (Y.out.alloc _ _).kd _ hlo) | have HL := (by with_reducible exact HLO.out _ _ ((Y.out.alloc _ _).alloc _ _).kd _ hlo) | have HL := (by with_reducible exact HLO.out _ _ (Y0.out.alloc _ _).drew.kd _ hlo) | have HL := (by with_reducible exact HLO.out _ _ ((Y0.out.alloc _ _).alloc _ _).drew.kd _ hlo)); have HR := hide HL.1; have HM := hide HL.2; clear HL hlo hhi; (first | replace Y := hide (by with_reducible exact Y.out.next hb (F3.out _ _ _ _ _ _ _ _ _ _ _ _ O)) | replace Y := hide (by with_reducible exact (Y.out.alloc _ _).next hb (F3.out _ _ _ _ _ _ _ _ _ _ _ _ O)) | replace Y := hide (by with_reducible exact ((Y.out.alloc _ _).alloc _ _).next hb (F3.out _ _ _ _ _ _ _ _ _ _ _ _ O)) | replace Y := hide (by with_reducible exact (Y0.out.alloc _ _).drew.next hb (F3.out _ _ _ _ _ _ _ _ _ _ _ _ O)) | replace Y := hide (by with_reducible exact ((Y0.out.alloc _ _).alloc _ _).drew.next hb (F3.out _ _ _ _ _ _ _ _ _ _ _ _ O))); clear O; clear hb c10 c11 c12 c40 c41 c42; obtain ⟨c10, c11, c12, c40, c41, c42⟩ := KS.out _ _ Y.out.kd; (try simp only [World.size_alloc, World.size_drew, List.cons_append, List.nil_append] at Y); (first | clear e00 e01 e02 f00 f01 f02 f0l | skip); (first | (have e00 := Y.out.kd.cell 0 0 rfl rfl; have e01 := Y.out.kd.cell 0 1 rfl rfl; have e02 := Y.out.kd.cell 0 2 rfl rfl; have f00 := Y.out.kd.free 0 0 rfl; have f01 := Y.out.kd.free 0 1 rfl; have f02 := Y.out.kd.free 0 2 rfl; have f0l := Y.out.kd.lt 0 rfl) | skip); (first | clear e10 e11 e12 f10 f11 f12 f1l n01 n10 | skip); (first | (have e10 := Y.out.kd.cell 1 0 rfl rfl; have e11 := Y.out.kd.cell 1 1 rfl rfl; have e12 := Y.out.kd.cell 1 2 rfl rfl; have f10 := Y.out.kd.free 1 0 rfl; have f11 := Y.out.kd.free 1 1 rfl; have f12 := Y.out.kd.free 1 2 rfl; have f1l := Y.out.kd.lt 1 rfl; have n01 := Y.out.kd.ne 0 1 rfl rfl (by decide); have n10 := Y.out.kd.ne 1 0 rfl rfl (by decide); (try simp only [World.size_alloc, World.size_drew] at e10 e11 e12 f10 f11 f12 f1l n01 n10)) | skip); (try simp only [World.size_alloc, World.size_drew, List.cons_append, List.nil_append] at HM)))
      all_goals go_wp2_with fail
      all_goals go_meet
      all_goals first
        | (have Z := (Y.out.kd.alloc #[.slice gG1 S9.l.length kG1, .slice gG2 S9.r.length kG2, .slice gG3 S9.ps.length kG3] 31).alloc #[.int .i64 p, .int .i64 t, .int .i64 S9.s] 32; simp only [World.size_alloc, World.size_drew, World.size_setCell, List.set_cons_zero, List.set_cons_succ, List.cons_append, List.nil_append] at Z; have Zk := Z.kn; refine ⟨_, _, _, lo, hi, p1, q1', p2, q2', p3, q3', kG1, kG2, kG3, gG1, gG2, gG3, rfl, rfl, rfl, rfl, (by with_reducible exact hide Zk), ?_, HR.out, ?_, ?_⟩; (exact (Y.out.hold _ (below2 _ _ _))); (exact (.inr (Nat.le_trans (Y.out.now.top.2) (by simp)))); (exact (.inr (Nat.le_trans (Y.out.now.top.2) (by simp)))))
        | (have Z := (Y.out.kd.alloc #[.int .i64 p, .int .i64 t, .int .i64 S9.s] 32).alloc #[.slice gG1 S9.l.length kG1, .slice gG2 S9.r.length kG2, .slice gG3 S9.ps.length kG3] 31; simp only [World.size_alloc, World.size_drew, World.size_setCell, List.set_cons_zero, List.set_cons_succ, List.cons_append, List.nil_append] at Z; have Zk := Z.kn.swap; refine ⟨_, _, _, lo, hi, p1, q1', p2, q2', p3, q3', kG1, kG2, kG3, gG1, gG2, gG3, rfl, rfl, rfl, rfl, (by with_reducible exact hide Zk), ?_, HR.out, ?_, ?_⟩; (exact (Y.out.hold _ (below2 _ _ _))); (exact (.inr (Nat.le_trans (Y.out.now.top.2) (by simp)))); (exact (.inr (Nat.le_trans (Y.out.now.top.2) (by simp)))))
        | (have Z := (Y.out.kd.put3c 0 rfl (.slice gG1 S9.l.length kG1) (.slice gG2 S9.r.length kG2) (.slice gG3 S9.ps.length kG3)).alloc #[.int .i64 p, .int .i64 t, .int .i64 S9.s] 32; (try simp only [World.size_alloc, World.size_drew, World.size_setCell, List.set_cons_zero, List.set_cons_succ, List.cons_append, List.nil_append] at Z); have Zk := Z.kn; refine ⟨_, _, _, lo, hi, p1, q1', p2, q2', p3, q3', kG1, kG2, kG3, gG1, gG2, gG3, rfl, rfl, rfl, rfl, (by with_reducible exact hide Zk), ?_, HR.out, ?_, ?_⟩; (exact (Y.out.now.seg (seg3 _ _ _ _ _) (.inr (HM.out _ (List.mem_cons_self ..)))).below (below1 _ _)); (exact .inl (HM.out _ (List.mem_cons_self ..))); (exact (.inr (Nat.le_trans (Y.out.now.top.2) (by simp)))))
        | (have Z := (Y.out.kd.put3c 0 rfl (.int .i64 p) (.int .i64 t) (.int .i64 S9.s)).alloc #[.slice gG1 S9.l.length kG1, .slice gG2 S9.r.length kG2, .slice gG3 S9.ps.length kG3] 31; (try simp only [World.size_alloc, World.size_drew, World.size_setCell, List.set_cons_zero, List.set_cons_succ, List.cons_append, List.nil_append] at Z); have Zk := Z.kn.swap; refine ⟨_, _, _, lo, hi, p1, q1', p2, q2', p3, q3', kG1, kG2, kG3, gG1, gG2, gG3, rfl, rfl, rfl, rfl, (by with_reducible exact hide Zk), ?_, HR.out, ?_, ?_⟩; (exact (Y.out.now.seg (seg3 _ _ _ _ _) (.inr (HM.out _ (List.mem_cons_self ..)))).below (below1 _ _)); (exact (.inr (Nat.le_trans (Y.out.now.top.2) (by simp)))); (exact .inl (HM.out _ (List.mem_cons_self ..))))
        | (have Z := (Y.out.kd.put3c 0 rfl (.slice gG1 S9.l.length kG1) (.slice gG2 S9.r.length kG2) (.slice gG3 S9.ps.length kG3)).put3c 1 rfl (.int .i64 p) (.int .i64 t) (.int .i64 S9.s); (try simp only [World.size_alloc, World.size_drew, World.size_setCell, List.set_cons_zero, List.set_cons_succ, List.cons_append, List.nil_append] at Z); have Zk := Z.kn; refine ⟨_, _, _, lo, hi, p1, q1', p2, q2', p3, q3', kG1, kG2, kG3, gG1, gG2, gG3, rfl, rfl, rfl, rfl, (by with_reducible exact hide Zk), ?_, HR.out, ?_, ?_⟩; (exact (Y.out.now.seg (seg3 _ _ _ _ _) (.inr (HM.out _ (List.mem_cons_self ..)))).seg (seg3 _ _ _ _ _) (.inr (HM.out _ (List.mem_cons_of_mem _ (List.mem_cons_self ..))))); (exact .inl (HM.out _ (List.mem_cons_self ..))); (exact .inl (HM.out _ (List.mem_cons_of_mem _ (List.mem_cons_self ..)))))
        | (have Z := (Y.out.kd.put3c 1 rfl (.slice gG1 S9.l.length kG1) (.slice gG2 S9.r.length kG2) (.slice gG3 S9.ps.length kG3)).put3c 0 rfl (.int .i64 p) (.int .i64 t) (.int .i64 S9.s); (try simp only [World.size_alloc, World.size_drew, World.size_setCell, List.set_cons_zero, List.set_cons_succ, List.cons_append, List.nil_append] at Z); have Zk := Z.kn.swap; refine ⟨_, _, _, lo, hi, p1, q1', p2, q2', p3, q3', kG1, kG2, kG3, gG1, gG2, gG3, rfl, rfl, rfl, rfl, (by with_reducible exact hide Zk), ?_, HR.out, ?_, ?_⟩; (exact (Y.out.now.seg (seg3 _ _ _ _ _) (.inr (HM.out _ (List.mem_cons_of_mem _ (List.mem_cons_self ..))))).seg (seg3 _ _ _ _ _) (.inr (HM.out _ (List.mem_cons_self ..)))); (exact .inl (HM.out _ (List.mem_cons_of_mem _ (List.mem_cons_self ..)))); (exact .inl (HM.out _ (List.mem_cons_self ..))))
        | fail "fin"
    case rest =>
    obtain ⟨w5, gaG, gbG, loG, hiG, pG1, qG1, pG2, qG2, pG3, qG3, kG1, kG2, kG3, gG1, gG2, gG3, rfl, rfl, rfl, rfl, Y, CG, HGl, NGa, NGb⟩ := hcut
    have hbY := Y.out.below
    have CA := hide (CA.out.below hbY)
    have CX := hide (CX.out.below hbY)
    have NQG := hide hbY.size
    have NLG := hide (Y.out.low 0 rfl)
    have NTG := hide (Y.out.lt 0 rfl)
    have NMG := hide (Y.out.low 1 rfl)
    have NUG := hide (Y.out.lt 1 rfl)
    have X := hide (Kn.join X1.out Y.out)
    simp only [List.cons_append, List.nil_append] at X
    clear hbY Y X1 c00 c01 c02 c10 c11 c12 c20 c21 c22 c30 c31 c32 c40 c41 c42
    have NOG := hide CG.out.top.2
    have c00 : w5.cell? ⟨w.heap.size, 0, none⟩ = some (.slice a1 l.length c1) := X.out.cell 0 0 rfl rfl
    have c01 : w5.cell? ⟨w.heap.size, 1, none⟩ = some (.slice a2 r.length c2) := X.out.cell 0 1 rfl rfl
    have c02 : w5.cell? ⟨w.heap.size, 2, none⟩ = some (.slice a3 ps.length c3) := X.out.cell 0 2 rfl rfl
    have c10 : w5.cell? ⟨w.heap.size + 1, 0, none⟩ = some (.int .i64 p) := X.out.cell 1 0 rfl rfl
    have c11 : w5.cell? ⟨w.heap.size + 1, 1, none⟩ = some (.int .i64 t) := X.out.cell 1 1 rfl rfl
    have c12 : w5.cell? ⟨w.heap.size + 1, 2, none⟩ = some (.int .i64 s) := X.out.cell 1 2 rfl rfl
    have c20 : w5.cell? ⟨gaA, 0, none⟩ = some (.slice gA1 S9.l.length kA1) := X.out.cell 2 0 rfl rfl
    have c21 : w5.cell? ⟨gaA, 1, none⟩ = some (.slice gA2 S9.r.length kA2) := X.out.cell 2 1 rfl rfl
    have c22 : w5.cell? ⟨gaA, 2, none⟩ = some (.slice gA3 S9.ps.length kA3) := X.out.cell 2 2 rfl rfl
    have c30 : w5.cell? ⟨gbA, 0, none⟩ = some (.int .i64 p) := X.out.cell 3 0 rfl rfl
    have c31 : w5.cell? ⟨gbA, 1, none⟩ = some (.int .i64 t) := X.out.cell 3 1 rfl rfl
    have c32 : w5.cell? ⟨gbA, 2, none⟩ = some (.int .i64 S9.s) := X.out.cell 3 2 rfl rfl
    have c40 : w5.cell? ⟨b4, 0, none⟩ = some (.slice gX1 l.length kX1) := X.out.cell 4 0 rfl rfl
    have c41 : w5.cell? ⟨b4, 1, none⟩ = some (.slice gX2 r.length kX2) := X.out.cell 4 1 rfl rfl
    have c42 : w5.cell? ⟨b4, 2, none⟩ = some (.slice gX3 ps.length kX3) := X.out.cell 4 2 rfl rfl
    have c50 : w5.cell? ⟨gaG, 0, none⟩ = some (.slice gG1 S9.l.length kG1) := X.out.cell 5 0 rfl rfl
    have c51 : w5.cell? ⟨gaG, 1, none⟩ = some (.slice gG2 S9.r.length kG2) := X.out.cell 5 1 rfl rfl
    have c52 : w5.cell? ⟨gaG, 2, none⟩ = some (.slice gG3 S9.ps.length kG3) := X.out.cell 5 2 rfl rfl
    have c60 : w5.cell? ⟨gbG, 0, none⟩ = some (.int .i64 p) := X.out.cell 6 0 rfl rfl
    have c61 : w5.cell? ⟨gbG, 1, none⟩ = some (.int .i64 t) := X.out.cell 6 1 rfl rfl
    have c62 : w5.cell? ⟨gbG, 2, none⟩ = some (.int .i64 S9.s) := X.out.cell 6 2 rfl rfl
    go_wp2_with fail
    clear c00 c01 c02 c10 c11 c12 c20 c21 c22 c30 c31 c32 c40 c41 c42 c50 c51 c52 c60 c61 c62
    go_at_call 13
    refine (eqCracker_same _ _ S9.l S9.r S9.ps _ _ (Nat.le_refl _) (CK.out _ _ _ _ _ _ _ _ _ _ _ _ CG.out) (CK.out _ _ _ _ _ _ _ _ _ _ _ _ CA.out)).mono ?_
    rintro e w6 ⟨rfl, hb⟩
    have X := hide (X.out.up hb)
    have CA := hide (CA.out.below hb)
    have CX := hide (CX.out.below hb)
    have CG := hide (CG.out.below hb)
    have N24 := hide hb.size
    clear hb
    have c00 : w6.cell? ⟨w.heap.size, 0, none⟩ = some (.slice a1 l.length c1) := X.out.cell 0 0 rfl rfl
    have c01 : w6.cell? ⟨w.heap.size, 1, none⟩ = some (.slice a2 r.length c2) := X.out.cell 0 1 rfl rfl
    have c02 : w6.cell? ⟨w.heap.size, 2, none⟩ = some (.slice a3 ps.length c3) := X.out.cell 0 2 rfl rfl
    have c10 : w6.cell? ⟨w.heap.size + 1, 0, none⟩ = some (.int .i64 p) := X.out.cell 1 0 rfl rfl
    have c11 : w6.cell? ⟨w.heap.size + 1, 1, none⟩ = some (.int .i64 t) := X.out.cell 1 1 rfl rfl
    have c12 : w6.cell? ⟨w.heap.size + 1, 2, none⟩ = some (.int .i64 s) := X.out.cell 1 2 rfl rfl
    have c20 : w6.cell? ⟨gaA, 0, none⟩ = some (.slice gA1 S9.l.length kA1) := X.out.cell 2 0 rfl rfl
    have c21 : w6.cell? ⟨gaA, 1, none⟩ = some (.slice gA2 S9.r.length kA2) := X.out.cell 2 1 rfl rfl
    have c22 : w6.cell? ⟨gaA, 2, none⟩ = some (.slice gA3 S9.ps.length kA3) := X.out.cell 2 2 rfl rfl
    have c30 : w6.cell? ⟨gbA, 0, none⟩ = some (.int .i64 p) := X.out.cell 3 0 rfl rfl
    have c31 : w6.cell? ⟨gbA, 1, none⟩ = some (.int .i64 t) := X.out.cell 3 1 rfl rfl
    have c32 : w6.cell? ⟨gbA, 2, none⟩ = some (.int .i64 S9.s) := X.out.cell 3 2 rfl rfl
    have c40 : w6.cell? ⟨b4, 0, none⟩ = some (.slice gX1 l.length kX1) := X.out.cell 4 0 rfl rfl
    have c41 : w6.cell? ⟨b4, 1, none⟩ = some (.slice gX2 r.length kX2) := X.out.cell 4 1 rfl rfl
    have c42 : w6.cell? ⟨b4, 2, none⟩ = some (.slice gX3 ps.length kX3) := X.out.cell 4 2 rfl rfl
    have c50 : w6.cell? ⟨gaG, 0, none⟩ = some (.slice gG1 S9.l.length kG1) := X.out.cell 5 0 rfl rfl
    have c51 : w6.cell? ⟨gaG, 1, none⟩ = some (.slice gG2 S9.r.length kG2) := X.out.cell 5 1 rfl rfl
    have c52 : w6.cell? ⟨gaG, 2, none⟩ = some (.slice gG3 S9.ps.length kG3) := X.out.cell 5 2 rfl rfl
    have c60 : w6.cell? ⟨gbG, 0, none⟩ = some (.int .i64 p) := X.out.cell 6 0 rfl rfl
    have c61 : w6.cell? ⟨gbG, 1, none⟩ = some (.int .i64 t) := X.out.cell 6 1 rfl rfl
    have c62 : w6.cell? ⟨gbG, 2, none⟩ = some (.int .i64 S9.s) := X.out.cell 6 2 rfl rfl
    go_wp2_with fail
    clear c00 c01 c02 c10 c11 c12 c20 c21 c22 c30 c31 c32 c40 c41 c42 c50 c51 c52 c60 c61 c62
    go_at_call 14
    refine (eqSettings_same _ _ _ _).mono ?_
    rintro e w7 ⟨rfl, hb⟩
    have X := hide (X.out.up hb)
    have CA := hide (CA.out.below hb)
    have CX := hide (CX.out.below hb)
    have CG := hide (CG.out.below hb)
    have N25 := hide hb.size
    clear hb
    have c00 : w7.cell? ⟨w.heap.size, 0, none⟩ = some (.slice a1 l.length c1) := X.out.cell 0 0 rfl rfl
    have c01 : w7.cell? ⟨w.heap.size, 1, none⟩ = some (.slice a2 r.length c2) := X.out.cell 0 1 rfl rfl
    have c02 : w7.cell? ⟨w.heap.size, 2, none⟩ = some (.slice a3 ps.length c3) := X.out.cell 0 2 rfl rfl
    have c10 : w7.cell? ⟨w.heap.size + 1, 0, none⟩ = some (.int .i64 p) := X.out.cell 1 0 rfl rfl
    have c11 : w7.cell? ⟨w.heap.size + 1, 1, none⟩ = some (.int .i64 t) := X.out.cell 1 1 rfl rfl
    have c12 : w7.cell? ⟨w.heap.size + 1, 2, none⟩ = some (.int .i64 s) := X.out.cell 1 2 rfl rfl
    have c20 : w7.cell? ⟨gaA, 0, none⟩ = some (.slice gA1 S9.l.length kA1) := X.out.cell 2 0 rfl rfl
    have c21 : w7.cell? ⟨gaA, 1, none⟩ = some (.slice gA2 S9.r.length kA2) := X.out.cell 2 1 rfl rfl
    have c22 : w7.cell? ⟨gaA, 2, none⟩ = some (.slice gA3 S9.ps.length kA3) := X.out.cell 2 2 rfl rfl
    have c30 : w7.cell? ⟨gbA, 0, none⟩ = some (.int .i64 p) := X.out.cell 3 0 rfl rfl
    have c31 : w7.cell? ⟨gbA, 1, none⟩ = some (.int .i64 t) := X.out.cell 3 1 rfl rfl
    have c32 : w7.cell? ⟨gbA, 2, none⟩ = some (.int .i64 S9.s) := X.out.cell 3 2 rfl rfl
    have c40 : w7.cell? ⟨b4, 0, none⟩ = some (.slice gX1 l.length kX1) := X.out.cell 4 0 rfl rfl
    have c41 : w7.cell? ⟨b4, 1, none⟩ = some (.slice gX2 r.length kX2) := X.out.cell 4 1 rfl rfl
    have c42 : w7.cell? ⟨b4, 2, none⟩ = some (.slice gX3 ps.length kX3) := X.out.cell 4 2 rfl rfl
    have c50 : w7.cell? ⟨gaG, 0, none⟩ = some (.slice gG1 S9.l.length kG1) := X.out.cell 5 0 rfl rfl
    have c51 : w7.cell? ⟨gaG, 1, none⟩ = some (.slice gG2 S9.r.length kG2) := X.out.cell 5 1 rfl rfl
    have c52 : w7.cell? ⟨gaG, 2, none⟩ = some (.slice gG3 S9.ps.length kG3) := X.out.cell 5 2 rfl rfl
    have c60 : w7.cell? ⟨gbG, 0, none⟩ = some (.int .i64 p) := X.out.cell 6 0 rfl rfl
    have c61 : w7.cell? ⟨gbG, 1, none⟩ = some (.int .i64 t) := X.out.cell 6 1 rfl rfl
    have c62 : w7.cell? ⟨gbG, 2, none⟩ = some (.int .i64 S9.s) := X.out.cell 6 2 rfl rfl
    go_wp2_with fail
    have X := hide X.out.drew
    have CA := hide (CA.out.below (Below.refl _ _).drew)
    have CX := hide (CX.out.below (Below.refl _ _).drew)
    have CG := hide (CG.out.below (Below.refl _ _).drew)
    have NQ := hide True.intro
    go_region_held3 (fun w' => w'.cell? ⟨w.heap.size, 0, none⟩ = some (.slice a1 l.length c1) ∧ w'.cell? ⟨w.heap.size, 1, none⟩ = some (.slice a2 r.length c2) ∧ w'.cell? ⟨w.heap.size, 2, none⟩ = some (.slice a3 ps.length c3) ∧ w'.cell? ⟨b4, 0, none⟩ = some (.slice gX1 l.length kX1) ∧ w'.cell? ⟨b4, 1, none⟩ = some (.slice gX2 r.length kX2) ∧ w'.cell? ⟨b4, 2, none⟩ = some (.slice gX3 ps.length kX3)) (first | exact ⟨c00, c01, c02, c40, c41, c42⟩ | go_keep) (first
      | (go_at_call 10; refine (TA.out _ X.out.below).mono ?_; rintro e wq ⟨ub1, vb1, ub2, vb2, ub3, vb3, rfl, Ib, hb⟩; have NQ := hide hb.size; have X := hide (X.out.up hb); have CA := hide (CA.out.below hb); have CX := hide (CX.out.below hb); have CG := hide (CG.out.below hb); have c00 : wq.cell? ⟨w.heap.size, 0, none⟩ = some (.slice a1 l.length c1) := X.out.cell 0 0 rfl rfl; have c01 : wq.cell? ⟨w.heap.size, 1, none⟩ = some (.slice a2 r.length c2) := X.out.cell 0 1 rfl rfl; have c02 : wq.cell? ⟨w.heap.size, 2, none⟩ = some (.slice a3 ps.length c3) := X.out.cell 0 2 rfl rfl; have c40 : wq.cell? ⟨b4, 0, none⟩ = some (.slice gX1 l.length kX1) := X.out.cell 4 0 rfl rfl; have c41 : wq.cell? ⟨b4, 1, none⟩ = some (.slice gX2 r.length kX2) := X.out.cell 4 1 rfl rfl; have c42 : wq.cell? ⟨b4, 2, none⟩ = some (.slice gX3 ps.length kX3) := X.out.cell 4 2 rfl rfl)
      | (go_at_call 13; refine (eqCracker_same _ _ l r ps _ _ (Nat.le_refl _) (CK0.out _ _ _ _ _ _ _ _ _ _ _ _ CX.out) Ib).mono ?_; rintro e wq ⟨rfl, hb⟩; have NR := hide (Nat.le_trans NQ.out hb.size); have X := hide (X.out.up hb); have CA := hide (CA.out.below hb); have CX := hide (CX.out.below hb); have CG := hide (CG.out.below hb); have c00 : wq.cell? ⟨w.heap.size, 0, none⟩ = some (.slice a1 l.length c1) := X.out.cell 0 0 rfl rfl; have c01 : wq.cell? ⟨w.heap.size, 1, none⟩ = some (.slice a2 r.length c2) := X.out.cell 0 1 rfl rfl; have c02 : wq.cell? ⟨w.heap.size, 2, none⟩ = some (.slice a3 ps.length c3) := X.out.cell 0 2 rfl rfl; have c40 : wq.cell? ⟨b4, 0, none⟩ = some (.slice gX1 l.length kX1) := X.out.cell 4 0 rfl rfl; have c41 : wq.cell? ⟨b4, 1, none⟩ = some (.slice gX2 r.length kX2) := X.out.cell 4 1 rfl rfl; have c42 : wq.cell? ⟨b4, 2, none⟩ = some (.slice gX3 ps.length kX3) := X.out.cell 4 2 rfl rfl))
    have c00 : wq.cell? ⟨w.heap.size, 0, none⟩ = some (.slice a1 l.length c1) := X.out.cell 0 0 rfl rfl
    have c01 : wq.cell? ⟨w.heap.size, 1, none⟩ = some (.slice a2 r.length c2) := X.out.cell 0 1 rfl rfl
    have c02 : wq.cell? ⟨w.heap.size, 2, none⟩ = some (.slice a3 ps.length c3) := X.out.cell 0 2 rfl rfl
    have c10 : wq.cell? ⟨w.heap.size + 1, 0, none⟩ = some (.int .i64 p) := X.out.cell 1 0 rfl rfl
    have c11 : wq.cell? ⟨w.heap.size + 1, 1, none⟩ = some (.int .i64 t) := X.out.cell 1 1 rfl rfl
    have c12 : wq.cell? ⟨w.heap.size + 1, 2, none⟩ = some (.int .i64 s) := X.out.cell 1 2 rfl rfl
    have c20 : wq.cell? ⟨gaA, 0, none⟩ = some (.slice gA1 S9.l.length kA1) := X.out.cell 2 0 rfl rfl
    have c21 : wq.cell? ⟨gaA, 1, none⟩ = some (.slice gA2 S9.r.length kA2) := X.out.cell 2 1 rfl rfl
    have c22 : wq.cell? ⟨gaA, 2, none⟩ = some (.slice gA3 S9.ps.length kA3) := X.out.cell 2 2 rfl rfl
    have c30 : wq.cell? ⟨gbA, 0, none⟩ = some (.int .i64 p) := X.out.cell 3 0 rfl rfl
    have c31 : wq.cell? ⟨gbA, 1, none⟩ = some (.int .i64 t) := X.out.cell 3 1 rfl rfl
    have c32 : wq.cell? ⟨gbA, 2, none⟩ = some (.int .i64 S9.s) := X.out.cell 3 2 rfl rfl
    have c40 : wq.cell? ⟨b4, 0, none⟩ = some (.slice gX1 l.length kX1) := X.out.cell 4 0 rfl rfl
    have c41 : wq.cell? ⟨b4, 1, none⟩ = some (.slice gX2 r.length kX2) := X.out.cell 4 1 rfl rfl
    have c42 : wq.cell? ⟨b4, 2, none⟩ = some (.slice gX3 ps.length kX3) := X.out.cell 4 2 rfl rfl
    have c50 : wq.cell? ⟨gaG, 0, none⟩ = some (.slice gG1 S9.l.length kG1) := X.out.cell 5 0 rfl rfl
    have c51 : wq.cell? ⟨gaG, 1, none⟩ = some (.slice gG2 S9.r.length kG2) := X.out.cell 5 1 rfl rfl
    have c52 : wq.cell? ⟨gaG, 2, none⟩ = some (.slice gG3 S9.ps.length kG3) := X.out.cell 5 2 rfl rfl
    have c60 : wq.cell? ⟨gbG, 0, none⟩ = some (.int .i64 p) := X.out.cell 6 0 rfl rfl
    have c61 : wq.cell? ⟨gbG, 1, none⟩ = some (.int .i64 t) := X.out.cell 6 1 rfl rfl
    have c62 : wq.cell? ⟨gbG, 2, none⟩ = some (.int .i64 S9.s) := X.out.cell 6 2 rfl rfl
    go_wp2_with fail
    clear c00 c01 c02 c10 c11 c12 c20 c21 c22 c30 c31 c32 c40 c41 c42 c50 c51 c52 c60 c61 c62
    go_at_call 15
    refine (HM0.out _ _ _ _ _ _ _ _ _ _ _ _ CX.out).mono ?_
    rintro e w8 ⟨rfl, -, s⟩
    have qN0 := N0.out
    have qN1 := N1.out
    have qNOA := NOA.out
    have qNQA := NQA.out
    have qNLA := NLA.out
    have qNTA := NTA.out
    have qNMA := NMA.out
    have qNUA := NUA.out
    have qHAl := HAl.out
    have qNAa := NAa.out
    have qNAb := NAb.out
    have qN11 := N11.out
    have qHXl := HXl.out
    have qNOX := NOX.out
    have qN14 := N14.out
    have qNOG := NOG.out
    have qNQG := NQG.out
    have qNLG := NLG.out
    have qNTG := NTG.out
    have qNMG := NMG.out
    have qNUG := NUG.out
    have qHGl := HGl.out
    have qNGa := NGa.out
    have qNGb := NGb.out
    have qN24 := N24.out
    have qN25 := N25.out
    have qNR := NR.out
    have tCA := CA.out.top.1
    have tCG := CG.out.top.1
    have tCX := CX.out.top.1
    have X := hide (X.out.seg s (by omega) (by simp; omega))
    have CA := hide (CA.out.seg s (by omega))
    have CG := hide (CG.out.seg s (by omega))
    have N27 := hide s.below.size
    clear s qN0 qN1 qNOA qNQA qNLA qNTA qNMA qNUA qHAl qNAa qNAb qN11 qHXl qNOX qN14 qNOG qNQG qNLG qNTG qNMG qNUG qHGl qNGa qNGb qN24 qN25 qNR tCA tCX tCG
    clear CX
    have c00 : w8.cell? ⟨w.heap.size, 0, none⟩ = some (.slice a1 l.length c1) := X.out.cell 0 0 rfl rfl
    have c01 : w8.cell? ⟨w.heap.size, 1, none⟩ = some (.slice a2 r.length c2) := X.out.cell 0 1 rfl rfl
    have c02 : w8.cell? ⟨w.heap.size, 2, none⟩ = some (.slice a3 ps.length c3) := X.out.cell 0 2 rfl rfl
    have c10 : w8.cell? ⟨w.heap.size + 1, 0, none⟩ = some (.int .i64 p) := X.out.cell 1 0 rfl rfl
    have c11 : w8.cell? ⟨w.heap.size + 1, 1, none⟩ = some (.int .i64 t) := X.out.cell 1 1 rfl rfl
    have c12 : w8.cell? ⟨w.heap.size + 1, 2, none⟩ = some (.int .i64 s) := X.out.cell 1 2 rfl rfl
    have c20 : w8.cell? ⟨gaA, 0, none⟩ = some (.slice gA1 S9.l.length kA1) := X.out.cell 2 0 rfl rfl
    have c21 : w8.cell? ⟨gaA, 1, none⟩ = some (.slice gA2 S9.r.length kA2) := X.out.cell 2 1 rfl rfl
    have c22 : w8.cell? ⟨gaA, 2, none⟩ = some (.slice gA3 S9.ps.length kA3) := X.out.cell 2 2 rfl rfl
    have c30 : w8.cell? ⟨gbA, 0, none⟩ = some (.int .i64 p) := X.out.cell 3 0 rfl rfl
    have c31 : w8.cell? ⟨gbA, 1, none⟩ = some (.int .i64 t) := X.out.cell 3 1 rfl rfl
    have c32 : w8.cell? ⟨gbA, 2, none⟩ = some (.int .i64 S9.s) := X.out.cell 3 2 rfl rfl
    have c40 : w8.cell? ⟨b4, 0, none⟩ = some (.slice gX1 l.length kX1) := X.out.cell 4 0 rfl rfl
    have c41 : w8.cell? ⟨b4, 1, none⟩ = some (.slice gX2 r.length kX2) := X.out.cell 4 1 rfl rfl
    have c42 : w8.cell? ⟨b4, 2, none⟩ = some (.slice gX3 ps.length kX3) := X.out.cell 4 2 rfl rfl
    have c50 : w8.cell? ⟨gaG, 0, none⟩ = some (.slice gG1 S9.l.length kG1) := X.out.cell 5 0 rfl rfl
    have c51 : w8.cell? ⟨gaG, 1, none⟩ = some (.slice gG2 S9.r.length kG2) := X.out.cell 5 1 rfl rfl
    have c52 : w8.cell? ⟨gaG, 2, none⟩ = some (.slice gG3 S9.ps.length kG3) := X.out.cell 5 2 rfl rfl
    have c60 : w8.cell? ⟨gbG, 0, none⟩ = some (.int .i64 p) := X.out.cell 6 0 rfl rfl
    have c61 : w8.cell? ⟨gbG, 1, none⟩ = some (.int .i64 t) := X.out.cell 6 1 rfl rfl
    have c62 : w8.cell? ⟨gbG, 2, none⟩ = some (.int .i64 S9.s) := X.out.cell 6 2 rfl rfl
    go_wp2_with fail
    clear c00 c01 c02 c10 c11 c12 c20 c21 c22 c30 c31 c32 c40 c41 c42 c50 c51 c52 c60 c61 c62
    go_at_call 13
    refine (eqCracker_same _ _ S9.l S9.r S9.ps _ _ (Nat.le_refl _) (CK.out _ _ _ _ _ _ _ _ _ _ _ _ CG.out) (CK.out _ _ _ _ _ _ _ _ _ _ _ _ CA.out)).mono ?_
    rintro e w9 ⟨rfl, hb⟩
    have X := hide (X.out.up hb)
    have CA := hide (CA.out.below hb)
    have CG := hide (CG.out.below hb)
    have N28 := hide hb.size
    clear hb
    have c00 : w9.cell? ⟨w.heap.size, 0, none⟩ = some (.slice a1 l.length c1) := X.out.cell 0 0 rfl rfl
    have c01 : w9.cell? ⟨w.heap.size, 1, none⟩ = some (.slice a2 r.length c2) := X.out.cell 0 1 rfl rfl
    have c02 : w9.cell? ⟨w.heap.size, 2, none⟩ = some (.slice a3 ps.length c3) := X.out.cell 0 2 rfl rfl
    have c10 : w9.cell? ⟨w.heap.size + 1, 0, none⟩ = some (.int .i64 p) := X.out.cell 1 0 rfl rfl
    have c11 : w9.cell? ⟨w.heap.size + 1, 1, none⟩ = some (.int .i64 t) := X.out.cell 1 1 rfl rfl
    have c12 : w9.cell? ⟨w.heap.size + 1, 2, none⟩ = some (.int .i64 s) := X.out.cell 1 2 rfl rfl
    have c20 : w9.cell? ⟨gaA, 0, none⟩ = some (.slice gA1 S9.l.length kA1) := X.out.cell 2 0 rfl rfl
    have c21 : w9.cell? ⟨gaA, 1, none⟩ = some (.slice gA2 S9.r.length kA2) := X.out.cell 2 1 rfl rfl
    have c22 : w9.cell? ⟨gaA, 2, none⟩ = some (.slice gA3 S9.ps.length kA3) := X.out.cell 2 2 rfl rfl
    have c30 : w9.cell? ⟨gbA, 0, none⟩ = some (.int .i64 p) := X.out.cell 3 0 rfl rfl
    have c31 : w9.cell? ⟨gbA, 1, none⟩ = some (.int .i64 t) := X.out.cell 3 1 rfl rfl
    have c32 : w9.cell? ⟨gbA, 2, none⟩ = some (.int .i64 S9.s) := X.out.cell 3 2 rfl rfl
    have c40 : w9.cell? ⟨b4, 0, none⟩ = some (.slice gX1 l.length kX1) := X.out.cell 4 0 rfl rfl
    have c41 : w9.cell? ⟨b4, 1, none⟩ = some (.slice gX2 r.length kX2) := X.out.cell 4 1 rfl rfl
    have c42 : w9.cell? ⟨b4, 2, none⟩ = some (.slice gX3 ps.length kX3) := X.out.cell 4 2 rfl rfl
    have c50 : w9.cell? ⟨gaG, 0, none⟩ = some (.slice gG1 S9.l.length kG1) := X.out.cell 5 0 rfl rfl
    have c51 : w9.cell? ⟨gaG, 1, none⟩ = some (.slice gG2 S9.r.length kG2) := X.out.cell 5 1 rfl rfl
    have c52 : w9.cell? ⟨gaG, 2, none⟩ = some (.slice gG3 S9.ps.length kG3) := X.out.cell 5 2 rfl rfl
    have c60 : w9.cell? ⟨gbG, 0, none⟩ = some (.int .i64 p) := X.out.cell 6 0 rfl rfl
    have c61 : w9.cell? ⟨gbG, 1, none⟩ = some (.int .i64 t) := X.out.cell 6 1 rfl rfl
    have c62 : w9.cell? ⟨gbG, 2, none⟩ = some (.int .i64 S9.s) := X.out.cell 6 2 rfl rfl
    go_wp2_with fail
    clear c00 c01 c02 c10 c11 c12 c20 c21 c22 c30 c31 c32 c40 c41 c42 c50 c51 c52 c60 c61 c62
    go_at_call 14
    refine (eqSettings_same _ _ _ _).mono ?_
    rintro e w10 ⟨rfl, hb⟩
    have X := hide (X.out.up hb)
    have CA := hide (CA.out.below hb)
    have CG := hide (CG.out.below hb)
    have N29 := hide hb.size
    clear hb
    have c00 : w10.cell? ⟨w.heap.size, 0, none⟩ = some (.slice a1 l.length c1) := X.out.cell 0 0 rfl rfl
    have c01 : w10.cell? ⟨w.heap.size, 1, none⟩ = some (.slice a2 r.length c2) := X.out.cell 0 1 rfl rfl
    have c02 : w10.cell? ⟨w.heap.size, 2, none⟩ = some (.slice a3 ps.length c3) := X.out.cell 0 2 rfl rfl
    have c10 : w10.cell? ⟨w.heap.size + 1, 0, none⟩ = some (.int .i64 p) := X.out.cell 1 0 rfl rfl
    have c11 : w10.cell? ⟨w.heap.size + 1, 1, none⟩ = some (.int .i64 t) := X.out.cell 1 1 rfl rfl
    have c12 : w10.cell? ⟨w.heap.size + 1, 2, none⟩ = some (.int .i64 s) := X.out.cell 1 2 rfl rfl
    have c20 : w10.cell? ⟨gaA, 0, none⟩ = some (.slice gA1 S9.l.length kA1) := X.out.cell 2 0 rfl rfl
    have c21 : w10.cell? ⟨gaA, 1, none⟩ = some (.slice gA2 S9.r.length kA2) := X.out.cell 2 1 rfl rfl
    have c22 : w10.cell? ⟨gaA, 2, none⟩ = some (.slice gA3 S9.ps.length kA3) := X.out.cell 2 2 rfl rfl
    have c30 : w10.cell? ⟨gbA, 0, none⟩ = some (.int .i64 p) := X.out.cell 3 0 rfl rfl
    have c31 : w10.cell? ⟨gbA, 1, none⟩ = some (.int .i64 t) := X.out.cell 3 1 rfl rfl
    have c32 : w10.cell? ⟨gbA, 2, none⟩ = some (.int .i64 S9.s) := X.out.cell 3 2 rfl rfl
    have c40 : w10.cell? ⟨b4, 0, none⟩ = some (.slice gX1 l.length kX1) := X.out.cell 4 0 rfl rfl
    have c41 : w10.cell? ⟨b4, 1, none⟩ = some (.slice gX2 r.length kX2) := X.out.cell 4 1 rfl rfl
    have c42 : w10.cell? ⟨b4, 2, none⟩ = some (.slice gX3 ps.length kX3) := X.out.cell 4 2 rfl rfl
    have c50 : w10.cell? ⟨gaG, 0, none⟩ = some (.slice gG1 S9.l.length kG1) := X.out.cell 5 0 rfl rfl
    have c51 : w10.cell? ⟨gaG, 1, none⟩ = some (.slice gG2 S9.r.length kG2) := X.out.cell 5 1 rfl rfl
    have c52 : w10.cell? ⟨gaG, 2, none⟩ = some (.slice gG3 S9.ps.length kG3) := X.out.cell 5 2 rfl rfl
    have c60 : w10.cell? ⟨gbG, 0, none⟩ = some (.int .i64 p) := X.out.cell 6 0 rfl rfl
    have c61 : w10.cell? ⟨gbG, 1, none⟩ = some (.int .i64 t) := X.out.cell 6 1 rfl rfl
    have c62 : w10.cell? ⟨gbG, 2, none⟩ = some (.int .i64 S9.s) := X.out.cell 6 2 rfl rfl
    go_wp2_with fail
    clear c00 c01 c02 c10 c11 c12 c20 c21 c22 c30 c31 c32 c40 c41 c42 c50 c51 c52 c60 c61 c62
    go_at_call 15
    refine (HMk.out _ _ _ _ _ _ _ _ _ _ _ _ CG.out).mono ?_
    rintro e w11 ⟨rfl, CG2, s⟩
    have qN0 := N0.out
    have qN1 := N1.out
    have qNOA := NOA.out
    have qNQA := NQA.out
    have qNLA := NLA.out
    have qNTA := NTA.out
    have qNMA := NMA.out
    have qNUA := NUA.out
    have qHAl := HAl.out
    have qNAa := NAa.out
    have qNAb := NAb.out
    have qN11 := N11.out
    have qHXl := HXl.out
    have qNOX := NOX.out
    have qN14 := N14.out
    have qNOG := NOG.out
    have qNQG := NQG.out
    have qNLG := NLG.out
    have qNTG := NTG.out
    have qNMG := NMG.out
    have qNUG := NUG.out
    have qHGl := HGl.out
    have qNGa := NGa.out
    have qNGb := NGb.out
    have qN24 := N24.out
    have qN25 := N25.out
    have qNR := NR.out
    have qN27 := N27.out
    have qN28 := N28.out
    have qN29 := N29.out
    have tCA := CA.out.top.1
    have tCG := CG.out.top.1
    have X := hide (X.out.seg s (by omega) (by simp; omega))
    have CA := hide (CA.out.seg s (by omega))
    have N30 := hide s.below.size
    clear s qN0 qN1 qNOA qNQA qNLA qNTA qNMA qNUA qHAl qNAa qNAb qN11 qHXl qNOX qN14 qNOG qNQG qNLG qNTG qNMG qNUG qHGl qNGa qNGb qN24 qN25 qNR qN27 qN28 qN29 tCA tCG
    have CG := hide CG2
    have c00 : w11.cell? ⟨w.heap.size, 0, none⟩ = some (.slice a1 l.length c1) := X.out.cell 0 0 rfl rfl
    have c01 : w11.cell? ⟨w.heap.size, 1, none⟩ = some (.slice a2 r.length c2) := X.out.cell 0 1 rfl rfl
    have c02 : w11.cell? ⟨w.heap.size, 2, none⟩ = some (.slice a3 ps.length c3) := X.out.cell 0 2 rfl rfl
    have c10 : w11.cell? ⟨w.heap.size + 1, 0, none⟩ = some (.int .i64 p) := X.out.cell 1 0 rfl rfl
    have c11 : w11.cell? ⟨w.heap.size + 1, 1, none⟩ = some (.int .i64 t) := X.out.cell 1 1 rfl rfl
    have c12 : w11.cell? ⟨w.heap.size + 1, 2, none⟩ = some (.int .i64 s) := X.out.cell 1 2 rfl rfl
    have c20 : w11.cell? ⟨gaA, 0, none⟩ = some (.slice gA1 S9.l.length kA1) := X.out.cell 2 0 rfl rfl
    have c21 : w11.cell? ⟨gaA, 1, none⟩ = some (.slice gA2 S9.r.length kA2) := X.out.cell 2 1 rfl rfl
    have c22 : w11.cell? ⟨gaA, 2, none⟩ = some (.slice gA3 S9.ps.length kA3) := X.out.cell 2 2 rfl rfl
    have c30 : w11.cell? ⟨gbA, 0, none⟩ = some (.int .i64 p) := X.out.cell 3 0 rfl rfl
    have c31 : w11.cell? ⟨gbA, 1, none⟩ = some (.int .i64 t) := X.out.cell 3 1 rfl rfl
    have c32 : w11.cell? ⟨gbA, 2, none⟩ = some (.int .i64 S9.s) := X.out.cell 3 2 rfl rfl
    have c40 : w11.cell? ⟨b4, 0, none⟩ = some (.slice gX1 l.length kX1) := X.out.cell 4 0 rfl rfl
    have c41 : w11.cell? ⟨b4, 1, none⟩ = some (.slice gX2 r.length kX2) := X.out.cell 4 1 rfl rfl
    have c42 : w11.cell? ⟨b4, 2, none⟩ = some (.slice gX3 ps.length kX3) := X.out.cell 4 2 rfl rfl
    have c50 : w11.cell? ⟨gaG, 0, none⟩ = some (.slice gG1 S9.l.length kG1) := X.out.cell 5 0 rfl rfl
    have c51 : w11.cell? ⟨gaG, 1, none⟩ = some (.slice gG2 S9.r.length kG2) := X.out.cell 5 1 rfl rfl
    have c52 : w11.cell? ⟨gaG, 2, none⟩ = some (.slice gG3 S9.ps.length kG3) := X.out.cell 5 2 rfl rfl
    have c60 : w11.cell? ⟨gbG, 0, none⟩ = some (.int .i64 p) := X.out.cell 6 0 rfl rfl
    have c61 : w11.cell? ⟨gbG, 1, none⟩ = some (.int .i64 t) := X.out.cell 6 1 rfl rfl
    have c62 : w11.cell? ⟨gbG, 2, none⟩ = some (.int .i64 S9.s) := X.out.cell 6 2 rfl rfl
    go_wp2_with fail
    clear c00 c01 c02 c10 c11 c12 c20 c21 c22 c30 c31 c32 c40 c41 c42 c50 c51 c52 c60 c61 c62
    go_at_call 16
    refine (HHd.out _ _ _ _ _ _ _ _ _ _ _ _ CG.out).mono ?_
    rintro e w12 ⟨rfl, hb⟩
    have X := hide (X.out.up hb)
    have CA := hide (CA.out.below hb)
    have CG := hide (CG.out.below hb)
    have N31 := hide hb.size
    clear hb
    have c00 : w12.cell? ⟨w.heap.size, 0, none⟩ = some (.slice a1 l.length c1) := X.out.cell 0 0 rfl rfl
    have c01 : w12.cell? ⟨w.heap.size, 1, none⟩ = some (.slice a2 r.length c2) := X.out.cell 0 1 rfl rfl
    have c02 : w12.cell? ⟨w.heap.size, 2, none⟩ = some (.slice a3 ps.length c3) := X.out.cell 0 2 rfl rfl
    have c10 : w12.cell? ⟨w.heap.size + 1, 0, none⟩ = some (.int .i64 p) := X.out.cell 1 0 rfl rfl
    have c11 : w12.cell? ⟨w.heap.size + 1, 1, none⟩ = some (.int .i64 t) := X.out.cell 1 1 rfl rfl
    have c12 : w12.cell? ⟨w.heap.size + 1, 2, none⟩ = some (.int .i64 s) := X.out.cell 1 2 rfl rfl
    have c20 : w12.cell? ⟨gaA, 0, none⟩ = some (.slice gA1 S9.l.length kA1) := X.out.cell 2 0 rfl rfl
    have c21 : w12.cell? ⟨gaA, 1, none⟩ = some (.slice gA2 S9.r.length kA2) := X.out.cell 2 1 rfl rfl
    have c22 : w12.cell? ⟨gaA, 2, none⟩ = some (.slice gA3 S9.ps.length kA3) := X.out.cell 2 2 rfl rfl
    have c30 : w12.cell? ⟨gbA, 0, none⟩ = some (.int .i64 p) := X.out.cell 3 0 rfl rfl
    have c31 : w12.cell? ⟨gbA, 1, none⟩ = some (.int .i64 t) := X.out.cell 3 1 rfl rfl
    have c32 : w12.cell? ⟨gbA, 2, none⟩ = some (.int .i64 S9.s) := X.out.cell 3 2 rfl rfl
    have c40 : w12.cell? ⟨b4, 0, none⟩ = some (.slice gX1 l.length kX1) := X.out.cell 4 0 rfl rfl
    have c41 : w12.cell? ⟨b4, 1, none⟩ = some (.slice gX2 r.length kX2) := X.out.cell 4 1 rfl rfl
    have c42 : w12.cell? ⟨b4, 2, none⟩ = some (.slice gX3 ps.length kX3) := X.out.cell 4 2 rfl rfl
    have c50 : w12.cell? ⟨gaG, 0, none⟩ = some (.slice gG1 S9.l.length kG1) := X.out.cell 5 0 rfl rfl
    have c51 : w12.cell? ⟨gaG, 1, none⟩ = some (.slice gG2 S9.r.length kG2) := X.out.cell 5 1 rfl rfl
    have c52 : w12.cell? ⟨gaG, 2, none⟩ = some (.slice gG3 S9.ps.length kG3) := X.out.cell 5 2 rfl rfl
    have c60 : w12.cell? ⟨gbG, 0, none⟩ = some (.int .i64 p) := X.out.cell 6 0 rfl rfl
    have c61 : w12.cell? ⟨gbG, 1, none⟩ = some (.int .i64 t) := X.out.cell 6 1 rfl rfl
    have c62 : w12.cell? ⟨gbG, 2, none⟩ = some (.int .i64 S9.s) := X.out.cell 6 2 rfl rfl
    go_upto_region 24 with fail
    have X1 := X
    go_cut [18, 19, 20] (fun q1 q2  q4 wx => ∃ (W' : World) (ga gb lo hi p1 q1' p2 q2' p3 q3' kH1 kH2 kH3 : Nat) (gH1 gH2 gH3 : Option Addr), W' = wx ∧ q1 = .pointer (some ⟨ga, 0, none⟩) ∧ q2 = .pointer (some ⟨gb, 0, none⟩) ∧ q4 = .int .i64 (S9.n : Int) ∧ Hid (Kn w12 wx [(ga, #[.slice gH1 S9.l.length kH1, .slice gH2 S9.r.length kH2, .slice gH3 S9.ps.length kH3], 31), (gb, #[.int .i64 p, .int .i64 t, .int .i64 S9.s], 32)]) ∧ Hid (OC wx (.slice gH1 S9.l.length kH1) (.slice gH2 S9.r.length kH2) (.slice gH3 S9.ps.length kH3) S9.l S9.r S9.ps lo hi p1 q1' p2 q2' p3 q3') ∧ Hid (w12.heap.size ≤ lo) ∧ Hid (ga < lo ∨ hi ≤ ga) ∧ Hid (gb < lo ∨ hi ≤ gb))
    case first => as_aux_lemma =>
      have HX1 := hide (fun (W' : World) (M : List (Nat × Array Value × TypeId)) (h : Kd [] w12 W' M) => X1.out.up (below_nil h))
      have KS := hide (fun (w' : World) (M : List (Nat × Array Value × TypeId)) (h : Kd [] w12 w' M) => show w'.cell? ⟨w.heap.size, 0, none⟩ = some (.slice a1 l.length c1) ∧ w'.cell? ⟨w.heap.size, 1, none⟩ = some (.slice a2 r.length c2) ∧ w'.cell? ⟨w.heap.size, 2, none⟩ = some (.slice a3 ps.length c3) ∧ w'.cell? ⟨w.heap.size + 1, 0, none⟩ = some (.int .i64 p) ∧ w'.cell? ⟨w.heap.size + 1, 1, none⟩ = some (.int .i64 t) ∧ w'.cell? ⟨w.heap.size + 1, 2, none⟩ = some (.int .i64 s) from ⟨(HX1.out _ _ h).cell 0 0 rfl rfl, (HX1.out _ _ h).cell 0 1 rfl rfl, (HX1.out _ _ h).cell 0 2 rfl rfl, (HX1.out _ _ h).cell 1 0 rfl rfl, (HX1.out _ _ h).cell 1 1 rfl rfl, (HX1.out _ _ h).cell 1 2 rfl rfl⟩)
      have F1 := hide (fun (W' : World) (u1 u2 u3 : Option Addr) (v1 v2 v3 : Nat) (h : Ck W' W'.heap.size (.agg #[.slice u1 l.length v1, .slice u2 r.length v2, .slice u3 ps.length v3]) l r ps) => show Bl (fun W => Ck W W.heap.size (.agg #[.slice u1 l.length v1, .slice u2 r.length v2, .slice u3 ps.length v3]) l r ps) W' from fun W2 hb2 => h.up hb2)
      have Y0 := hide (Kw.start (F := fun W => True) [] w12 (fun _ _ => True.intro))
      have F3 := hide (fun (W' : World) (x y z : Value) (lo hi n1 h1 n2 h2 n3 h3 : Nat) (O : OC W' x y z S9.l S9.r S9.ps lo hi n1 h1 n2 h2 n3 h3) => show Bl (fun W => OC W x y z S9.l S9.r S9.ps lo hi n1 h1 n2 h2 n3 h3) W' from fun W2 hb2 => O.below hb2)
      have HLO := hide (fun (W' : World) (M : List (Nat × Array Value × TypeId)) (h : Kd [] w12 W' M) (lo : Nat) (hl : W'.heap.size ≤ lo) => show w12.heap.size ≤ lo ∧ ∀ e ∈ M, e.1 < lo from ⟨Nat.le_trans (below_nil h).size hl, fun e he => Nat.lt_of_lt_of_le (Array.getElem?_eq_some_iff.1 (h.hold e he)).1 hl⟩)
      have Y := hide (Y0.out.drew)
      clear X X1 T HM0 hK HMk HHd hMn hMM CK CA CG HSP
      clear c00 c01 c02 c10 c11 c12 c20 c21 c22 c30 c31 c32 c40 c41 c42 c50 c51 c52 c60 c61 c62
      obtain ⟨c00, c01, c02, c10, c11, c12⟩ := KS.out _ _ Y.out.kd
      go_region_held3 (fun w' => w'.cell? ⟨w.heap.size, 0, none⟩ = some (.slice a1 l.length c1) ∧ w'.cell? ⟨w.heap.size, 1, none⟩ = some (.slice a2 r.length c2) ∧ w'.cell? ⟨w.heap.size, 2, none⟩ = some (.slice a3 ps.length c3) ∧ w'.cell? ⟨w.heap.size + 1, 0, none⟩ = some (.int .i64 p) ∧ w'.cell? ⟨w.heap.size + 1, 1, none⟩ = some (.int .i64 t) ∧ w'.cell? ⟨w.heap.size + 1, 2, none⟩ = some (.int .i64 s)) (first | with_reducible exact KS.out _ _ Y.out.kd | with_reducible exact KS.out _ _ (Y.out.alloc _ _).kd | with_reducible exact KS.out _ _ ((Y.out.alloc _ _).alloc _ _).kd | with_reducible exact KS.out _ _ (Y0.out.alloc _ _).drew.kd | with_reducible exact KS.out _ _ ((Y0.out.alloc _ _).alloc _ _).drew.kd | with_reducible exact KS.out _ _ (Y.out.kd.put3c 0 rfl _ _ _) | with_reducible exact KS.out _ _ (Y.out.kd.put3c 1 rfl _ _ _) | with_reducible exact KS.out _ _ ((Y.out.kd.put3c 0 rfl _ _ _).put3c 1 rfl _ _ _) | with_reducible exact KS.out _ _ ((Y.out.kd.put3c 1 rfl _ _ _).put3c 0 rfl _ _ _) | with_reducible exact KS.out _ _ ((Y.out.kd.put3c 0 rfl _ _ _).alloc _ _) | go_keep) (first
        | (go_at_call 10; refine (TA.out _ (by first | with_reducible exact (HX1.out _ _ Y.out.kd).below | with_reducible exact (HX1.out _ _ (Y.out.alloc _ _).kd).below | with_reducible exact (HX1.out _ _ ((Y.out.alloc _ _).alloc _ _).kd).below | with_reducible exact (HX1.out _ _ (Y0.out.alloc _ _).drew.kd).below | with_reducible exact (HX1.out _ _ ((Y0.out.alloc _ _).alloc _ _).drew.kd).below)).mono ?_; rintro e wq ⟨u1, v1, u2, v2, u3, v3, rfl, I, hb⟩; (first | replace Y := hide (by with_reducible exact Y.out.next hb (F1.out _ _ _ _ _ _ _ I)) | replace Y := hide (by with_reducible exact (Y.out.alloc _ _).next hb (F1.out _ _ _ _ _ _ _ I)) | replace Y := hide (by with_reducible exact ((Y.out.alloc _ _).alloc _ _).next hb (F1.out _ _ _ _ _ _ _ I)) | replace Y := hide (by with_reducible exact (Y0.out.alloc _ _).drew.next hb (F1.out _ _ _ _ _ _ _ I)) | replace Y := hide (by with_reducible exact ((Y0.out.alloc _ _).alloc _ _).drew.next hb (F1.out _ _ _ _ _ _ _ I))); clear I; clear hb c00 c01 c02 c10 c11 c12; obtain ⟨c00, c01, c02, c10, c11, c12⟩ := KS.out _ _ Y.out.kd; (try simp only [World.size_alloc, World.size_drew, List.cons_append, List.nil_append] at Y); (first | clear e00 e01 e02 f00 f01 f02 f0l | skip); (first | (have e00 := Y.out.kd.cell 0 0 rfl rfl; have e01 := Y.out.kd.cell 0 1 rfl rfl; have e02 := Y.out.kd.cell 0 2 rfl rfl; have f00 := Y.out.kd.free 0 0 rfl; have f01 := Y.out.kd.free 0 1 rfl; have f02 := Y.out.kd.free 0 2 rfl; have f0l := Y.out.kd.lt 0 rfl) | skip); (first | clear e10 e11 e12 f10 f11 f12 f1l n01 n10 | skip); (first | (have e10 := Y.out.kd.cell 1 0 rfl rfl; have e11 := Y.out.kd.cell 1 1 rfl rfl; have e12 := Y.out.kd.cell 1 2 rfl rfl; have f10 := Y.out.kd.free 1 0 rfl; have f11 := Y.out.kd.free 1 1 rfl; have f12 := Y.out.kd.free 1 2 rfl; have f1l := Y.out.kd.lt 1 rfl; have n01 := Y.out.kd.ne 0 1 rfl rfl (by decide); have n10 := Y.out.kd.ne 1 0 rfl rfl (by decide); (try simp only [World.size_alloc, World.size_drew] at e10 e11 e12 f10 f11 f12 f1l n01 n10)) | skip))
        | (go_at_call 11; refine (toSettings_any _ _ _ _).mono ?_; rintro e wq ⟨rfl, hb⟩; (first | replace Y := hide (by with_reducible exact Y.out.up hb) | replace Y := hide (by with_reducible exact (Y.out.alloc _ _).up hb) | replace Y := hide (by with_reducible exact ((Y.out.alloc _ _).alloc _ _).up hb) | replace Y := hide (by with_reducible exact (Y0.out.alloc _ _).drew.up hb) | replace Y := hide (by with_reducible exact ((Y0.out.alloc _ _).alloc _ _).drew.up hb)); clear hb c00 c01 c02 c10 c11 c12; obtain ⟨c00, c01, c02, c10, c11, c12⟩ := KS.out _ _ Y.out.kd; (try simp only [World.size_alloc, World.size_drew, List.cons_append, List.nil_append] at Y); (first | clear e00 e01 e02 f00 f01 f02 f0l | skip); (first | (have e00 := Y.out.kd.cell 0 0 rfl rfl; have e01 := Y.out.kd.cell 0 1 rfl rfl; have e02 := Y.out.kd.cell 0 2 rfl rfl; have f00 := Y.out.kd.free 0 0 rfl; have f01 := Y.out.kd.free 0 1 rfl; have f02 := Y.out.kd.free 0 2 rfl; have f0l := Y.out.kd.lt 0 rfl) | skip); (first | clear e10 e11 e12 f10 f11 f12 f1l n01 n10 | skip); (first | (have e10 := Y.out.kd.cell 1 0 rfl rfl; have e11 := Y.out.kd.cell 1 1 rfl rfl; have e12 := Y.out.kd.cell 1 2 rfl rfl; have f10 := Y.out.kd.free 1 0 rfl; have f11 := Y.out.kd.free 1 1 rfl; have f12 := Y.out.kd.free 1 2 rfl; have f1l := Y.out.kd.lt 1 rfl; have n01 := Y.out.kd.ne 0 1 rfl rfl (by decide); have n10 := Y.out.kd.ne 1 0 rfl rfl (by decide); (try simp only [World.size_alloc, World.size_drew] at e10 e11 e12 f10 f11 f12 f1l n01 n10)) | skip))
        | (go_at_call 12; refine (HIP.out _ _ (by first | with_reducible exact Y.out.now | with_reducible exact (Y.out.alloc _ _).now | with_reducible exact ((Y.out.alloc _ _).alloc _ _).now | with_reducible exact (Y0.out.alloc _ _).drew.now | with_reducible exact ((Y0.out.alloc _ _).alloc _ _).drew.now)).mono ?_; rintro e wq ⟨x', y', z', lo, hi, p1, q1', p2, q2', p3, q3', rfl, hlo, hhi, O, hb⟩; obtain ⟨gH1, kH1, rfl⟩ := O.x.form; obtain ⟨gH2, kH2, rfl⟩ := O.y.form; obtain ⟨gH3, kH3, rfl⟩ := O.z.own.form; (first | have HL := (by with_reducible exact HLO.out _ _ Y.out.kd _ hlo) | have HL := (by with_reducible exact HLO.out _ _ (Y.out.alloc _ _).kd _ hlo) | have HL := (by with_reducible exact HLO.out _ _ ((Y.out.alloc _ _).alloc _ _).kd _ hlo) | have HL := (by with_reducible exact HLO.out _ _ (Y0.out.alloc _ _).drew.kd _ hlo) | have HL := (by with_reducible exact HLO.out _ _ ((Y0.out.alloc _ _).alloc _ _).drew.kd _ hlo)); have HR := hide HL.1; have HM := hide HL.2; clear HL hlo hhi; (first | replace Y := hide (by with_reducible exact Y.out.next hb (F3.out _ _ _ _ _ _ _ _ _ _ _ _ O)) | replace Y := hide (by with_reducible exact (Y.out.alloc _ _).next hb (F3.out _ _ _ _ _ _ _ _ _ _ _ _ O)) | replace Y := hide (by with_reducible exact ((Y.out.alloc _ _).alloc _ _).next hb (F3.out _ _ _ _ _ _ _ _ _ _ _ _ O)) | replace Y := hide (by with_reducible exact (Y0.out.alloc _ _).drew.next hb (F3.out _ _ _ _ _ _ _ _ _ _ _ _ O)) | replace Y := hide (by with_reducible exact ((Y0.out.alloc _ _).alloc _ _).drew.next hb (F3.out _ _ _ _ _ _ _ _ _ _ _ _ O))); clear O; clear hb c00 c01 c02 c10 c11 c12; obtain ⟨c00, c01, c02, c10, c11, c12⟩ := KS.out _ _ Y.out.kd; (try simp only [World.size_alloc, World.size_drew, List.cons_append, List.nil_append] at Y); (first | clear e00 e01 e02 f00 f01 f02 f0l | skip); (first | (have e00 := Y.out.kd.cell 0 0 rfl rfl; have e01 := Y.out.kd.cell 0 1 rfl rfl; have e02 := Y.out.kd.cell 0 2 rfl rfl; have f00 := Y.out.kd.free 0 0 rfl; have f01 := Y.out.kd.free 0 1 rfl; have f02 := Y.out.kd.free 0 2 rfl; have f0l := Y.out.kd.lt 0 rfl) | skip); (first | clear e10 e11 e12 f10 f11 f12 f1l n01 n10 | skip); (first | (have e10 := Y.out.kd.cell 1 0 rfl rfl; have e11 := Y.out.kd.cell 1 1 rfl rfl; have e12 := Y.out.kd.cell 1 2 rfl rfl; have f10 := Y.out.kd.free 1 0 rfl; have f11 := Y.out.kd.free 1 1 rfl; have f12 := Y.out.kd.free 1 2 rfl; have f1l := Y.out.kd.lt 1 rfl; have n01 := Y.out.kd.ne 0 1 rfl rfl (by decide); have n10 := Y.out.kd.ne 1 0 rfl rfl (by decide); (try simp only [World.size_alloc, World.size_drew] at e10 e11 e12 f10 f11 f12 f1l n01 n10)) | skip); (try simp only [World.size_alloc, World.size_drew, List.cons_append, List.nil_append] at HM)))
      all_goals go_wp2_with fail
      all_goals go_meet
      all_goals first
        | (have Z := (Y.out.kd.alloc #[.slice gH1 S9.l.length kH1, .slice gH2 S9.r.length kH2, .slice gH3 S9.ps.length kH3] 31).alloc #[.int .i64 p, .int .i64 t, .int .i64 S9.s] 32; simp only [World.size_alloc, World.size_drew, World.size_setCell, List.set_cons_zero, List.set_cons_succ, List.cons_append, List.nil_append] at Z; have Zk := Z.kn; refine ⟨_, _, _, lo, hi, p1, q1', p2, q2', p3, q3', kH1, kH2, kH3, gH1, gH2, gH3, rfl, rfl, rfl, rfl, (by with_reducible exact hide Zk), ?_, HR.out, ?_, ?_⟩; (exact (Y.out.hold _ (below2 _ _ _))); (exact (.inr (Nat.le_trans (Y.out.now.top.2) (by simp)))); (exact (.inr (Nat.le_trans (Y.out.now.top.2) (by simp)))))
        | (have Z := (Y.out.kd.alloc #[.int .i64 p, .int .i64 t, .int .i64 S9.s] 32).alloc #[.slice gH1 S9.l.length kH1, .slice gH2 S9.r.length kH2, .slice gH3 S9.ps.length kH3] 31; simp only [World.size_alloc, World.size_drew, World.size_setCell, List.set_cons_zero, List.set_cons_succ, List.cons_append, List.nil_append] at Z; have Zk := Z.kn.swap; refine ⟨_, _, _, lo, hi, p1, q1', p2, q2', p3, q3', kH1, kH2, kH3, gH1, gH2, gH3, rfl, rfl, rfl, rfl, (by with_reducible exact hide Zk), ?_, HR.out, ?_, ?_⟩; (exact (Y.out.hold _ (below2 _ _ _))); (exact (.inr (Nat.le_trans (Y.out.now.top.2) (by simp)))); (exact (.inr (Nat.le_trans (Y.out.now.top.2) (by simp)))))
        | (have Z := (Y.out.kd.put3c 0 rfl (.slice gH1 S9.l.length kH1) (.slice gH2 S9.r.length kH2) (.slice gH3 S9.ps.length kH3)).alloc #[.int .i64 p, .int .i64 t, .int .i64 S9.s] 32; (try simp only [World.size_alloc, World.size_drew, World.size_setCell, List.set_cons_zero, List.set_cons_succ, List.cons_append, List.nil_append] at Z); have Zk := Z.kn; refine ⟨_, _, _, lo, hi, p1, q1', p2, q2', p3, q3', kH1, kH2, kH3, gH1, gH2, gH3, rfl, rfl, rfl, rfl, (by with_reducible exact hide Zk), ?_, HR.out, ?_, ?_⟩; (exact (Y.out.now.seg (seg3 _ _ _ _ _) (.inr (HM.out _ (List.mem_cons_self ..)))).below (below1 _ _)); (exact .inl (HM.out _ (List.mem_cons_self ..))); (exact (.inr (Nat.le_trans (Y.out.now.top.2) (by simp)))))
        | (have Z := (Y.out.kd.put3c 0 rfl (.int .i64 p) (.int .i64 t) (.int .i64 S9.s)).alloc #[.slice gH1 S9.l.length kH1, .slice gH2 S9.r.length kH2, .slice gH3 S9.ps.length kH3] 31; (try simp only [World.size_alloc, World.size_drew, World.size_setCell, List.set_cons_zero, List.set_cons_succ, List.cons_append, List.nil_append] at Z); have Zk := Z.kn.swap; refine ⟨_, _, _, lo, hi, p1, q1', p2, q2', p3, q3', kH1, kH2, kH3, gH1, gH2, gH3, rfl, rfl, rfl, rfl, (by with_reducible exact hide Zk), ?_, HR.out, ?_, ?_⟩; (exact (Y.out.now.seg (seg3 _ _ _ _ _) (.inr (HM.out _ (List.mem_cons_self ..)))).below (below1 _ _)); (exact (.inr (Nat.le_trans (Y.out.now.top.2) (by simp)))); (exact .inl (HM.out _ (List.mem_cons_self ..))))
        | (have Z := (Y.out.kd.put3c 0 rfl (.slice gH1 S9.l.length kH1) (.slice gH2 S9.r.length kH2) (.slice gH3 S9.ps.length kH3)).put3c 1 rfl (.int .i64 p) (.int .i64 t) (.int .i64 S9.s); (try simp only [World.size_alloc, World.size_drew, World.size_setCell, List.set_cons_zero, List.set_cons_succ, List.cons_append, List.nil_append] at Z); have Zk := Z.kn; refine ⟨_, _, _, lo, hi, p1, q1', p2, q2', p3, q3', kH1, kH2, kH3, gH1, gH2, gH3, rfl, rfl, rfl, rfl, (by with_reducible exact hide Zk), ?_, HR.out, ?_, ?_⟩; (exact (Y.out.now.seg (seg3 _ _ _ _ _) (.inr (HM.out _ (List.mem_cons_self ..)))).seg (seg3 _ _ _ _ _) (.inr (HM.out _ (List.mem_cons_of_mem _ (List.mem_cons_self ..))))); (exact .inl (HM.out _ (List.mem_cons_self ..))); (exact .inl (HM.out _ (List.mem_cons_of_mem _ (List.mem_cons_self ..)))))
        | (have Z := (Y.out.kd.put3c 1 rfl (.slice gH1 S9.l.length kH1) (.slice gH2 S9.r.length kH2) (.slice gH3 S9.ps.length kH3)).put3c 0 rfl (.int .i64 p) (.int .i64 t) (.int .i64 S9.s); (try simp only [World.size_alloc, World.size_drew, World.size_setCell, List.set_cons_zero, List.set_cons_succ, List.cons_append, List.nil_append] at Z); have Zk := Z.kn.swap; refine ⟨_, _, _, lo, hi, p1, q1', p2, q2', p3, q3', kH1, kH2, kH3, gH1, gH2, gH3, rfl, rfl, rfl, rfl, (by with_reducible exact hide Zk), ?_, HR.out, ?_, ?_⟩; (exact (Y.out.now.seg (seg3 _ _ _ _ _) (.inr (HM.out _ (List.mem_cons_of_mem _ (List.mem_cons_self ..))))).seg (seg3 _ _ _ _ _) (.inr (HM.out _ (List.mem_cons_self ..)))); (exact .inl (HM.out _ (List.mem_cons_of_mem _ (List.mem_cons_self ..)))); (exact .inl (HM.out _ (List.mem_cons_self ..))))
        | fail "fin"
    case rest =>
    obtain ⟨w13, gaH, gbH, loH, hiH, pH1, qH1, pH2, qH2, pH3, qH3, kH1, kH2, kH3, gH1, gH2, gH3, rfl, rfl, rfl, rfl, Y, CH, HHl, NHa, NHb⟩ := hcut
    have hbY := Y.out.below
    have CA := hide (CA.out.below hbY)
    have CG := hide (CG.out.below hbY)
    have NQH := hide hbY.size
    have NLH := hide (Y.out.low 0 rfl)
    have NTH := hide (Y.out.lt 0 rfl)
    have NMH := hide (Y.out.low 1 rfl)
    have NUH := hide (Y.out.lt 1 rfl)
    have X := hide (Kn.join X1.out Y.out)
    simp only [List.cons_append, List.nil_append] at X
    clear hbY Y X1 c00 c01 c02 c10 c11 c12 c20 c21 c22 c30 c31 c32 c40 c41 c42 c50 c51 c52 c60 c61 c62
    have NOH := hide CH.out.top.2
    have c00 : w13.cell? ⟨w.heap.size, 0, none⟩ = some (.slice a1 l.length c1) := X.out.cell 0 0 rfl rfl
    have c01 : w13.cell? ⟨w.heap.size, 1, none⟩ = some (.slice a2 r.length c2) := X.out.cell 0 1 rfl rfl
    have c02 : w13.cell? ⟨w.heap.size, 2, none⟩ = some (.slice a3 ps.length c3) := X.out.cell 0 2 rfl rfl
    have c10 : w13.cell? ⟨w.heap.size + 1, 0, none⟩ = some (.int .i64 p) := X.out.cell 1 0 rfl rfl
    have c11 : w13.cell? ⟨w.heap.size + 1, 1, none⟩ = some (.int .i64 t) := X.out.cell 1 1 rfl rfl
    have c12 : w13.cell? ⟨w.heap.size + 1, 2, none⟩ = some (.int .i64 s) := X.out.cell 1 2 rfl rfl
    have c20 : w13.cell? ⟨gaA, 0, none⟩ = some (.slice gA1 S9.l.length kA1) := X.out.cell 2 0 rfl rfl
    have c21 : w13.cell? ⟨gaA, 1, none⟩ = some (.slice gA2 S9.r.length kA2) := X.out.cell 2 1 rfl rfl
    have c22 : w13.cell? ⟨gaA, 2, none⟩ = some (.slice gA3 S9.ps.length kA3) := X.out.cell 2 2 rfl rfl
    have c30 : w13.cell? ⟨gbA, 0, none⟩ = some (.int .i64 p) := X.out.cell 3 0 rfl rfl
    have c31 : w13.cell? ⟨gbA, 1, none⟩ = some (.int .i64 t) := X.out.cell 3 1 rfl rfl
    have c32 : w13.cell? ⟨gbA, 2, none⟩ = some (.int .i64 S9.s) := X.out.cell 3 2 rfl rfl
    have c40 : w13.cell? ⟨b4, 0, none⟩ = some (.slice gX1 l.length kX1) := X.out.cell 4 0 rfl rfl
    have c41 : w13.cell? ⟨b4, 1, none⟩ = some (.slice gX2 r.length kX2) := X.out.cell 4 1 rfl rfl
    have c42 : w13.cell? ⟨b4, 2, none⟩ = some (.slice gX3 ps.length kX3) := X.out.cell 4 2 rfl rfl
    have c50 : w13.cell? ⟨gaG, 0, none⟩ = some (.slice gG1 S9.l.length kG1) := X.out.cell 5 0 rfl rfl
    have c51 : w13.cell? ⟨gaG, 1, none⟩ = some (.slice gG2 S9.r.length kG2) := X.out.cell 5 1 rfl rfl
    have c52 : w13.cell? ⟨gaG, 2, none⟩ = some (.slice gG3 S9.ps.length kG3) := X.out.cell 5 2 rfl rfl
    have c60 : w13.cell? ⟨gbG, 0, none⟩ = some (.int .i64 p) := X.out.cell 6 0 rfl rfl
    have c61 : w13.cell? ⟨gbG, 1, none⟩ = some (.int .i64 t) := X.out.cell 6 1 rfl rfl
    have c62 : w13.cell? ⟨gbG, 2, none⟩ = some (.int .i64 S9.s) := X.out.cell 6 2 rfl rfl
    have c70 : w13.cell? ⟨gaH, 0, none⟩ = some (.slice gH1 S9.l.length kH1) := X.out.cell 7 0 rfl rfl
    have c71 : w13.cell? ⟨gaH, 1, none⟩ = some (.slice gH2 S9.r.length kH2) := X.out.cell 7 1 rfl rfl
    have c72 : w13.cell? ⟨gaH, 2, none⟩ = some (.slice gH3 S9.ps.length kH3) := X.out.cell 7 2 rfl rfl
    have c80 : w13.cell? ⟨gbH, 0, none⟩ = some (.int .i64 p) := X.out.cell 8 0 rfl rfl
    have c81 : w13.cell? ⟨gbH, 1, none⟩ = some (.int .i64 t) := X.out.cell 8 1 rfl rfl
    have c82 : w13.cell? ⟨gbH, 2, none⟩ = some (.int .i64 S9.s) := X.out.cell 8 2 rfl rfl
    go_wp2_with fail
    clear c00 c01 c02 c10 c11 c12 c20 c21 c22 c30 c31 c32 c40 c41 c42 c50 c51 c52 c60 c61 c62 c70 c71 c72 c80 c81 c82
    go_at_call 13
    refine (eqCracker_same _ _ S9.l S9.r S9.ps _ _ (Nat.le_refl _) (CK.out _ _ _ _ _ _ _ _ _ _ _ _ CH.out) (CK.out _ _ _ _ _ _ _ _ _ _ _ _ CA.out)).mono ?_
    rintro e w14 ⟨rfl, hb⟩
    have X := hide (X.out.up hb)
    have CA := hide (CA.out.below hb)
    have CG := hide (CG.out.below hb)
    have CH := hide (CH.out.below hb)
    have N41 := hide hb.size
    clear hb
    have c00 : w14.cell? ⟨w.heap.size, 0, none⟩ = some (.slice a1 l.length c1) := X.out.cell 0 0 rfl rfl
    have c01 : w14.cell? ⟨w.heap.size, 1, none⟩ = some (.slice a2 r.length c2) := X.out.cell 0 1 rfl rfl
    have c02 : w14.cell? ⟨w.heap.size, 2, none⟩ = some (.slice a3 ps.length c3) := X.out.cell 0 2 rfl rfl
    have c10 : w14.cell? ⟨w.heap.size + 1, 0, none⟩ = some (.int .i64 p) := X.out.cell 1 0 rfl rfl
    have c11 : w14.cell? ⟨w.heap.size + 1, 1, none⟩ = some (.int .i64 t) := X.out.cell 1 1 rfl rfl
    have c12 : w14.cell? ⟨w.heap.size + 1, 2, none⟩ = some (.int .i64 s) := X.out.cell 1 2 rfl rfl
    have c20 : w14.cell? ⟨gaA, 0, none⟩ = some (.slice gA1 S9.l.length kA1) := X.out.cell 2 0 rfl rfl
    have c21 : w14.cell? ⟨gaA, 1, none⟩ = some (.slice gA2 S9.r.length kA2) := X.out.cell 2 1 rfl rfl
    have c22 : w14.cell? ⟨gaA, 2, none⟩ = some (.slice gA3 S9.ps.length kA3) := X.out.cell 2 2 rfl rfl
    have c30 : w14.cell? ⟨gbA, 0, none⟩ = some (.int .i64 p) := X.out.cell 3 0 rfl rfl
    have c31 : w14.cell? ⟨gbA, 1, none⟩ = some (.int .i64 t) := X.out.cell 3 1 rfl rfl
    have c32 : w14.cell? ⟨gbA, 2, none⟩ = some (.int .i64 S9.s) := X.out.cell 3 2 rfl rfl
    have c40 : w14.cell? ⟨b4, 0, none⟩ = some (.slice gX1 l.length kX1) := X.out.cell 4 0 rfl rfl
    have c41 : w14.cell? ⟨b4, 1, none⟩ = some (.slice gX2 r.length kX2) := X.out.cell 4 1 rfl rfl
    have c42 : w14.cell? ⟨b4, 2, none⟩ = some (.slice gX3 ps.length kX3) := X.out.cell 4 2 rfl rfl
    have c50 : w14.cell? ⟨gaG, 0, none⟩ = some (.slice gG1 S9.l.length kG1) := X.out.cell 5 0 rfl rfl
    have c51 : w14.cell? ⟨gaG, 1, none⟩ = some (.slice gG2 S9.r.length kG2) := X.out.cell 5 1 rfl rfl
    have c52 : w14.cell? ⟨gaG, 2, none⟩ = some (.slice gG3 S9.ps.length kG3) := X.out.cell 5 2 rfl rfl
    have c60 : w14.cell? ⟨gbG, 0, none⟩ = some (.int .i64 p) := X.out.cell 6 0 rfl rfl
    have c61 : w14.cell? ⟨gbG, 1, none⟩ = some (.int .i64 t) := X.out.cell 6 1 rfl rfl
    have c62 : w14.cell? ⟨gbG, 2, none⟩ = some (.int .i64 S9.s) := X.out.cell 6 2 rfl rfl
    have c70 : w14.cell? ⟨gaH, 0, none⟩ = some (.slice gH1 S9.l.length kH1) := X.out.cell 7 0 rfl rfl
    have c71 : w14.cell? ⟨gaH, 1, none⟩ = some (.slice gH2 S9.r.length kH2) := X.out.cell 7 1 rfl rfl
    have c72 : w14.cell? ⟨gaH, 2, none⟩ = some (.slice gH3 S9.ps.length kH3) := X.out.cell 7 2 rfl rfl
    have c80 : w14.cell? ⟨gbH, 0, none⟩ = some (.int .i64 p) := X.out.cell 8 0 rfl rfl
    have c81 : w14.cell? ⟨gbH, 1, none⟩ = some (.int .i64 t) := X.out.cell 8 1 rfl rfl
    have c82 : w14.cell? ⟨gbH, 2, none⟩ = some (.int .i64 S9.s) := X.out.cell 8 2 rfl rfl
    go_wp2_with fail
    clear c00 c01 c02 c10 c11 c12 c20 c21 c22 c30 c31 c32 c40 c41 c42 c50 c51 c52 c60 c61 c62 c70 c71 c72 c80 c81 c82
    go_at_call 14
    refine (eqSettings_same _ _ _ _).mono ?_
    rintro e w15 ⟨rfl, hb⟩
    have X := hide (X.out.up hb)
    have CA := hide (CA.out.below hb)
    have CG := hide (CG.out.below hb)
    have CH := hide (CH.out.below hb)
    have N42 := hide hb.size
    clear hb
    have c00 : w15.cell? ⟨w.heap.size, 0, none⟩ = some (.slice a1 l.length c1) := X.out.cell 0 0 rfl rfl
    have c01 : w15.cell? ⟨w.heap.size, 1, none⟩ = some (.slice a2 r.length c2) := X.out.cell 0 1 rfl rfl
    have c02 : w15.cell? ⟨w.heap.size, 2, none⟩ = some (.slice a3 ps.length c3) := X.out.cell 0 2 rfl rfl
    have c10 : w15.cell? ⟨w.heap.size + 1, 0, none⟩ = some (.int .i64 p) := X.out.cell 1 0 rfl rfl
    have c11 : w15.cell? ⟨w.heap.size + 1, 1, none⟩ = some (.int .i64 t) := X.out.cell 1 1 rfl rfl
    have c12 : w15.cell? ⟨w.heap.size + 1, 2, none⟩ = some (.int .i64 s) := X.out.cell 1 2 rfl rfl
    have c20 : w15.cell? ⟨gaA, 0, none⟩ = some (.slice gA1 S9.l.length kA1) := X.out.cell 2 0 rfl rfl
    have c21 : w15.cell? ⟨gaA, 1, none⟩ = some (.slice gA2 S9.r.length kA2) := X.out.cell 2 1 rfl rfl
    have c22 : w15.cell? ⟨gaA, 2, none⟩ = some (.slice gA3 S9.ps.length kA3) := X.out.cell 2 2 rfl rfl
    have c30 : w15.cell? ⟨gbA, 0, none⟩ = some (.int .i64 p) := X.out.cell 3 0 rfl rfl
    have c31 : w15.cell? ⟨gbA, 1, none⟩ = some (.int .i64 t) := X.out.cell 3 1 rfl rfl
    have c32 : w15.cell? ⟨gbA, 2, none⟩ = some (.int .i64 S9.s) := X.out.cell 3 2 rfl rfl
    have c40 : w15.cell? ⟨b4, 0, none⟩ = some (.slice gX1 l.length kX1) := X.out.cell 4 0 rfl rfl
    have c41 : w15.cell? ⟨b4, 1, none⟩ = some (.slice gX2 r.length kX2) := X.out.cell 4 1 rfl rfl
    have c42 : w15.cell? ⟨b4, 2, none⟩ = some (.slice gX3 ps.length kX3) := X.out.cell 4 2 rfl rfl
    have c50 : w15.cell? ⟨gaG, 0, none⟩ = some (.slice gG1 S9.l.length kG1) := X.out.cell 5 0 rfl rfl
    have c51 : w15.cell? ⟨gaG, 1, none⟩ = some (.slice gG2 S9.r.length kG2) := X.out.cell 5 1 rfl rfl
    have c52 : w15.cell? ⟨gaG, 2, none⟩ = some (.slice gG3 S9.ps.length kG3) := X.out.cell 5 2 rfl rfl
    have c60 : w15.cell? ⟨gbG, 0, none⟩ = some (.int .i64 p) := X.out.cell 6 0 rfl rfl
    have c61 : w15.cell? ⟨gbG, 1, none⟩ = some (.int .i64 t) := X.out.cell 6 1 rfl rfl
    have c62 : w15.cell? ⟨gbG, 2, none⟩ = some (.int .i64 S9.s) := X.out.cell 6 2 rfl rfl
    have c70 : w15.cell? ⟨gaH, 0, none⟩ = some (.slice gH1 S9.l.length kH1) := X.out.cell 7 0 rfl rfl
    have c71 : w15.cell? ⟨gaH, 1, none⟩ = some (.slice gH2 S9.r.length kH2) := X.out.cell 7 1 rfl rfl
    have c72 : w15.cell? ⟨gaH, 2, none⟩ = some (.slice gH3 S9.ps.length kH3) := X.out.cell 7 2 rfl rfl
    have c80 : w15.cell? ⟨gbH, 0, none⟩ = some (.int .i64 p) := X.out.cell 8 0 rfl rfl
    have c81 : w15.cell? ⟨gbH, 1, none⟩ = some (.int .i64 t) := X.out.cell 8 1 rfl rfl
    have c82 : w15.cell? ⟨gbH, 2, none⟩ = some (.int .i64 S9.s) := X.out.cell 8 2 rfl rfl
    go_wp2_with fail
    clear c00 c01 c02 c10 c11 c12 c20 c21 c22 c30 c31 c32 c40 c41 c42 c50 c51 c52 c60 c61 c62 c70 c71 c72 c80 c81 c82
    go_at_call 16
    refine (HHd.out _ _ _ _ _ _ _ _ _ _ _ _ CG.out).mono ?_
    rintro e w16 ⟨rfl, hb⟩
    have X := hide (X.out.up hb)
    have CA := hide (CA.out.below hb)
    have CG := hide (CG.out.below hb)
    have CH := hide (CH.out.below hb)
    have N43 := hide hb.size
    clear hb
    go_wp2_with fail
    go_ret
    exact ⟨rfl, X.out.below⟩

set_option maxRecDepth 100000 in
theorem lifted (os : Os) (started : os.Started) (H : Type) (enc : TypeId × Value → H) :
    ReturnsInHanded {} Try.checked os 3 .any (Rows.fnExactCrackWithSpec.pre6 enc Try.prog Try.f3 Rows.fnExactCrackWithRow.domain false) (Rows.fnExactCrackWithSpec.post enc Try.prog Try.f3 false true false false) := by
  refine returnsInHanded_of_change (C := Try.checked) own started (by kernel_rfl) Try.func3
    (ChangeSpec.witness6 (enc := enc) (C := Try.checked) false ⟨#[], #[.agg #[.slice none 0 0, .slice none 0 0, .slice none 0 0], .agg #[.int .i64 0, .int .i64 0, .int .i64 0], .int .i64 0], []⟩ 8 (by kernel_rfl) (by kernel_rfl) (by kernel_rfl) (by kernel_rfl)) ?_
  intro W base args ds gs before hval0 hW hcnd _
  have hval : ∀ (j : Nat) t v, Try.f3.params[j]? = some t → args[j]? = some v → Value.okWide Try.prog W .any base t v := hval0
  have hW' := hW
  obtain ⟨p, q, hA0, hV, rfl, hfz, hnd⟩ := hW
  have hA : DataW.TrodAll enc Try.prog W 0 (fun _ => true) true Try.f3.params.toList args.toList ds p := hA0
  rw [Try.params3] at hA hval
  obtain ⟨v0, vs0, d0, ds0, p0, q0, hargs, rfl, rfl, h0, r0⟩ := trodAll_cons hA
  obtain ⟨v1, vs1, d1, ds1, p1, q1, rfl, rfl, rfl, h1, r1⟩ := trodAll_cons r0
  obtain ⟨v2, vs2, d2, ds2, p2, q2, rfl, rfl, rfl, h2, r2⟩ := trodAll_cons r1
  obtain ⟨rfl, rfl, rfl⟩ := trodAll_nil r2
  obtain rfl : args = #[v0, v1, v2] := by cases args; simp_all
  obtain ⟨rfl, rfl⟩ := trodVars_none hV
  have k0 := h0
  have lt0 : ∀ x ∈ p0, x.block < W.heap.size := by obtain ⟨m, hm⟩ := k0; exact DataW.trod_lt m _ _ _ hm
  have k1 := h1
  have lt1 : ∀ x ∈ p1, x.block < W.heap.size := by obtain ⟨m, hm⟩ := k1; exact DataW.trod_lt m _ _ _ hm
  have k2 := h2
  have lt2 : ∀ x ∈ p2, x.block < W.heap.size := by obtain ⟨m, hm⟩ := k2; exact DataW.trod_lt m _ _ _ hm
  have w0 := open_ck (hval 0 25 v0 rfl rfl) h0
  have w1 := open_st (hval 1 27 v1 rfl rfl) h1
  obtain ⟨a2, rfl, e2, f2, w2⟩ := open_int Try.underlying3 (hval 2 3 v2 rfl rfl) h2
  clear hA0 hval0
  refine (walk W v0 w0 v1 w1 a2 w2).mono fun e W' ⟨he, bel⟩ => ?_
  subst he
  exact ⟨_, rfl, _, _, _, [], _, [], hW', trodAll_mk1 (shut_bool Try.underlying4 _), (trodAll_cons_mk (Below.trod laidOut (by kernel_rfl) (of_decide_eq_true (by kernel_rfl)) k0 bel lt0) (trodAll_cons_mk (Below.trod laidOut (by kernel_rfl) (of_decide_eq_true (by kernel_rfl)) k1 bel lt1) (trodAll_cons_mk (Below.trod laidOut (by kernel_rfl) (of_decide_eq_true (by kernel_rfl)) k2 bel lt2) trodAll_mk0))), rfl, bel.frame _, fun h => by cases h⟩

theorem over : Rows.fnExactCrackWithRow.holds Try.pinned (OpenSpec.ofChange Rows.fnExactCrackWithSpec) :=
  OpenClaim.holds_of_wide 3 Try.f3 rfl rfl rfl rfl rfl rfl rfl ⟨rfl, rfl, rfl, rfl, rfl⟩ rfl rfl rfl rfl rfl (by kernel_rfl) Try.func3 (by kernel_rfl)
    (of_decide_eq_true (by kernel_rfl)) (by unfold Func.isWrapper; first | (rw [if_pos (by decide +kernel)]; kernel_rfl) | (rw [if_neg (by decide +kernel)]; exact ⟨rfl, rfl⟩))
    (fun os started H enc _ => lifted os started H enc)

/-- The statement. -/
theorem proved : Rows.FnExactCrackWithSaid := over
#print axioms proved
end Go.Proofs.Ytdjhnamofmcmjaa.fnExactCrackWith
