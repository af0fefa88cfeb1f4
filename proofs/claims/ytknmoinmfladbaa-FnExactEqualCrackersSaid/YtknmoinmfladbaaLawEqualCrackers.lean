/- The law FnExactEqualCrackers holds: whatever the arguments, the call returns true, and they read afterwards as before. -/
import Derived.Test.YtknmoinmfladbaaRows
import Derived.WalkKit
import Derived.ProofKit
import Derived.OpenShut
import Derived.ShutString
import Derived.ChangeOld
import Derived.Below
import Derived.Test.YtknmoinmfladbaaCkX
namespace Go.Proofs.Ytknmoinmfladbaa.fnExactEqualCrackers
open Go.ChangeShapes Go.WideShapes Go.ChangeAt Go.RowKit
open Go.ChangeMaps (open_string shut_string)
set_option linter.unusedVariables false
set_option linter.unusedSimpArgs false

theorem own : ownKnob Try.prog.godebug = none := by kernel_rfl
theorem laidOut : laidOutB Try.prog = true := by kernel_rfl

set_option maxRecDepth 100000 in
set_option maxHeartbeats 4000000 in
theorem walk (w : World) (v0 : Value) (w0 : ∃ l r ps, Ck w w.heap.size v0 l r ps) (v1 : Value) (w1' : ∃ l r ps, Ck w w.heap.size v1 l r ps) :
    Calls Try.prog 9 #[v0, v1] w fun e w' => e = .returned (.bool true) ∧ Below w.heap.size w w' := by
  obtain ⟨l, r, ps, ha⟩ := w0
  obtain ⟨l', r', ps', hb'⟩ := w1'
  obtain ⟨a1, c1, a2, c2, a3, c3, rfl, -, -, -⟩ := ha.form
  obtain ⟨b1, k1, b2, k2, b3, k3, rfl, -, -, -⟩ := hb'.form
  have HA := hide (fun (W : World) (h : Below w.heap.size w W) => ha.below h (Nat.le_refl _))
  have HB := hide (fun (W : World) (h : Below w.heap.size w W) => hb'.below h (Nat.le_refl _))
  clear ha hb'
  have X := hide (Kn.two w #[.slice a1 l.length c1, .slice a2 r.length c2, .slice a3 ps.length c3] #[.slice b1 l'.length k1, .slice b2 r'.length k2, .slice b3 ps'.length k3] 35 35)
  obtain ⟨w1, hw1⟩ : ∃ w1, w1 = (w.alloc (.cells #[.slice a1 l.length c1, .slice a2 r.length c2, .slice a3 ps.length c3] 35)).alloc (.cells #[.slice b1 l'.length k1, .slice b2 r'.length k2, .slice b3 ps'.length k3] 35) := ⟨_, rfl⟩
  rw [← hw1] at X
  obtain ⟨z1, hz1⟩ : ∃ z, z = szC (l.length + r.length + ps.length) 1048576 := ⟨_, rfl⟩
  have HZ1 := hide hz1
  unfold szC at hz1
  have d0 := X.out.cell 0 0 rfl rfl
  have d1 := X.out.cell 0 1 rfl rfl
  have d2 := X.out.cell 0 2 rfl rfl
  have d3 := X.out.cell 1 0 rfl rfl
  have d4 := X.out.cell 1 1 rfl rfl
  have d5 := X.out.cell 1 2 rfl rfl
  by_cases q1 : z1 < 0
  · clear hz1
    go_enter Try.func9, Try.ntmps9
    go_wp2_with fail
    rw [← hw1]
    clear hw1
    go_at_call 18
    refine (szCracker_any _ l r ps _ w1 w.heap.size (HA.out _ X.out.below) X.out.below.size (by omega) (by omega)).mono ?_
    rintro e w2 ⟨rfl, hb⟩
    rw [← HZ1.out]
    have X := hide (X.out.up hb)
    clear hb d0 d1 d2 d3 d4 d5
    go_wp2_with fail
    go_ret
    exact ⟨rfl, X.out.below⟩
  · have hs : l.length ≤ 1048576 ∧ r.length ≤ 1048576 ∧ ps.length ≤ 1048576 ∧ 0 ≤ z1 ∧ z1 ≤ 1048576 := by split at hz1 <;> omega
    obtain ⟨hs1, hs2, hs3, hz0, hz9⟩ := hs
    obtain ⟨z2, hz2⟩ : ∃ z, z = szC (l'.length + r'.length + ps'.length) z1 := ⟨_, rfl⟩
    have HZ2 := hide hz2
    unfold szC at hz2
    clear hz1
    by_cases q2 : z2 < 0
    · clear hz2
      go_enter Try.func9, Try.ntmps9
      go_wp2_with fail
      rw [← hw1]
      clear hw1
      go_at_call 18
      refine (szCracker_any _ l r ps _ w1 w.heap.size (HA.out _ X.out.below) X.out.below.size (by omega) (by omega)).mono ?_
      rintro e w2 ⟨rfl, hb⟩
      rw [← HZ1.out]
      have X := hide (X.out.up hb)
      clear hb d0 d1 d2 d3 d4 d5
      have d0 := X.out.cell 0 0 rfl rfl
      have d1 := X.out.cell 0 1 rfl rfl
      have d2 := X.out.cell 0 2 rfl rfl
      have d3 := X.out.cell 1 0 rfl rfl
      have d4 := X.out.cell 1 1 rfl rfl
      have d5 := X.out.cell 1 2 rfl rfl
      go_wp2_with fail
      go_at_call 18
      refine (szCracker_any _ l' r' ps' _ w2 w.heap.size (HB.out _ X.out.below) X.out.below.size (by omega) (by omega)).mono ?_
      rintro e w3 ⟨rfl, hb⟩
      rw [← HZ2.out]
      have X := hide (X.out.up hb)
      clear hb d0 d1 d2 d3 d4 d5
      go_wp2_with fail
      go_ret
      exact ⟨rfl, X.out.below⟩
    · have hs : l'.length ≤ 1048576 ∧ r'.length ≤ 1048576 ∧ ps'.length ≤ 1048576 := by split at hz2 <;> omega
      obtain ⟨hs4, hs5, hs6⟩ := hs
      clear hz2
      obtain ⟨q, hq⟩ : ∃ q, q = eqC l r ps l' r' ps' := ⟨_, rfl⟩
      have HS := hide (fun (W : World) (v u : Value) (h : Ck W W.heap.size v l r ps) (h2 : Ck W W.heap.size u l' r' ps') => sEqCk_any v u l r l' r' ps ps' W _ h h2 (Nat.le_refl _))
      have HI := hide (fun (W : World) (v u : Value) (h : Ck W W.heap.size v l r ps) (h2 : Ck W W.heap.size u l' r' ps') => iEqCk_any v u l r l' r' ps ps' W _ h h2 (Nat.le_refl _))
      rw [← hq] at HS HI
      clear hq
      have t1 : (q != q) = false := by simp
      go_enter Try.func9, Try.ntmps9
      go_wp2_with fail
      rw [← hw1]
      clear hw1
      go_at_call 18
      refine (szCracker_any _ l r ps _ w1 w.heap.size (HA.out _ X.out.below) X.out.below.size (by omega) (by omega)).mono ?_
      rintro e w2 ⟨rfl, hb⟩
      rw [← HZ1.out]
      have X := hide (X.out.up hb)
      clear hb d0 d1 d2 d3 d4 d5
      have d0 := X.out.cell 0 0 rfl rfl
      have d1 := X.out.cell 0 1 rfl rfl
      have d2 := X.out.cell 0 2 rfl rfl
      have d3 := X.out.cell 1 0 rfl rfl
      have d4 := X.out.cell 1 1 rfl rfl
      have d5 := X.out.cell 1 2 rfl rfl
      go_wp2_with fail
      go_at_call 18
      refine (szCracker_any _ l' r' ps' _ w2 w.heap.size (HB.out _ X.out.below) X.out.below.size (by omega) (by omega)).mono ?_
      rintro e w3 ⟨rfl, hb⟩
      rw [← HZ2.out]
      have X := hide (X.out.up hb)
      clear hb d0 d1 d2 d3 d4 d5
      have d0 := X.out.cell 0 0 rfl rfl
      have d1 := X.out.cell 0 1 rfl rfl
      have d2 := X.out.cell 0 2 rfl rfl
      have d3 := X.out.cell 1 0 rfl rfl
      have d4 := X.out.cell 1 1 rfl rfl
      have d5 := X.out.cell 1 2 rfl rfl
      have T1 := hide (fun (W : World) (h : Below w.heap.size w W) => toCracker_any _ l r ps W w.heap.size (HA.out _ h) h.size hs1 hs2 hs3)
      have T2 := hide (fun (W : World) (h : Below w.heap.size w W) => toCracker_any _ l' r' ps' W w.heap.size (HB.out _ h) h.size hs4 hs5 hs6)
      go_upto_region 8 with fail
      go_cut [6] (fun s wx => s = .bool q ∧ Hid (Kn w wx [(w.heap.size, #[.slice a1 l.length c1, .slice a2 r.length c2, .slice a3 ps.length c3], 35), (w.heap.size + 1, #[.slice b1 l'.length k1, .slice b2 r'.length k2, .slice b3 ps'.length k3], 35)]))
      case first =>
        have X := hide X.out.drew
        have CA := hide True.intro
        have CB := hide True.intro
        go_region_held3 (fun w' => w'.cell? ⟨w.heap.size, 0, none⟩ = some (.slice a1 l.length c1) ∧ w'.cell? ⟨w.heap.size, 1, none⟩ = some (.slice a2 r.length c2) ∧ w'.cell? ⟨w.heap.size, 2, none⟩ = some (.slice a3 ps.length c3) ∧ w'.cell? ⟨w.heap.size + 1, 0, none⟩ = some (.slice b1 l'.length k1) ∧ w'.cell? ⟨w.heap.size + 1, 1, none⟩ = some (.slice b2 r'.length k2) ∧ w'.cell? ⟨w.heap.size + 1, 2, none⟩ = some (.slice b3 ps'.length k3)) (first | exact ⟨d0, d1, d2, d3, d4, d5⟩ | go_keep) (first
          | (go_at_call 20; with_reducible refine (T1.out _ X.out.below).mono ?_; rintro e wa ⟨m1, n1, m2, n2, m3, n3, rfl, hck, hb⟩; have CA := hide hck; (first | have CB := hide (CB.out.up hb) | skip); have X := hide (X.out.up hb); have d0 := X.out.cell 0 0 rfl rfl; have d1 := X.out.cell 0 1 rfl rfl; have d2 := X.out.cell 0 2 rfl rfl; have d3 := X.out.cell 1 0 rfl rfl; have d4 := X.out.cell 1 1 rfl rfl; have d5 := X.out.cell 1 2 rfl rfl)
          | (go_at_call 20; with_reducible refine (T2.out _ X.out.below).mono ?_; rintro e wa ⟨m1, n1, m2, n2, m3, n3, rfl, hck, hb⟩; have CB := hide hck; (first | have CA := hide (CA.out.up hb) | skip); have X := hide (X.out.up hb); have d0 := X.out.cell 0 0 rfl rfl; have d1 := X.out.cell 0 1 rfl rfl; have d2 := X.out.cell 0 2 rfl rfl; have d3 := X.out.cell 1 0 rfl rfl; have d4 := X.out.cell 1 1 rfl rfl; have d5 := X.out.cell 1 2 rfl rfl)
          | (go_at_call 30; refine (HS.out _ _ _ CA.out CB.out).mono ?_; rintro e wa ⟨rfl, hb⟩; have X := hide (X.out.up hb); have d0 := X.out.cell 0 0 rfl rfl; have d1 := X.out.cell 0 1 rfl rfl; have d2 := X.out.cell 0 2 rfl rfl; have d3 := X.out.cell 1 0 rfl rfl; have d4 := X.out.cell 1 1 rfl rfl; have d5 := X.out.cell 1 2 rfl rfl))
        all_goals go_wp2_with fail
        all_goals go_meet
        all_goals exact ⟨rfl, X.out⟩
      case rest =>
        obtain ⟨rfl, X⟩ := hcut
        clear d0 d1 d2 d3 d4 d5
        have d0 := X.out.cell 0 0 rfl rfl
        have d1 := X.out.cell 0 1 rfl rfl
        have d2 := X.out.cell 0 2 rfl rfl
        have d3 := X.out.cell 1 0 rfl rfl
        have d4 := X.out.cell 1 1 rfl rfl
        have d5 := X.out.cell 1 2 rfl rfl
        go_wp2_with fail
        go_at_call 20
        refine (T1.out _ X.out.below).mono ?_
        rintro e w5 ⟨e1, f1, e2, f2, e3, f3, rfl, hck, hb⟩
        have X := hide (X.out.up hb)
        have CA := hide (hck.up (below1 w5 (.cells #[.slice e1 l.length f1, .slice e2 r.length f2, .slice e3 ps.length f3] 25)))
        have Y := hide (X.out.alloc #[.slice e1 l.length f1, .slice e2 r.length f2, .slice e3 ps.length f3] 25)
        obtain ⟨w6, hw6⟩ : ∃ w6, w6 = w5.alloc (.cells #[.slice e1 l.length f1, .slice e2 r.length f2, .slice e3 ps.length f3] 25) := ⟨_, rfl⟩
        obtain ⟨g, hg⟩ : ∃ g, g = w5.heap.size := ⟨_, rfl⟩
        rw [← hw6] at Y CA
        rw [← hg] at Y
        have YD : Hid (w6.cell? ⟨w.heap.size + 1, 0, none⟩ = some (.slice b1 l'.length k1) ∧ w6.cell? ⟨w.heap.size + 1, 1, none⟩ = some (.slice b2 r'.length k2) ∧ w6.cell? ⟨w.heap.size + 1, 2, none⟩ = some (.slice b3 ps'.length k3)) := ⟨Y.out.cell 1 0 rfl rfl, Y.out.cell 1 1 rfl rfl, Y.out.cell 1 2 rfl rfl⟩
        obtain ⟨y0, y1, y2⟩ := YD.out
        clear hb hck d0 d1 d2 d3 d4 d5
        rw [hw6] at y0 y1 y2
        go_wp2_with fail
        rw [← hw6]
        try rw [← hg]
        clear hw6 hg y0 y1 y2 X
        have X := Y
        clear Y
        go_at_call 20
        refine (T2.out _ X.out.below).mono ?_
        rintro e w7 ⟨i1, j1, i2, j2, i3, j3, rfl, hck, hb⟩
        have X := hide (X.out.up hb)
        have CA := hide (CA.out.up hb)
        have CA := hide (CA.out.up (below1 w7 (.cells #[.slice i1 l'.length j1, .slice i2 r'.length j2, .slice i3 ps'.length j3] 25)))
        have CB := hide (hck.up (below1 w7 (.cells #[.slice i1 l'.length j1, .slice i2 r'.length j2, .slice i3 ps'.length j3] 25)))
        have Y := hide (X.out.alloc #[.slice i1 l'.length j1, .slice i2 r'.length j2, .slice i3 ps'.length j3] 25)
        obtain ⟨w8, hw8⟩ : ∃ w8, w8 = w7.alloc (.cells #[.slice i1 l'.length j1, .slice i2 r'.length j2, .slice i3 ps'.length j3] 25) := ⟨_, rfl⟩
        obtain ⟨h, hh⟩ : ∃ h, h = w7.heap.size := ⟨_, rfl⟩
        rw [← hw8] at Y CA CB
        rw [← hh] at Y
        have y0 := Y.out.cell 2 0 rfl rfl
        have y1 := Y.out.cell 2 1 rfl rfl
        have y2 := Y.out.cell 2 2 rfl rfl
        rw [hw8] at y0 y1 y2
        clear hb hck
        go_wp2_with fail
        rw [← hw8]
        try rw [← hh]
        clear hw8 hh y0 y1 y2 X
        have X := Y
        clear Y
        go_at_call 31
        refine (HI.out _ _ _ CA.out CB.out).mono ?_
        rintro e w9 ⟨rfl, hb⟩
        have X := hide (X.out.up hb)
        have CA := hide (CA.out.up hb)
        have CB := hide (CB.out.up hb)
        clear hb
        have d0 := X.out.cell 0 0 rfl rfl
        have d1 := X.out.cell 0 1 rfl rfl
        have d2 := X.out.cell 0 2 rfl rfl
        have d3 := X.out.cell 1 0 rfl rfl
        have d4 := X.out.cell 1 1 rfl rfl
        have d5 := X.out.cell 1 2 rfl rfl
        have g0 := X.out.cell 2 0 rfl rfl
        have g1 := X.out.cell 2 1 rfl rfl
        have g2 := X.out.cell 2 2 rfl rfl
        go_upto_region 14 with fail
        go_cut [39] (fun s wx => s = .bool false ∧ Hid (Below w9.heap.size w9 wx))
        case first =>
          have XD := hide X.out.drew
          go_region_with (first
            | (go_at_call 20; refine (T1.out _ XD.out.below).mono ?_; rintro e wa ⟨m1, n1, m2, n2, m3, n3, rfl, hck, hb8⟩; have X8 := hide (XD.out.up hb8); have C8 := hide (Ck.up (w := w9.drew) CA.out hb8); have g0 := X8.out.cell 2 0 rfl rfl; have g1 := X8.out.cell 2 1 rfl rfl; have g2 := X8.out.cell 2 2 rfl rfl)
            | (go_at_call 13; refine (eqCracker_same _ _ l r ps _ _ (Nat.le_refl _) C8.out hck).mono ?_; rintro e wb ⟨rfl, hb9⟩))
          all_goals go_wp2_with fail
          all_goals go_meet
          all_goals exact ⟨rfl, ((Below.refl w9.heap.size w9).drew.trans (hb8.mono (Nat.le_refl _))).trans (hb9.mono hb8.size)⟩
        case rest =>
          obtain ⟨rfl, hb⟩ := hcut
          have X := hide (X.out.up hb.out)
          have CB := hide (CB.out.up hb.out)
          clear d0 d1 d2 d3 d4 d5 g0 g1 g2 CA hb
          have d0 := X.out.cell 0 0 rfl rfl
          have d1 := X.out.cell 0 1 rfl rfl
          have d2 := X.out.cell 0 2 rfl rfl
          have d3 := X.out.cell 1 0 rfl rfl
          have d4 := X.out.cell 1 1 rfl rfl
          have d5 := X.out.cell 1 2 rfl rfl
          have g0 := X.out.cell 3 0 rfl rfl
          have g1 := X.out.cell 3 1 rfl rfl
          have g2 := X.out.cell 3 2 rfl rfl
          have XD := hide X.out.drew
          have CD := hide (CB.out.up (Below.refl _ _).drew)
          go_wp2_with fail
          go_region_with (first
            | (go_at_call 20; refine (T2.out _ XD.out.below).mono ?_; rintro e wa ⟨m1, n1, m2, n2, m3, n3, rfl, hck, hb8⟩; have X8 := hide (XD.out.up hb8); have C8 := hide (CD.out.up hb8); have g0 := X8.out.cell 3 0 rfl rfl; have g1 := X8.out.cell 3 1 rfl rfl; have g2 := X8.out.cell 3 2 rfl rfl)
            | (go_at_call 13; refine (eqCracker_same _ _ l' r' ps' _ _ (Nat.le_refl _) C8.out hck).mono ?_; rintro e wb ⟨rfl, hb9⟩))
          all_goals go_wp2_with fail
          all_goals go_ret
          all_goals exact ⟨rfl, (X8.out.up hb9).below⟩

set_option maxRecDepth 100000 in
theorem lifted (os : Os) (started : os.Started) (H : Type) (enc : TypeId × Value → H) :
    ReturnsInHanded {} Try.checked os 9 .any (Rows.fnExactEqualCrackersSpec.pre6 enc Try.prog Try.f9 Rows.fnExactEqualCrackersRow.domain false) (Rows.fnExactEqualCrackersSpec.post enc Try.prog Try.f9 false true false false) := by
  refine returnsInHanded_of_change (C := Try.checked) own started (by kernel_rfl) Try.func9
    (ChangeSpec.witness6 (enc := enc) (C := Try.checked) false ⟨#[], #[.agg #[.slice none 0 0, .slice none 0 0, .slice none 0 0], .agg #[.slice none 0 0, .slice none 0 0, .slice none 0 0]], []⟩ 8 (by kernel_rfl) (by kernel_rfl) (by kernel_rfl) (by kernel_rfl)) ?_
  intro W base args ds gs before hval0 hW hcnd _
  have hval : ∀ (j : Nat) t v, Try.f9.params[j]? = some t → args[j]? = some v → Value.okWide Try.prog W .any base t v := hval0
  have hW' := hW
  obtain ⟨p, q, hA0, hV, rfl, hfz, hnd⟩ := hW
  have hA : DataW.TrodAll enc Try.prog W 0 (fun _ => true) true Try.f9.params.toList args.toList ds p := hA0
  rw [Try.params9] at hA hval
  obtain ⟨v0, vs0, d0, ds0, p0, q0, hargs, rfl, rfl, h0, r0⟩ := trodAll_cons hA
  obtain ⟨v1, vs1, d1, ds1, p1, q1, rfl, rfl, rfl, h1, r1⟩ := trodAll_cons r0
  obtain ⟨rfl, rfl, rfl⟩ := trodAll_nil r1
  obtain rfl : args = #[v0, v1] := by cases args; simp_all
  obtain ⟨rfl, rfl⟩ := trodVars_none hV
  have k0 := h0
  have lt0 : ∀ x ∈ p0, x.block < W.heap.size := by obtain ⟨m, hm⟩ := k0; exact DataW.trod_lt m _ _ _ hm
  have k1 := h1
  have lt1 : ∀ x ∈ p1, x.block < W.heap.size := by obtain ⟨m, hm⟩ := k1; exact DataW.trod_lt m _ _ _ hm
  have w0 := open_ck (hval 0 35 v0 rfl rfl) h0
  have w1 := open_ck (hval 1 35 v1 rfl rfl) h1
  clear hA0 hval0
  refine (walk W v0 w0 v1 w1).mono fun e W' ⟨he, bel⟩ => ?_
  subst he
  exact ⟨_, rfl, _, _, _, [], _, [], hW', trodAll_mk1 (shut_bool Try.underlying4 _), (trodAll_cons_mk (Below.trod laidOut (by kernel_rfl) (of_decide_eq_true (by kernel_rfl)) k0 bel lt0) (trodAll_cons_mk (Below.trod laidOut (by kernel_rfl) (of_decide_eq_true (by kernel_rfl)) k1 bel lt1) trodAll_mk0)), rfl, bel.frame _, fun h => by cases h⟩

theorem over : Rows.fnExactEqualCrackersRow.holds Try.pinned (OpenSpec.ofChange Rows.fnExactEqualCrackersSpec) :=
  OpenClaim.holds_of_wide 9 Try.f9 rfl rfl rfl rfl rfl rfl rfl ⟨rfl, rfl, rfl, rfl, rfl⟩ rfl rfl rfl rfl rfl (by kernel_rfl) Try.func9 (by kernel_rfl)
    (of_decide_eq_true (by kernel_rfl)) (by unfold Func.isWrapper; first | (rw [if_pos (by decide +kernel)]; kernel_rfl) | (rw [if_neg (by decide +kernel)]; exact ⟨rfl, rfl⟩))
    (fun os started H enc _ => lifted os started H enc)

/-- The statement. -/
theorem proved : Rows.FnExactEqualCrackersSaid := over
#print axioms proved
end Go.Proofs.Ytknmoinmfladbaa.fnExactEqualCrackers
