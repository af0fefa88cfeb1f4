/- What ChoosePivot returns, of the program (promise 4). Written by gen_cho.py. -/
import Derived.Test.YtkhhlifnbelckaaPlE
namespace Go.Proofs.Ytkhhlifnbelckaa
open Go.RowKit Go.ChangeShapes
set_option linter.unusedSimpArgs false
set_option linter.unusedVariables false
set_option maxRecDepth 100000

set_option maxHeartbeats 8000000 in
theorem iCho_any (u : Value) (l r : List Int) (ps : List Pv) (p t s a b : Int) (w : World) (B : Nat) (hv : Ck w B u l r ps) (hB : B ≤ w.heap.size) :
    Calls Try.prog 42 #[u, .agg #[.int .i64 p, .int .i64 t, .int .i64 s], .int .i64 a, .int .i64 b] w (RetMSt w (chM l r ps p t s a b) p t (chS l r ps p t s a b)) := by
  obtain ⟨a1, c1, a2, c2, a3, c3, rfl, i1, i2, i3⟩ := hv.form
  have hcap := hv.caps
  have V := hide hv
  have I1 := hide i1
  have HCP := hide hcap
  clear hv i1 i2 i3 hcap
  obtain ⟨q, hq⟩ : ∃ q, q = isCk l r ps := ⟨_, rfl⟩
  have HQ := hide hq
  have CK := hide (fun (W : World) (h : Below w.heap.size w W) => show Calls Try.prog 19 #[.agg #[.slice a1 l.length c1, .slice a2 r.length c2, .slice a3 ps.length c3]] W (RetB1 W q) by rw [hq]; exact iIsCk_any _ l r ps W B (V.out.below h hB) (Nat.le_trans hB h.size))
  obtain ⟨z, hz⟩ : ∃ z, z = isSet p t s := ⟨_, rfl⟩
  have HZ := hide hz
  have CS := hide (fun (W : World) => show Calls Try.prog 32 #[.agg #[.int .i64 p, .int .i64 t, .int .i64 s]] W (RetB1 W z) by rw [hz]; exact iIsSet_any p t s W)
  obtain ⟨m, hm⟩ : ∃ m, m = chM l r ps p t s a b := ⟨_, rfl⟩
  obtain ⟨ns, hns⟩ : ∃ m, m = chS l r ps p t s a b := ⟨_, rfl⟩
  have NO := hide (fun (h : ¬(q = true ∧ z = true ∧ 0 ≤ a ∧ a < b ∧ b ≤ l.length)) => show m = 0 ∧ ns = s by
    have hh : ¬ chOk l r ps p t s a b = true := by
      unfold chOk
      simp only [Bool.and_eq_true, decide_eq_true_eq, ← hq, ← hz]
      intro h2
      exact h ⟨h2.1.1, h2.1.2, h2.2⟩
    rw [hm, hns]
    unfold chM chS
    rw [if_neg hh, if_neg hh]
    exact ⟨rfl, rfl⟩)
  have YES := hide (fun (h1 : q = true) (h2 : z = true) (h3 : 0 ≤ a ∧ a < b ∧ b ≤ l.length) => show m = (if p = 2 then l.getD (a + nsF s % (b - a)).toNat 0 else medL (cutL l a b)) ∧ ns = (if p = 2 then nsF s else s) by
    have hh : chOk l r ps p t s a b = true := by
      unfold chOk
      rw [← hq, ← hz, h1, h2, decide_eq_true h3]
      rfl
    rw [hm, hns]
    unfold chM chS
    rw [if_pos hh, if_pos hh]
    exact ⟨rfl, rfl⟩)
  have HL := hide (fun (h : q = true) => areVals_len (isCk_parts (hq.symm.trans h)).1)
  rw [← hm, ← hns]
  clear hq hz hm hns
  have X := hide (Kn.three w #[.slice a1 l.length c1, .slice a2 r.length c2, .slice a3 ps.length c3] #[.int .i64 p, .int .i64 t, .int .i64 s] #[.int .i64 0, .int .i64 0, .int .i64 0] 27 56 56)
  obtain ⟨w1, hw1⟩ : ∃ w1, w1 = ((w.alloc (.cells #[.slice a1 l.length c1, .slice a2 r.length c2, .slice a3 ps.length c3] 27)).alloc (.cells #[.int .i64 p, .int .i64 t, .int .i64 s] 56)).alloc (.cells #[.int .i64 0, .int .i64 0, .int .i64 0] 56) := ⟨_, rfl⟩
  rw [← hw1] at X
  have d0 : w1.cell? ⟨w.heap.size, 0, none⟩ = some (.slice a1 l.length c1) := X.out.cell 0 0 rfl rfl
  have d1 : w1.cell? ⟨w.heap.size, 1, none⟩ = some (.slice a2 r.length c2) := X.out.cell 0 1 rfl rfl
  have d2 : w1.cell? ⟨w.heap.size, 2, none⟩ = some (.slice a3 ps.length c3) := X.out.cell 0 2 rfl rfl
  rw [hw1] at d0 d1 d2
  go_enter Try.func42, Try.ntmps42
  go_wp2_with fail
  rw [← hw1]
  clear hw1 d0 d1 d2
  go_at_call 19
  refine (CK.out _ X.out.below).mono ?_
  rintro e w2 ⟨rfl, hb⟩
  have X := hide (X.out.up hb)
  clear hb
  have e0 : w2.cell? ⟨w.heap.size + 1, 0, none⟩ = some (.int .i64 p) := X.out.cell 1 0 rfl rfl
  have e1 : w2.cell? ⟨w.heap.size + 1, 1, none⟩ = some (.int .i64 t) := X.out.cell 1 1 rfl rfl
  have e2 : w2.cell? ⟨w.heap.size + 1, 2, none⟩ = some (.int .i64 s) := X.out.cell 1 2 rfl rfl
  cases q with
  | false =>
    obtain ⟨rfl, rfl⟩ := NO.out (by simp)
    have f20 := X.out.free 2 0 rfl
    have f21 := X.out.free 2 1 rfl
    have f22 := X.out.free 2 2 rfl
    have r0 : w2.cell? ⟨w.heap.size + 1 + 1, 0, none⟩ = some (.int .i64 0) := X.out.cell 2 0 rfl rfl
    have r1 : w2.cell? ⟨w.heap.size + 1 + 1, 1, none⟩ = some (.int .i64 0) := X.out.cell 2 1 rfl rfl
    have r2 : w2.cell? ⟨w.heap.size + 1 + 1, 2, none⟩ = some (.int .i64 0) := X.out.cell 2 2 rfl rfl
    have hne := X.out.apart 1 2 rfl rfl (by omega)
    have hne2 := fun e => hne (Eq.symm e)
    go_upto_region 2 with fail
    go_region
    have Z := (((X.out.set 2 0 rfl (.int .i64 p)).set 2 1 rfl (.int .i64 t)).set 2 2 rfl (.int .i64 ns)).drew
    have z0 := Z.cell 2 0 rfl rfl
    have z1 := Z.cell 2 1 rfl rfl
    have z2 := Z.cell 2 2 rfl rfl
    go_wp2_with fail
    exact bodyPost_ret (v := .tuple #[.int .i64 0, .agg #[.int .i64 p, .int .i64 t, .int .i64 ns]]) (by simp [results, Try.results42, go_sem, z0, z1, z2]) rfl ⟨rfl, Z.below⟩
  | true =>
    go_wp2_with fail
    go_at_call 32
    refine (CS.out _).mono ?_
    rintro e w3 ⟨rfl, hb⟩
    have X := hide (X.out.up hb)
    clear hb e0 e1 e2
    have e0 : w3.cell? ⟨w.heap.size + 1, 0, none⟩ = some (.int .i64 p) := X.out.cell 1 0 rfl rfl
    have e1 : w3.cell? ⟨w.heap.size + 1, 1, none⟩ = some (.int .i64 t) := X.out.cell 1 1 rfl rfl
    have e2 : w3.cell? ⟨w.heap.size + 1, 2, none⟩ = some (.int .i64 s) := X.out.cell 1 2 rfl rfl
    have d0 : w3.cell? ⟨w.heap.size, 0, none⟩ = some (.slice a1 l.length c1) := X.out.cell 0 0 rfl rfl
    have d1 : w3.cell? ⟨w.heap.size, 1, none⟩ = some (.slice a2 r.length c2) := X.out.cell 0 1 rfl rfl
    have d2 : w3.cell? ⟨w.heap.size, 2, none⟩ = some (.slice a3 ps.length c3) := X.out.cell 0 2 rfl rfl
    cases z with
    | false =>
      obtain ⟨rfl, rfl⟩ := NO.out (by simp)
      have f20 := X.out.free 2 0 rfl
      have f21 := X.out.free 2 1 rfl
      have f22 := X.out.free 2 2 rfl
      have r0 : w3.cell? ⟨w.heap.size + 1 + 1, 0, none⟩ = some (.int .i64 0) := X.out.cell 2 0 rfl rfl
      have r1 : w3.cell? ⟨w.heap.size + 1 + 1, 1, none⟩ = some (.int .i64 0) := X.out.cell 2 1 rfl rfl
      have r2 : w3.cell? ⟨w.heap.size + 1 + 1, 2, none⟩ = some (.int .i64 0) := X.out.cell 2 2 rfl rfl
      have hne := X.out.apart 1 2 rfl rfl (by omega)
      have hne2 := fun e => hne (Eq.symm e)
      go_upto_region 2 with fail
      go_region
      have Z := (((X.out.set 2 0 rfl (.int .i64 p)).set 2 1 rfl (.int .i64 t)).set 2 2 rfl (.int .i64 ns)).drew
      have z0 := Z.cell 2 0 rfl rfl
      have z1 := Z.cell 2 1 rfl rfl
      have z2 := Z.cell 2 2 rfl rfl
      go_wp2_with fail
      exact bodyPost_ret (v := .tuple #[.int .i64 0, .agg #[.int .i64 p, .int .i64 t, .int .i64 ns]]) (by simp [results, Try.results42, go_sem, z0, z1, z2]) rfl ⟨rfl, Z.below⟩
    | true =>
      by_cases h1 : a < 0
      · have t1 : decide (a < 0) = true := decide_eq_true h1
        obtain ⟨rfl, rfl⟩ := NO.out (by intro h; omega)
        have f20 := X.out.free 2 0 rfl
        have f21 := X.out.free 2 1 rfl
        have f22 := X.out.free 2 2 rfl
        have r0 : w3.cell? ⟨w.heap.size + 1 + 1, 0, none⟩ = some (.int .i64 0) := X.out.cell 2 0 rfl rfl
        have r1 : w3.cell? ⟨w.heap.size + 1 + 1, 1, none⟩ = some (.int .i64 0) := X.out.cell 2 1 rfl rfl
        have r2 : w3.cell? ⟨w.heap.size + 1 + 1, 2, none⟩ = some (.int .i64 0) := X.out.cell 2 2 rfl rfl
        have hne := X.out.apart 1 2 rfl rfl (by omega)
        have hne2 := fun e => hne (Eq.symm e)
        go_upto_region 2 with fail
        go_region
        have Z := (((X.out.set 2 0 rfl (.int .i64 p)).set 2 1 rfl (.int .i64 t)).set 2 2 rfl (.int .i64 ns)).drew
        have z0 := Z.cell 2 0 rfl rfl
        have z1 := Z.cell 2 1 rfl rfl
        have z2 := Z.cell 2 2 rfl rfl
        go_wp2_with fail
        exact bodyPost_ret (v := .tuple #[.int .i64 0, .agg #[.int .i64 p, .int .i64 t, .int .i64 ns]]) (by simp [results, Try.results42, go_sem, z0, z1, z2]) rfl ⟨rfl, Z.below⟩
      have t1 : decide (a < 0) = false := decide_eq_false h1
      by_cases h2 : b ≤ a
      · have t2 : decide (b ≤ a) = true := decide_eq_true h2
        obtain ⟨rfl, rfl⟩ := NO.out (by intro h; omega)
        have f20 := X.out.free 2 0 rfl
        have f21 := X.out.free 2 1 rfl
        have f22 := X.out.free 2 2 rfl
        have r0 : w3.cell? ⟨w.heap.size + 1 + 1, 0, none⟩ = some (.int .i64 0) := X.out.cell 2 0 rfl rfl
        have r1 : w3.cell? ⟨w.heap.size + 1 + 1, 1, none⟩ = some (.int .i64 0) := X.out.cell 2 1 rfl rfl
        have r2 : w3.cell? ⟨w.heap.size + 1 + 1, 2, none⟩ = some (.int .i64 0) := X.out.cell 2 2 rfl rfl
        have hne := X.out.apart 1 2 rfl rfl (by omega)
        have hne2 := fun e => hne (Eq.symm e)
        go_upto_region 2 with fail
        go_region
        have Z := (((X.out.set 2 0 rfl (.int .i64 p)).set 2 1 rfl (.int .i64 t)).set 2 2 rfl (.int .i64 ns)).drew
        have z0 := Z.cell 2 0 rfl rfl
        have z1 := Z.cell 2 1 rfl rfl
        have z2 := Z.cell 2 2 rfl rfl
        go_wp2_with fail
        exact bodyPost_ret (v := .tuple #[.int .i64 0, .agg #[.int .i64 p, .int .i64 t, .int .i64 ns]]) (by simp [results, Try.results42, go_sem, z0, z1, z2]) rfl ⟨rfl, Z.below⟩
      have t2 : decide (b ≤ a) = false := decide_eq_false h2
      by_cases h3 : (l.length : Int) < b
      · have t3 : decide ((l.length : Int) < b) = true := decide_eq_true h3
        obtain ⟨rfl, rfl⟩ := NO.out (by intro h; omega)
        have f20 := X.out.free 2 0 rfl
        have f21 := X.out.free 2 1 rfl
        have f22 := X.out.free 2 2 rfl
        have r0 : w3.cell? ⟨w.heap.size + 1 + 1, 0, none⟩ = some (.int .i64 0) := X.out.cell 2 0 rfl rfl
        have r1 : w3.cell? ⟨w.heap.size + 1 + 1, 1, none⟩ = some (.int .i64 0) := X.out.cell 2 1 rfl rfl
        have r2 : w3.cell? ⟨w.heap.size + 1 + 1, 2, none⟩ = some (.int .i64 0) := X.out.cell 2 2 rfl rfl
        have hne := X.out.apart 1 2 rfl rfl (by omega)
        have hne2 := fun e => hne (Eq.symm e)
        go_upto_region 2 with fail
        go_region
        have Z := (((X.out.set 2 0 rfl (.int .i64 p)).set 2 1 rfl (.int .i64 t)).set 2 2 rfl (.int .i64 ns)).drew
        have z0 := Z.cell 2 0 rfl rfl
        have z1 := Z.cell 2 1 rfl rfl
        have z2 := Z.cell 2 2 rfl rfl
        go_wp2_with fail
        exact bodyPost_ret (v := .tuple #[.int .i64 0, .agg #[.int .i64 p, .int .i64 t, .int .i64 ns]]) (by simp [results, Try.results42, go_sem, z0, z1, z2]) rfl ⟨rfl, Z.below⟩
      have t3 : decide ((l.length : Int) < b) = false := decide_eq_false h3
      obtain ⟨hm, hns⟩ := YES.out (by simp) (by simp) ⟨by omega, by omega, by omega⟩
      have hl64 := HL.out (by simp)
      obtain ⟨g, o, rfl, hg⟩ := V.out.leftAt 0 (by omega)
      obtain ⟨i, rfl⟩ : ∃ i : Nat, a = (i : Int) := ⟨a.toNat, by omega⟩
      obtain ⟨j, rfl⟩ : ∃ j : Nat, b = (j : Int) := ⟨b.toNat, by omega⟩
      have hij : i < j := by omega
      have hjl : j ≤ l.length := by omega
      have hkc : l.length ≤ c1 := HCP.out.1
      clear NO YES HL h1 h2 h3
      have hd : ((j : Int) - (i : Int)) = ((j - i : Nat) : Int) := by omega
      have hcut : cutL l (i : Int) (j : Int) = (l.drop i).take (j - i) := by simp [cutL]
      have hcl : ((l.drop i).take (j - i)).length = j - i := by simp; omega
      have PI := hide (fun (W : World) (h : Below w.heap.size w W) (c' : Nat) => show Ints W B (.slice (some ⟨g, o + i, none⟩) (j - i) c') ((l.drop i).take (j - i)) by
        have := (I1.out.below h hB).part i j (by omega) hjl (some ⟨g, o + i, none⟩) c' (fun _ => by simp [addr_add])
        rwa [hcl] at this)
      by_cases hp : p = 2
      · rw [if_pos hp] at hm hns
        subst hp
        have hnr := nsF_range s
        obtain ⟨n, hn⟩ : ∃ n, n = nsF s := ⟨_, rfl⟩
        rw [← hn] at hm hns hnr
        have HN := hide hn
        subst hns
        clear hn
        have hm' : m = ((l.drop i).take (j - i)).getD (ns % (((l.drop i).take (j - i)).length : Int)).toNat 0 := by
          obtain ⟨k1, k2⟩ := rnd_ix (n := ns) (L := j - i) hnr (by omega)
          rw [hm, ← hcut, cut_getD l i j _ (by omega) (by rw [hcut, hcl]; omega), hcut, hcl, hd]
          have hk0 := Int.emod_nonneg ns (show ((j - i : Nat) : Int) ≠ 0 by omega)
          congr 1
          omega
        have CM := hide (fun (W : World) (h : Below w.heap.size w W) (c' : Nat) => show Calls Try.prog 109 #[.slice (some ⟨g, o + i, none⟩) (j - i) c', .int .i64 s] W (RetNN W m ns) by
          have := chRnd_any g (o + i) c' ((l.drop i).take (j - i)) s W B (by rw [hcl]; exact PI.out W h c') (by omega) (by rw [hcl]; omega)
          rw [← HN.out, ← hm', hcl] at this
          exact this)
        have hlook := hide (fun (W : World) (bb : Nat) (h : W.heap[bb]? = some (.map chE 3)) => show (Instr.lookup 102 (.map (some bb)) (.int .i64 2) false).run Try.prog W = .ok (.agg #[.string nmRandom, .func (.func 109) #[] #[]]) W from look_ch h 2 false)
        have hfl := fun W => field1_chf nmRandom 109 W
        clear hm hm' hd hcut hcl PI hnr HN
        go_upto_region 3 with fail
        go_cut [10, 11] (fun x y wx => x = .int .i64 m ∧ y = .int .i64 ns ∧ Hid (Kn w wx [(w.heap.size, #[.slice (some ⟨g, o, none⟩) l.length c1, .slice a2 r.length c2, .slice a3 ps.length c3], 27), (w.heap.size + 1, #[.int .i64 2, .int .i64 t, .int .i64 s], 56), (w.heap.size + 1 + 1, #[.int .i64 0, .int .i64 0, .int .i64 0], 56)]))
        case first =>
          have bb1 : (0 : Int) ≤ (i : Int) := by omega
          have bb2 : (i : Int) ≤ (j : Int) := by omega
          have bb3 : (j : Int) ≤ (c1 : Int) := by omega
          have hjc : j ≤ c1 := by omega
          have hij2 : i ≤ j := by omega
          have X := hide X.out.drew
          have KS := hide (fun (w' : World) (h : Kn w w' [(w.heap.size, #[.slice (some ⟨g, o, none⟩) l.length c1, .slice a2 r.length c2, .slice a3 ps.length c3], 27), (w.heap.size + 1, #[.int .i64 2, .int .i64 t, .int .i64 s], 56), (w.heap.size + 1 + 1, #[.int .i64 0, .int .i64 0, .int .i64 0], 56)]) => show w'.cell? ⟨w.heap.size, 0, none⟩ = some (.slice (some ⟨g, o, none⟩) l.length c1) ∧ w'.cell? ⟨w.heap.size + 1, 0, none⟩ = some (.int .i64 2) ∧ w'.cell? ⟨w.heap.size + 1, 2, none⟩ = some (.int .i64 s) from ⟨h.cell 0 0 rfl rfl, h.cell 1 0 rfl rfl, h.cell 1 2 rfl rfl⟩)
          clear e0 e1 e2 d0 d1 d2
          obtain ⟨d0, e0, e2⟩ := KS.out _ X.out
          go_region_held3 (fun w' => w'.cell? ⟨w.heap.size, 0, none⟩ = some (.slice (some ⟨g, o, none⟩) l.length c1) ∧ w'.cell? ⟨w.heap.size + 1, 0, none⟩ = some (.int .i64 2) ∧ w'.cell? ⟨w.heap.size + 1, 2, none⟩ = some (.int .i64 s)) (first | with_reducible exact KS.out _ X.out | go_keep) (first
            | (go_at_call 82; refine (choosers_any _).mono ?_; rintro e wq ⟨bb, rfl, hbb, hlo, hb⟩; have hlk := hlook.out _ _ hbb; replace X := hide (X.out.up hb); clear d0 e0 e2; obtain ⟨d0, e0, e2⟩ := KS.out _ X.out; clear hb hlo)
            | (go_at_call 109; refine (CM.out _ X.out.below _).mono ?_; rintro e wq2 ⟨rfl, hb⟩; replace X := hide (X.out.up hb); clear d0 e0 e2; obtain ⟨d0, e0, e2⟩ := KS.out _ X.out; clear hb))
          all_goals go_wp2_with fail
          all_goals go_meet
          all_goals exact ⟨rfl, rfl, X⟩
        case rest =>
          obtain ⟨rfl, rfl, X⟩ := hcut
          clear e0 e1 e2 d0 d1 d2
          have fs := X.out.free 1 2 rfl
          have cs := X.out.cell 1 2 rfl rfl
          go_upto_region 5 with fail
          have X := hide (X.out.putc 1 rfl (.int .i64 ns))
          obtain ⟨w5, hw5⟩ : ∃ q, q = wc.setCell ⟨w.heap.size + 1, 2, none⟩ (.int .i64 ns) := ⟨_, rfl⟩
          rw [← hw5] at X
          rw [← hw5]
          simp only [List.set_cons_zero, List.set_cons_succ] at X
          clear hw5 fs cs
          have s0 : w5.cell? ⟨w.heap.size + 1, 0, none⟩ = some (.int .i64 2) := X.out.cell 1 0 rfl rfl
          have s1 : w5.cell? ⟨w.heap.size + 1, 1, none⟩ = some (.int .i64 t) := X.out.cell 1 1 rfl rfl
          have s2 : w5.cell? ⟨w.heap.size + 1, 2, none⟩ = some (.int .i64 ns) := X.out.cell 1 2 rfl rfl
          have r0 : w5.cell? ⟨w.heap.size + 1 + 1, 0, none⟩ = some (.int .i64 0) := X.out.cell 2 0 rfl rfl
          have r1 : w5.cell? ⟨w.heap.size + 1 + 1, 1, none⟩ = some (.int .i64 0) := X.out.cell 2 1 rfl rfl
          have r2 : w5.cell? ⟨w.heap.size + 1 + 1, 2, none⟩ = some (.int .i64 0) := X.out.cell 2 2 rfl rfl
          have f20 := X.out.free 2 0 rfl
          have f21 := X.out.free 2 1 rfl
          have f22 := X.out.free 2 2 rfl
          have hne := X.out.apart 1 2 rfl rfl (by omega)
          have hne2 := fun e => hne (Eq.symm e)
          go_region
          have Z := (((X.out.set 2 0 rfl (.int .i64 2)).set 2 1 rfl (.int .i64 t)).set 2 2 rfl (.int .i64 ns)).drew
          have z0 := Z.cell 2 0 rfl rfl
          have z1 := Z.cell 2 1 rfl rfl
          have z2 := Z.cell 2 2 rfl rfl
          go_wp2_with fail
          exact bodyPost_ret (v := .tuple #[.int .i64 m, .agg #[.int .i64 2, .int .i64 t, .int .i64 ns]]) (by simp [results, Try.results42, go_sem, z0, z1, z2]) rfl ⟨rfl, Z.below⟩
      · rw [if_neg hp] at hm hns
        subst hns
        have hjc : j ≤ c1 := by omega
        have CM := hide (fun (W : World) (h : Below w.heap.size w W) (c' : Nat) => show Calls Try.prog 108 #[.slice (some ⟨g, o + i, none⟩) (j - i) c', .int .i64 ns] W (RetNN W m ns) by
          have := chMed_any (some ⟨g, o + i, none⟩) c' ((l.drop i).take (j - i)) ns W B (by rw [hcl]; exact PI.out W h c') (by simp) (Nat.le_trans hB h.size) (by rw [hcl]; omega)
          rw [hcl] at this
          rw [hm, hcut]
          exact this)
        have hset := isSet_true HZ.out.symm
        obtain ⟨nm, hnm⟩ : ∃ nm, chV p = .agg #[.string nm, .func (.func 108) #[] #[]] := by
          have h3 : p = 0 ∨ p = 1 := by omega
          rcases h3 with rfl | rfl
          · exact ⟨_, rfl⟩
          · exact ⟨_, rfl⟩
        have hlook := hide (fun (W : World) (bb : Nat) (h : W.heap[bb]? = some (.map chE 3)) => show (Instr.lookup 102 (.map (some bb)) (.int .i64 p) false).run Try.prog W = .ok (.agg #[.string nm, .func (.func 108) #[] #[]]) W by
          have := look_ch h p false
          rw [hnm] at this
          exact this)
        have hfl := fun W => field1_chf nm 108 W
        clear hm hd hcut hcl PI hset hnm
        go_upto_region 3 with fail
        go_cut [10, 11] (fun x y wx => x = .int .i64 m ∧ y = .int .i64 ns ∧ Hid (Kn w wx [(w.heap.size, #[.slice (some ⟨g, o, none⟩) l.length c1, .slice a2 r.length c2, .slice a3 ps.length c3], 27), (w.heap.size + 1, #[.int .i64 p, .int .i64 t, .int .i64 ns], 56), (w.heap.size + 1 + 1, #[.int .i64 0, .int .i64 0, .int .i64 0], 56)]))
        case first =>
          have bb1 : (0 : Int) ≤ (i : Int) := by omega
          have bb2 : (i : Int) ≤ (j : Int) := by omega
          have bb3 : (j : Int) ≤ (c1 : Int) := by omega
          have hjc : j ≤ c1 := by omega
          have hij2 : i ≤ j := by omega
          have X := hide X.out.drew
          have KS := hide (fun (w' : World) (h : Kn w w' [(w.heap.size, #[.slice (some ⟨g, o, none⟩) l.length c1, .slice a2 r.length c2, .slice a3 ps.length c3], 27), (w.heap.size + 1, #[.int .i64 p, .int .i64 t, .int .i64 ns], 56), (w.heap.size + 1 + 1, #[.int .i64 0, .int .i64 0, .int .i64 0], 56)]) => show w'.cell? ⟨w.heap.size, 0, none⟩ = some (.slice (some ⟨g, o, none⟩) l.length c1) ∧ w'.cell? ⟨w.heap.size + 1, 0, none⟩ = some (.int .i64 p) ∧ w'.cell? ⟨w.heap.size + 1, 2, none⟩ = some (.int .i64 ns) from ⟨h.cell 0 0 rfl rfl, h.cell 1 0 rfl rfl, h.cell 1 2 rfl rfl⟩)
          clear e0 e1 e2 d0 d1 d2
          obtain ⟨d0, e0, e2⟩ := KS.out _ X.out
          go_region_held3 (fun w' => w'.cell? ⟨w.heap.size, 0, none⟩ = some (.slice (some ⟨g, o, none⟩) l.length c1) ∧ w'.cell? ⟨w.heap.size + 1, 0, none⟩ = some (.int .i64 p) ∧ w'.cell? ⟨w.heap.size + 1, 2, none⟩ = some (.int .i64 ns)) (first | with_reducible exact KS.out _ X.out | go_keep) (first
            | (go_at_call 82; refine (choosers_any _).mono ?_; rintro e wq ⟨bb, rfl, hbb, hlo, hb⟩; have hlk := hlook.out _ _ hbb; replace X := hide (X.out.up hb); clear d0 e0 e2; obtain ⟨d0, e0, e2⟩ := KS.out _ X.out; clear hb hlo)
            | (go_at_call 108; refine (CM.out _ X.out.below _).mono ?_; rintro e wq2 ⟨rfl, hb⟩; replace X := hide (X.out.up hb); clear d0 e0 e2; obtain ⟨d0, e0, e2⟩ := KS.out _ X.out; clear hb))
          all_goals go_wp2_with fail
          all_goals go_meet
          all_goals exact ⟨rfl, rfl, X⟩
        case rest =>
          obtain ⟨rfl, rfl, X⟩ := hcut
          clear e0 e1 e2 d0 d1 d2
          have fs := X.out.free 1 2 rfl
          have cs := X.out.cell 1 2 rfl rfl
          go_upto_region 5 with fail
          have X := hide (X.out.putc 1 rfl (.int .i64 ns))
          obtain ⟨w5, hw5⟩ : ∃ q, q = wc.setCell ⟨w.heap.size + 1, 2, none⟩ (.int .i64 ns) := ⟨_, rfl⟩
          rw [← hw5] at X
          rw [← hw5]
          simp only [List.set_cons_zero, List.set_cons_succ] at X
          clear hw5 fs cs
          have s0 : w5.cell? ⟨w.heap.size + 1, 0, none⟩ = some (.int .i64 p) := X.out.cell 1 0 rfl rfl
          have s1 : w5.cell? ⟨w.heap.size + 1, 1, none⟩ = some (.int .i64 t) := X.out.cell 1 1 rfl rfl
          have s2 : w5.cell? ⟨w.heap.size + 1, 2, none⟩ = some (.int .i64 ns) := X.out.cell 1 2 rfl rfl
          have r0 : w5.cell? ⟨w.heap.size + 1 + 1, 0, none⟩ = some (.int .i64 0) := X.out.cell 2 0 rfl rfl
          have r1 : w5.cell? ⟨w.heap.size + 1 + 1, 1, none⟩ = some (.int .i64 0) := X.out.cell 2 1 rfl rfl
          have r2 : w5.cell? ⟨w.heap.size + 1 + 1, 2, none⟩ = some (.int .i64 0) := X.out.cell 2 2 rfl rfl
          have f20 := X.out.free 2 0 rfl
          have f21 := X.out.free 2 1 rfl
          have f22 := X.out.free 2 2 rfl
          have hne := X.out.apart 1 2 rfl rfl (by omega)
          have hne2 := fun e => hne (Eq.symm e)
          go_region
          have Z := (((X.out.set 2 0 rfl (.int .i64 p)).set 2 1 rfl (.int .i64 t)).set 2 2 rfl (.int .i64 ns)).drew
          have z0 := Z.cell 2 0 rfl rfl
          have z1 := Z.cell 2 1 rfl rfl
          have z2 := Z.cell 2 2 rfl rfl
          go_wp2_with fail
          exact bodyPost_ret (v := .tuple #[.int .i64 m, .agg #[.int .i64 p, .int .i64 t, .int .i64 ns]]) (by simp [results, Try.results42, go_sem, z0, z1, z2]) rfl ⟨rfl, Z.below⟩

end Go.Proofs.Ytkhhlifnbelckaa
