/- What copyPending of the program returns (gen_ipc.py; promise 7). -/
import Derived.Test.YtajfhalalnlejaaPd
import Derived.Test.YtajfhalalnlejaaRf
import Derived.Test.YtajfhalalnlejaaClt
namespace Go.Proofs.Ytajfhalalnlejaa
open Go.RowKit Go.ChangeShapes
set_option linter.unusedSimpArgs false
set_option linter.unusedVariables false
set_option maxRecDepth 100000

set_option maxHeartbeats 8000000 in
theorem iPdCopy_any (u : Value) (ins : List Pv) (de : List Int) (w : World) (B : Nat) (hu : Pd w B u ins de) (hB : B ≤ w.heap.size) (hi : ins.length ≤ 1048576) (hd : de.length ≤ 1048576) :
    Calls Try.prog 93 #[u] w (RetPdO' w ins de) := by
  obtain ⟨b1, k1, b2, k2, rfl, i1, i2⟩ := hu.form
  have hnil : (b1 = none → k1 = 0) ∧ (b2 = none → k2 = 0) := by
    obtain ⟨x, y, e, -, -, ⟨a', n', c', rfl, -, h1⟩, ⟨a2', n2', c2', rfl, -, h2⟩⟩ := hu
    simp only [Value.agg.injEq, Array.mk.injEq, List.cons.injEq, Value.slice.injEq, and_true] at e
    obtain ⟨⟨rfl, -, rfl⟩, ⟨rfl, -, rfl⟩⟩ := e
    exact ⟨h1, h2⟩
  have X := hide (Kn.two w #[.slice b1 ins.length k1, .slice b2 de.length k2] #[.slice none 0 0, .slice none 0 0] 70 70)
  obtain ⟨w1, hw1⟩ : ∃ w1, w1 = (w.alloc (.cells #[.slice b1 ins.length k1, .slice b2 de.length k2] 70)).alloc (.cells #[.slice none 0 0, .slice none 0 0] 70) := ⟨_, rfl⟩
  have hz1 := hide (show w1.heap.size = w.heap.size + 1 + 1 by rw [hw1]; simp)
  rw [← hw1] at X
  have C1 := hide (fun (W : World) (h : Below w1.heap.size w1 W) => clone_t b1 k1 ins W B ((i1.below X.out.below hB).below h (Nat.le_trans hB X.out.below.size)) hnil.1 (Nat.le_trans hB (Nat.le_trans X.out.below.size h.size)) hi)
  have C2 := hide (fun (W : World) (h : Below w1.heap.size w1 W) => clone_i b2 k2 de W B ((i2.below X.out.below hB).below h (Nat.le_trans hB X.out.below.size)) hnil.2 (Nat.le_trans hB (Nat.le_trans X.out.below.size h.size)) hd)
  clear i1 i2 hu hnil
  go_enter Try.func93, Try.ntmps93
  go_wp2_with fail
  rw [← hw1]
  clear hw1
  refine wp_region_any (by kernel_rfl) ?_
  refine wpAny_factsT (w0 := w1) (fun i => ([(fun lo hi s W => s 3 = .pointer (some ⟨w.heap.size, 0, none⟩)),
    (fun lo hi s W => s 4 = .slice b1 ins.length k1),
    (fun lo hi s W => Owi W (s 5) ins lo hi),
    (fun lo hi s W => s 6 = .pointer (some ⟨w.heap.size, 1, none⟩)),
    (fun lo hi s W => s 7 = .slice b2 de.length k2),
    (fun lo hi s W => Ow W (s 8) de lo hi),
    (fun lo hi s W => s 9 = .agg #[s 5, s 8]),
    (fun lo hi s W => True)] : List (Nat → Nat → (Nat → Value) → World → Prop)).getD i (fun _ _ _ _ => True)) [[], [0], [0, 1], [], [3], [0, 1, 2, 3, 4], [0, 1, 2, 3, 4, 5], [0, 1, 2, 3, 4, 5, 6]] [0, 1, 2, 3, 4, 5, 6, 7] [[3], [4], [5], [6], [7], [8], [9, 5, 8], []] [[], [], [], [], [], [], [], []] (by kernel_rfl) (by kernel_rfl) 7 1 rfl (by kernel_rfl) ?st ?step ?fin
  case st =>
    intro i hi lo hi' s W W' h q1 q2 q3 q4 k
    rcases (show i = 0 ∨ i = 1 ∨ i = 2 ∨ i = 3 ∨ i = 4 ∨ i = 5 ∨ i = 6 by omega) with rfl | rfl | rfl | rfl | rfl | rfl | rfl
    · have h : s 3 = .pointer (some ⟨w.heap.size, 0, none⟩) := h
      show s 3 = .pointer (some ⟨w.heap.size, 0, none⟩)
      exact h
    · have h : s 4 = .slice b1 ins.length k1 := h
      show s 4 = .slice b1 ins.length k1
      exact h
    · have h : Owi W (s 5) ins lo hi' := h
      show Owi W' (s 5) ins lo hi'
      exact h.on k.size k.own
    · have h : s 6 = .pointer (some ⟨w.heap.size, 1, none⟩) := h
      show s 6 = .pointer (some ⟨w.heap.size, 1, none⟩)
      exact h
    · have h : s 7 = .slice b2 de.length k2 := h
      show s 7 = .slice b2 de.length k2
      exact h
    · have h : Ow W (s 8) de lo hi' := h
      show Ow W' (s 8) de lo hi'
      exact h.on k.size k.own
    · have h : s 9 = .agg #[s 5, s 8] := h
      show s 9 = .agg #[s 5, s 8]
      exact h
  case step =>
    intro i hi a W iv hb hsz hdf hrest hanc hivs hap K HK
    have HK := hide HK
    have HAN := hide hanc
    have HRS := hide hrest
    have XU := hide (X.out.up hb)
    have HB := hide hb
    clear hanc hivs hap hrest hb hsz hdf X
    rcases (show i = 0 ∨ i = 1 ∨ i = 2 ∨ i = 3 ∨ i = 4 ∨ i = 5 ∨ i = 6 by omega) with rfl | rfl | rfl | rfl | rfl | rfl | rfl
    · refine wpOp_step (o := _) rfl fun K' hK => ?_
      rw [if_pos (by go_simp)]
      have e1 : a.tmps.getD 1 undef = .pointer (some ⟨w.heap.size, 0, none⟩) := (HRS.out 1 (by decide)).trans rfl
      go_simp
      exact hK _ _ (HK.out _ _ ⟨fun _ => ⟨Below.refl _ _, rfl⟩, fun h => absurd rfl h⟩)
    · refine wpOp_step (o := _) rfl fun K' hK => ?_
      rw [if_pos (by go_simp)]
      have e1 : a.tmps.getD 3 undef = .pointer (some ⟨w.heap.size, 0, none⟩) := HAN.out 0 (by decide)
      have c0 : W.cell? ⟨w.heap.size, 0, none⟩ = some (.slice b1 ins.length k1) := XU.out.cell 0 0 rfl rfl
      go_simp
      exact hK _ _ (HK.out _ _ ⟨fun _ => ⟨Below.refl _ _, rfl⟩, fun h => absurd rfl h⟩)
    · refine wpOp_step (o := _) rfl fun K' hK => ?_
      rw [if_pos (by go_simp)]
      have e1 : a.tmps.getD 4 undef = .slice b1 ins.length k1 := HAN.out 1 (by decide)
      go_simp
      go_at_call 116
      refine (C1.out _ HB.out).mono ?_
      rintro e W' ⟨vv, rfl, ho, hbb⟩
      exact hK _ _ (HK.out _ _ ⟨fun _ => ⟨hbb, Owi.of ho hbb.size⟩, fun h => absurd rfl h⟩)
    · refine wpOp_step (o := _) rfl fun K' hK => ?_
      rw [if_pos (by go_simp)]
      have e1 : a.tmps.getD 1 undef = .pointer (some ⟨w.heap.size, 0, none⟩) := (HRS.out 1 (by decide)).trans rfl
      go_simp
      exact hK _ _ (HK.out _ _ ⟨fun _ => ⟨Below.refl _ _, rfl⟩, fun h => absurd rfl h⟩)
    · refine wpOp_step (o := _) rfl fun K' hK => ?_
      rw [if_pos (by go_simp)]
      have e1 : a.tmps.getD 6 undef = .pointer (some ⟨w.heap.size, 1, none⟩) := HAN.out 3 (by decide)
      have c0 : W.cell? ⟨w.heap.size, 1, none⟩ = some (.slice b2 de.length k2) := XU.out.cell 0 1 rfl rfl
      go_simp
      exact hK _ _ (HK.out _ _ ⟨fun _ => ⟨Below.refl _ _, rfl⟩, fun h => absurd rfl h⟩)
    · refine wpOp_step (o := _) rfl fun K' hK => ?_
      rw [if_pos (by go_simp)]
      have e1 : a.tmps.getD 7 undef = .slice b2 de.length k2 := HAN.out 4 (by decide)
      go_simp
      go_at_call 102
      refine (C2.out _ HB.out).mono ?_
      rintro e W' ⟨vv, rfl, ho, hbb⟩
      exact hK _ _ (HK.out _ _ ⟨fun _ => ⟨hbb, Ow.of ho hbb.size⟩, fun h => absurd rfl h⟩)
    · refine wpOp_step (o := _) rfl fun K' hK => ?_
      rw [if_pos (by go_simp)]
      obtain ⟨x1, m1, e1⟩ : ∃ x m, a.tmps.getD 5 undef = .slice x ins.length m := (show Owi W (a.tmps.getD 5 undef) ins _ _ from HAN.out 2 (by decide)).own.form
      obtain ⟨x2, m2, e2⟩ : ∃ x m, a.tmps.getD 8 undef = .slice x de.length m := (show Ow W (a.tmps.getD 8 undef) de _ _ from HAN.out 5 (by decide)).form
      have e1' := e1
      have e2' := e2
      rw [Array.getD_eq_getD_getElem?] at e1' e2'
      go_simp
      exact hK _ _ (HK.out _ _ ⟨fun _ => ⟨Below.refl _ _, (show Value.agg #[.slice x1 ins.length m1, .slice x2 de.length m2] = Value.agg #[a.tmps.getD 5 undef, a.tmps.getD 8 undef] by rw [e1, e2])⟩, fun h => absurd rfl h⟩)
  case fin =>
  intro a w2 iv I
  have hbY := I.below
  have O1 : Owi w2 (slot a 5) ins (iv 2).1 (iv 2).2 := (I.fact 2 (by decide) rfl).2
  have O2 : Ow w2 (slot a 8) de (iv 5).1 (iv 5).2 := (I.fact 5 (by decide) rfl).2
  have F8 : slot a 9 = .agg #[slot a 5, slot a 8] := (I.fact 6 (by decide) rfl).2
  obtain ⟨iv2a, iv2b, iv2c⟩ := I.ivs 2 (by decide) rfl rfl
  obtain ⟨iv5a, iv5b, iv5c⟩ := I.ivs 5 (by decide) rfl rfl
  have ap := I.apart 2 5 (by decide) (by decide) rfl rfl rfl rfl (by decide)
  obtain ⟨n1, hn1⟩ : ∃ q, q = (iv 2).1 := ⟨_, rfl⟩
  obtain ⟨h1, hh1⟩ : ∃ q, q = (iv 2).2 := ⟨_, rfl⟩
  obtain ⟨n2, hn2⟩ : ∃ q, q = (iv 5).1 := ⟨_, rfl⟩
  obtain ⟨h2, hh2⟩ : ∃ q, q = (iv 5).2 := ⟨_, rfl⟩
  rw [← hn1, ← hh1] at O1
  rw [← hn2, ← hh2] at O2
  have hq1 : w1.heap.size ≤ n1 ∧ w1.heap.size ≤ n2 ∧ (h1 ≤ n2 ∨ h2 ≤ n1) := by omega
  obtain ⟨x1, y1, hx1⟩ := O1.own.form
  obtain ⟨x2, y2, hx2⟩ := O2.form
  rw [hx1] at O1 F8
  rw [hx2] at O2 F8
  have hfr := frame_of [3, 4, 5, 6, 7, 8, 9] I.size I.defers (fun s hs => I.rest s (rfDsts_spec (by kernel_rfl) hs))
  have e2 : a.tmps.getD 2 undef = .pointer (some ⟨w.heap.size + 1, 0, none⟩) := (I.rest 2 (by decide)).trans rfl
  have e11 : a.tmps.getD 9 undef = .agg #[.slice x1 ins.length y1, .slice x2 de.length y2] := F8
  clear iv2a iv2b iv2c iv5a iv5b iv5c ap hn1 hn2 hh1 hh2 F8 hx1 hx2
  have Y := X.out.up hbY
  have c0 := Y.cell 1 0 rfl rfl
  have c1 := Y.cell 1 1 rfl rfl
  have u0 := Y.free 1 0 rfl
  have u1 := Y.free 1 1 rfl
  have XF := hide hfr
  have O1 := hide O1
  have O2 := hide O2
  have HQ := hide hq1
  clear hfr I hq1
  show wpOp _ _ _ 7 _ a w2
  refine wpOp_step (o := _) rfl fun K' hK => ?_
  rw [if_pos (by go_simp)]
  go_simp
  refine hK _ _ ?_
  clear hK K' c0 c1 u0 u1 e2 e11
  have Z := hide ((Y.set 1 0 rfl (.slice x1 ins.length y1)).set 1 1 rfl (.slice x2 de.length y2))
  have sg : Seg (w.heap.size + 1) (w.heap.size + 1 + 1) w2 ((w2.setCell ⟨w.heap.size + 1, 0, none⟩ (.slice x1 ins.length y1)).setCell ⟨w.heap.size + 1, 1, none⟩ (.slice x2 de.length y2)) := segS2 (Nat.le_refl _) (Nat.lt_succ_self _) _ _
  obtain ⟨p1, p2, p3⟩ := HQ.out
  have p0 := hz1.out
  have O1 := hide (O1.out.seg sg (.inr (by omega)))
  have O2 := hide (O2.out.seg sg (.inr (by omega)))
  clear sg Y
  obtain ⟨w3, hw3⟩ : ∃ q, q = (w2.setCell ⟨w.heap.size + 1, 0, none⟩ (.slice x1 ins.length y1)).setCell ⟨w.heap.size + 1, 1, none⟩ (.slice x2 de.length y2) := ⟨_, rfl⟩
  rw [← hw3] at Z O1 O2 ⊢
  clear hw3
  have z0 := Z.out.cell 1 0 rfl rfl
  have z1 := Z.out.cell 1 1 rfl rfl
  have t1 := O1.out.top
  have t2 := O2.out.top
  have t3 := O1.out.le
  have t4 := O2.out.le
  have hbz := Z.out.below
  have HE := hide (show PdOs w3 (.agg #[.slice x1 ins.length y1, .slice x2 de.length y2]) ins de w.heap.size w3.heap.size from ⟨_, _, _, _, _, _, rfl, O1.out, O2.out, ⟨by omega, by omega⟩, ⟨t1, t2⟩, p3, hbz.size, Nat.le_refl _⟩)
  clear p0 p1 p2 p3 t1 t2 t3 t4 HQ
  have XF2 := XF.out
  clear XF
  rw [XF2]
  simp only [List.foldl_cons, List.foldl_nil, List.setIfInBounds_toArray, List.set_cons_succ, List.set_cons_zero]
  show Exit.then _ _ .normal _ _
  clear XF2
  generalize slot a 3 = t3
  generalize slot a 4 = t4
  generalize slot a 5 = t5
  generalize slot a 6 = t6
  generalize slot a 7 = t7
  generalize slot a 8 = t8
  generalize slot a 9 = t9
  go_wp2_with fail
  exact bodyPost_ret (v := .agg #[.slice x1 ins.length y1, .slice x2 de.length y2]) (by simp [results, Try.results93, go_sem, z0, z1]) rfl ⟨_, rfl, HE.out, hbz⟩

end Go.Proofs.Ytajfhalalnlejaa
