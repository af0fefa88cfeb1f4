/- What l11Copy of the reference returns (gen_pcp.py; promise 7). -/
import Derived.Test.YtajfhalalnlejaaPd
import Derived.Test.YtajfhalalnlejaaRf
import Derived.Test.YtajfhalalnlejaaAp0
import Derived.Test.YtajfhalalnlejaaCpy
import Derived.Test.YtajfhalalnlejaaSwM0
namespace Go.Proofs.Ytajfhalalnlejaa
open Go.RowKit Go.ChangeShapes
set_option linter.unusedSimpArgs false
set_option linter.unusedVariables false
set_option maxRecDepth 100000

theorem Owi.empty {W : World} {k : Nat} (h : W.heap[k]? = some (.cells #[] 49 (0, 0))) : Owi W (.slice (some ⟨k, 0, none⟩) 0 0) [] k (k + 1) :=
  have hk := (Array.getElem?_eq_some_iff.1 h).1
  ⟨⟨by simp [pvVs], .inr ⟨k, 0, #[], rfl, Nat.le_refl _, h, Nat.le_refl _, by unfold maxLen; omega, rfl, by simp [pvVs]⟩⟩, fun g hg => by simp [Value.ownBlock] at hg; omega, by omega, hk⟩

theorem pvs_capn {w : World} {B : Nat} {a : Option Addr} {n c : Nat} {ps : List Pv} (h : Pvs w B (.slice a n c) ps) : n = ps.length := by
  obtain ⟨a', c', e, -⟩ := h
  simp only [Value.slice.injEq] at e
  exact e.2.1

set_option maxHeartbeats 8000000 in
theorem sPdCopy_any (u : Value) (ins : List Pv) (de : List Int) (w : World) (B : Nat) (hu : Pd w B u ins de) (hB : B ≤ w.heap.size) (hi : ins.length ≤ 1048577) (hd : de.length ≤ 1048577) :
    Calls Try.prog 92 #[u] w (RetPdO' w ins de) := by
  obtain ⟨b1, k1, b2, k2, rfl, i1, i2⟩ := hu.form
  have hnil : (b1 = none → k1 = 0) ∧ (b2 = none → k2 = 0) := by
    obtain ⟨x, y, e, -, -, ⟨a', n', c', rfl, -, h1⟩, ⟨a2', n2', c2', rfl, -, h2⟩⟩ := hu
    simp only [Value.agg.injEq, Array.mk.injEq, List.cons.injEq, Value.slice.injEq, and_true] at e
    obtain ⟨⟨rfl, -, rfl⟩, ⟨rfl, -, rfl⟩⟩ := e
    exact ⟨h1, h2⟩
  obtain ⟨z1, z2⟩ := hnil
  have Z1 := hide z1
  have Z2 := hide z2
  have X := hide (Kn.two w #[.slice b1 ins.length k1, .slice b2 de.length k2] #[.slice none 0 0, .slice none 0 0] 70 70)
  obtain ⟨w1, hw1⟩ : ∃ w1, w1 = (w.alloc (.cells #[.slice b1 ins.length k1, .slice b2 de.length k2] 70)).alloc (.cells #[.slice none 0 0, .slice none 0 0] 70) := ⟨_, rfl⟩
  have hz1 := hide (show w1.heap.size = w.heap.size + 1 + 1 by rw [hw1]; simp)
  rw [← hw1] at X
  have I1 := hide (fun (W : World) (h : Below w1.heap.size w1 W) => (i1.below X.out.below hB).below h (Nat.le_trans hB X.out.below.size))
  have I2 := hide (fun (W : World) (h : Below w1.heap.size w1 W) => (i2.below X.out.below hB).below h (Nat.le_trans hB X.out.below.size))
  clear i1 i2 hu z1 z2
  go_enter Try.func92, Try.ntmps92
  go_wp2_with fail
  rw [← hw1]
  clear hw1
  refine wp_region_any (by kernel_rfl) ?_
  refine wpAny_factsT (w0 := w1) (fun i => ([(fun lo hi s W => ∃ g, s 3 = .slice (some ⟨g, 0, none⟩) 0 0 ∧ lo ≤ g ∧ g < hi ∧ W.heap[g]? = some (.cells #[] 49 (0, 0))),
    (fun lo hi s W => s 4 = .pointer (some ⟨w.heap.size, 0, none⟩)),
    (fun lo hi s W => s 5 = .slice b1 ins.length k1),
    (fun lo hi s W => (ins.length = 0 ∧ s 6 = s 3) ∨ Owi W (s 6) ins lo hi),
    (fun lo hi s W => ∃ g, s 7 = .slice (some ⟨g, 0, none⟩) 0 0 ∧ lo ≤ g ∧ g < hi ∧ W.heap[g]? = some (.cells #[] 3 (0, 0))),
    (fun lo hi s W => s 8 = .pointer (some ⟨w.heap.size, 1, none⟩)),
    (fun lo hi s W => s 9 = .slice b2 de.length k2),
    (fun lo hi s W => (de.length = 0 ∧ s 10 = s 7) ∨ Ow W (s 10) de lo hi),
    (fun lo hi s W => s 11 = .agg #[s 6, s 10]),
    (fun lo hi s W => True)] : List (Nat → Nat → (Nat → Value) → World → Prop)).getD i (fun _ _ _ _ => True)) [[], [], [1], [0, 1, 2], [], [], [5], [0, 1, 2, 3, 4, 5, 6], [0, 1, 2, 3, 4, 5, 6, 7], [0, 1, 2, 3, 4, 5, 6, 7, 8]] [0, 1, 2, 3, 4, 5, 6, 7, 8, 9] [[3], [4], [5], [6, 3], [7], [8], [9], [10, 7], [11, 6, 10], []] [[], [], [], [], [], [], [], [], [], []] (by kernel_rfl) (by kernel_rfl) 9 1 rfl (by kernel_rfl) ?st ?step ?fin
  case st =>
    intro i hi lo hi' s W W' h q1 q2 q3 q4 k
    rcases (show i = 0 ∨ i = 1 ∨ i = 2 ∨ i = 3 ∨ i = 4 ∨ i = 5 ∨ i = 6 ∨ i = 7 ∨ i = 8 by omega) with rfl | rfl | rfl | rfl | rfl | rfl | rfl | rfl | rfl
    · have h : ∃ g, s 3 = .slice (some ⟨g, 0, none⟩) 0 0 ∧ lo ≤ g ∧ g < hi' ∧ W.heap[g]? = some (.cells #[] 49 (0, 0)) := h
      show ∃ g, s 3 = .slice (some ⟨g, 0, none⟩) 0 0 ∧ lo ≤ g ∧ g < hi' ∧ W'.heap[g]? = some (.cells #[] 49 (0, 0))
      obtain ⟨g, e1, e2, e3, e4⟩ := h; exact ⟨g, e1, e2, e3, (k.own g e2 e3 (Array.getElem?_eq_some_iff.1 e4).1).trans e4⟩
    · have h : s 4 = .pointer (some ⟨w.heap.size, 0, none⟩) := h
      show s 4 = .pointer (some ⟨w.heap.size, 0, none⟩)
      exact h
    · have h : s 5 = .slice b1 ins.length k1 := h
      show s 5 = .slice b1 ins.length k1
      exact h
    · have h : (ins.length = 0 ∧ s 6 = s 3) ∨ Owi W (s 6) ins lo hi' := h
      show (ins.length = 0 ∧ s 6 = s 3) ∨ Owi W' (s 6) ins lo hi'
      exact h.imp id (fun h => h.on k.size k.own)
    · have h : ∃ g, s 7 = .slice (some ⟨g, 0, none⟩) 0 0 ∧ lo ≤ g ∧ g < hi' ∧ W.heap[g]? = some (.cells #[] 3 (0, 0)) := h
      show ∃ g, s 7 = .slice (some ⟨g, 0, none⟩) 0 0 ∧ lo ≤ g ∧ g < hi' ∧ W'.heap[g]? = some (.cells #[] 3 (0, 0))
      obtain ⟨g, e1, e2, e3, e4⟩ := h; exact ⟨g, e1, e2, e3, (k.own g e2 e3 (Array.getElem?_eq_some_iff.1 e4).1).trans e4⟩
    · have h : s 8 = .pointer (some ⟨w.heap.size, 1, none⟩) := h
      show s 8 = .pointer (some ⟨w.heap.size, 1, none⟩)
      exact h
    · have h : s 9 = .slice b2 de.length k2 := h
      show s 9 = .slice b2 de.length k2
      exact h
    · have h : (de.length = 0 ∧ s 10 = s 7) ∨ Ow W (s 10) de lo hi' := h
      show (de.length = 0 ∧ s 10 = s 7) ∨ Ow W' (s 10) de lo hi'
      exact h.imp id (fun h => h.on k.size k.own)
    · have h : s 11 = .agg #[s 6, s 10] := h
      show s 11 = .agg #[s 6, s 10]
      exact h
  case step =>
    intro i hi a W iv hb hsz hdf hrest hanc hivs hap K HK
    have HK := hide HK
    have HAN := hide hanc
    have HRS := hide hrest
    have XU := hide (X.out.up hb)
    have HB := hide hb
    clear hanc hivs hap hrest hb hsz hdf X
    rcases (show i = 0 ∨ i = 1 ∨ i = 2 ∨ i = 3 ∨ i = 4 ∨ i = 5 ∨ i = 6 ∨ i = 7 ∨ i = 8 by omega) with rfl | rfl | rfl | rfl | rfl | rfl | rfl | rfl | rfl
    · refine wpOp_step (o := _) rfl fun K' hK => ?_
      rw [if_pos (by go_simp)]
      go_simp
      exact hK _ _ (HK.out _ _ ⟨fun _ => ⟨below1 W _, ⟨W.heap.size, rfl, Nat.le_refl _, by simp, heap_alloc_new W _⟩⟩, fun h => absurd rfl h⟩)
    · refine wpOp_step (o := _) rfl fun K' hK => ?_
      rw [if_pos (by go_simp)]
      have e1 : a.tmps.getD 1 undef = .pointer (some ⟨w.heap.size, 0, none⟩) := (HRS.out 1 (by decide)).trans rfl
      go_simp
      exact hK _ _ (HK.out _ _ ⟨fun _ => ⟨Below.refl _ _, rfl⟩, fun h => absurd rfl h⟩)
    · refine wpOp_step (o := _) rfl fun K' hK => ?_
      rw [if_pos (by go_simp)]
      have e1 : a.tmps.getD 4 undef = .pointer (some ⟨w.heap.size, 0, none⟩) := HAN.out 1 (by decide)
      have c0 : W.cell? ⟨w.heap.size, 0, none⟩ = some (.slice b1 ins.length k1) := XU.out.cell 0 0 rfl rfl
      go_simp
      exact hK _ _ (HK.out _ _ ⟨fun _ => ⟨Below.refl _ _, rfl⟩, fun h => absurd rfl h⟩)
    · refine wpOp_step (o := _) rfl fun K' hK => ?_
      rw [if_pos (by go_simp)]
      obtain ⟨g, e1, -⟩ : ∃ g, a.tmps.getD 3 undef = .slice (some ⟨g, 0, none⟩) 0 0 ∧ _ := HAN.out 0 (by decide)
      have e2 : a.tmps.getD 5 undef = .slice b1 ins.length k1 := HAN.out 2 (by decide)
      obtain ⟨i0, hi0, hi1, hi2, hi3⟩ := info_parts infoIt
      refine append0_wp W _ _ 68 rfl 49 i0 _ 2 16 Try.underlying68 hi0 hi1 hi2 hi3 (by first | rfl | decide) (by decide) (by decide) g e1 b1 ins.length k1 (pvVs ins) e2 (fun h => ?_) (by simp [pvVs_length]) (pvs_news (I1.out W HB.out)) (pvVs_cell ins) (by omega) ?_
      · refine ⟨?_, Z1.out h⟩
        subst h
        exact pvs_nil (I1.out W HB.out)
      intro v' W' hbl hor
      refine hK _ _ (HK.out _ _ ⟨fun _ => ⟨hbl, ?_⟩, fun h => absurd rfl h⟩)
      rcases hor with ⟨h1, h2⟩ | h1
      · exact .inl ⟨h1, h2.trans e1.symm⟩
      · exact .inr (Owi.of h1 hbl.size)
    · refine wpOp_step (o := _) rfl fun K' hK => ?_
      rw [if_pos (by go_simp)]
      go_simp
      exact hK _ _ (HK.out _ _ ⟨fun _ => ⟨below1 W _, ⟨W.heap.size, rfl, Nat.le_refl _, by simp, heap_alloc_new W _⟩⟩, fun h => absurd rfl h⟩)
    · refine wpOp_step (o := _) rfl fun K' hK => ?_
      rw [if_pos (by go_simp)]
      have e1 : a.tmps.getD 1 undef = .pointer (some ⟨w.heap.size, 0, none⟩) := (HRS.out 1 (by decide)).trans rfl
      go_simp
      exact hK _ _ (HK.out _ _ ⟨fun _ => ⟨Below.refl _ _, rfl⟩, fun h => absurd rfl h⟩)
    · refine wpOp_step (o := _) rfl fun K' hK => ?_
      rw [if_pos (by go_simp)]
      have e1 : a.tmps.getD 8 undef = .pointer (some ⟨w.heap.size, 1, none⟩) := HAN.out 5 (by decide)
      have c0 : W.cell? ⟨w.heap.size, 1, none⟩ = some (.slice b2 de.length k2) := XU.out.cell 0 1 rfl rfl
      go_simp
      exact hK _ _ (HK.out _ _ ⟨fun _ => ⟨Below.refl _ _, rfl⟩, fun h => absurd rfl h⟩)
    · refine wpOp_step (o := _) rfl fun K' hK => ?_
      rw [if_pos (by go_simp)]
      obtain ⟨g, e1, -⟩ : ∃ g, a.tmps.getD 7 undef = .slice (some ⟨g, 0, none⟩) 0 0 ∧ _ := HAN.out 4 (by decide)
      have e2 : a.tmps.getD 9 undef = .slice b2 de.length k2 := HAN.out 6 (by decide)
      obtain ⟨i0, hi0, hi1, hi2, hi3⟩ := info_parts infoI
      refine append0_wp W _ _ 22 rfl 3 i0 _ 1 8 Try.underlying22 hi0 hi1 hi2 hi3 (by first | rfl | decide) (by decide) (by decide) g e1 b2 de.length k2 (intVs de) e2 (fun h => ?_) (by simp [intVs]) (ints_news (I2.out W HB.out)) (intVs_cell de) (by omega) ?_
      · refine ⟨?_, Z2.out h⟩
        subst h
        exact ints_nil (I2.out W HB.out)
      intro v' W' hbl hor
      refine hK _ _ (HK.out _ _ ⟨fun _ => ⟨hbl, ?_⟩, fun h => absurd rfl h⟩)
      rcases hor with ⟨h1, h2⟩ | h1
      · exact .inl ⟨h1, h2.trans e1.symm⟩
      · exact .inr (Ow.of h1 hbl.size)
    · refine wpOp_step (o := _) rfl fun K' hK => ?_
      rw [if_pos (by go_simp)]
      obtain ⟨x1, n1, m1, e1⟩ : ∃ x n m, a.tmps.getD 6 undef = .slice x n m := by
        have h : (ins.length = 0 ∧ a.tmps.getD 6 undef = a.tmps.getD 3 undef) ∨ Owi W (a.tmps.getD 6 undef) ins _ _ := HAN.out 3 (by decide)
        rcases h with ⟨-, h⟩ | h
        · obtain ⟨g, e, -⟩ : ∃ g, a.tmps.getD 3 undef = .slice (some ⟨g, 0, none⟩) 0 0 ∧ _ := HAN.out 0 (by decide)
          exact ⟨_, _, _, h.trans e⟩
        · obtain ⟨x, m, e⟩ := h.own.form
          exact ⟨_, _, _, e⟩
      obtain ⟨x2, n2, m2, e2⟩ : ∃ x n m, a.tmps.getD 10 undef = .slice x n m := by
        have h : (de.length = 0 ∧ a.tmps.getD 10 undef = a.tmps.getD 7 undef) ∨ Ow W (a.tmps.getD 10 undef) de _ _ := HAN.out 7 (by decide)
        rcases h with ⟨-, h⟩ | h
        · obtain ⟨g, e, -⟩ : ∃ g, a.tmps.getD 7 undef = .slice (some ⟨g, 0, none⟩) 0 0 ∧ _ := HAN.out 4 (by decide)
          exact ⟨_, _, _, h.trans e⟩
        · obtain ⟨x, m, e⟩ := h.form
          exact ⟨_, _, _, e⟩
      have e1' := e1
      have e2' := e2
      rw [Array.getD_eq_getD_getElem?] at e1' e2'
      go_simp
      exact hK _ _ (HK.out _ _ ⟨fun _ => ⟨Below.refl _ _, (show Value.agg #[.slice x1 n1 m1, .slice x2 n2 m2] = Value.agg #[a.tmps.getD 6 undef, a.tmps.getD 10 undef] by rw [e1, e2])⟩, fun h => absurd rfl h⟩)
  case fin =>
  intro a w2 iv I
  have hbY := I.below
  have F0 : ∃ g, slot a 3 = .slice (some ⟨g, 0, none⟩) 0 0 ∧ (iv 0).1 ≤ g ∧ g < (iv 0).2 ∧ w2.heap[g]? = some (.cells #[] 49 (0, 0)) := (I.fact 0 (by decide) rfl).2
  obtain ⟨iv0a, iv0b, iv0c⟩ := I.ivs 0 (by decide) rfl rfl
  have F3 : (ins.length = 0 ∧ slot a 6 = slot a 3) ∨ Owi w2 (slot a 6) ins (iv 3).1 (iv 3).2 := (I.fact 3 (by decide) rfl).2
  obtain ⟨iv3a, iv3b, iv3c⟩ := I.ivs 3 (by decide) rfl rfl
  have F4 : ∃ g, slot a 7 = .slice (some ⟨g, 0, none⟩) 0 0 ∧ (iv 4).1 ≤ g ∧ g < (iv 4).2 ∧ w2.heap[g]? = some (.cells #[] 3 (0, 0)) := (I.fact 4 (by decide) rfl).2
  obtain ⟨iv4a, iv4b, iv4c⟩ := I.ivs 4 (by decide) rfl rfl
  have F7 : (de.length = 0 ∧ slot a 10 = slot a 7) ∨ Ow w2 (slot a 10) de (iv 7).1 (iv 7).2 := (I.fact 7 (by decide) rfl).2
  obtain ⟨iv7a, iv7b, iv7c⟩ := I.ivs 7 (by decide) rfl rfl
  have F8 : slot a 11 = .agg #[slot a 6, slot a 10] := (I.fact 8 (by decide) rfl).2
  have ap0_4 := I.apart 0 4 (by decide) (by decide) rfl rfl rfl rfl (by decide)
  have ap0_7 := I.apart 0 7 (by decide) (by decide) rfl rfl rfl rfl (by decide)
  have ap3_4 := I.apart 3 4 (by decide) (by decide) rfl rfl rfl rfl (by decide)
  have ap3_7 := I.apart 3 7 (by decide) (by decide) rfl rfl rfl rfl (by decide)
  obtain ⟨g0, f1, f2, f3, f4⟩ := F0
  obtain ⟨g4, f5, f6, f7, f8⟩ := F4
  have R1 : ∃ n1 h1, Owi w2 (slot a 6) ins n1 h1 ∧ (((iv 0).1 ≤ n1 ∧ h1 ≤ (iv 0).2) ∨ ((iv 3).1 ≤ n1 ∧ h1 ≤ (iv 3).2)) := by
    rcases F3 with ⟨h1, h2⟩ | h1
    · have hn : ins = [] := List.eq_nil_of_length_eq_zero h1
      rw [h2, f1, hn]
      exact ⟨_, _, Owi.empty f4, .inl ⟨f2, f3⟩⟩
    · exact ⟨_, _, h1, .inr ⟨Nat.le_refl _, Nat.le_refl _⟩⟩
  have R2 : ∃ n2 h2, Ow w2 (slot a 10) de n2 h2 ∧ (((iv 4).1 ≤ n2 ∧ h2 ≤ (iv 4).2) ∨ ((iv 7).1 ≤ n2 ∧ h2 ≤ (iv 7).2)) := by
    rcases F7 with ⟨h1, h2⟩ | h1
    · have hn : de = [] := List.eq_nil_of_length_eq_zero h1
      rw [h2, f5, hn]
      exact ⟨_, _, Ow.emptyI f8, .inl ⟨f6, f7⟩⟩
    · exact ⟨_, _, h1, .inr ⟨Nat.le_refl _, Nat.le_refl _⟩⟩
  obtain ⟨n1, h1, O1, q1⟩ := R1
  obtain ⟨n2, h2, O2, q2⟩ := R2
  have hq1 : w1.heap.size ≤ n1 ∧ w1.heap.size ≤ n2 ∧ (h1 ≤ n2 ∨ h2 ≤ n1) := by omega
  obtain ⟨x1, y1, hx1⟩ := O1.own.form
  obtain ⟨x2, y2, hx2⟩ := O2.form
  rw [hx1] at O1 F8
  rw [hx2] at O2 F8
  have hfr := frame_of [3, 4, 5, 6, 7, 8, 9, 10, 11] I.size I.defers (fun s hs => I.rest s (rfDsts_spec (by kernel_rfl) hs))
  have e2 : a.tmps.getD 2 undef = .pointer (some ⟨w.heap.size + 1, 0, none⟩) := (I.rest 2 (by decide)).trans rfl
  have e11 : a.tmps.getD 11 undef = .agg #[.slice x1 ins.length y1, .slice x2 de.length y2] := F8
  have Y := X.out.up hbY
  have c0 := Y.cell 1 0 rfl rfl
  have c1 := Y.cell 1 1 rfl rfl
  have u0 := Y.free 1 0 rfl
  have u1 := Y.free 1 1 rfl
  have XF := hide hfr
  have O1 := hide O1
  have O2 := hide O2
  have HQ := hide hq1
  clear hfr I F3 F7 F8 q1 q2 hq1 iv0a iv0b iv0c iv3a iv3b iv3c iv4a iv4b iv4c iv7a iv7b iv7c ap0_4 ap0_7 ap3_4 ap3_7 f1 f2 f3 f4 f5 f6 f7 f8 hx1 hx2
  show wpOp _ _ _ 9 _ a w2
  refine wpOp_step (o := _) rfl fun K' hK => ?_
  rw [if_pos (by go_simp)]
  go_simp
  refine hK _ _ ?_
  clear hK K' c0 c1 u0 u1 e2 e11
  have Z := hide ((Y.set 1 0 rfl (.slice x1 ins.length y1)).set 1 1 rfl (.slice x2 de.length y2))
  have sg : Seg (w.heap.size + 1) (w.heap.size + 1 + 1) w2 ((w2.setCell ⟨w.heap.size + 1, 0, none⟩ (.slice x1 ins.length y1)).setCell ⟨w.heap.size + 1, 1, none⟩ (.slice x2 de.length y2)) := segS2 (Nat.le_refl _) (Nat.lt_succ_self _) _ _
  obtain ⟨p1, p2, p3⟩ := HQ.out
  have p0 := hz1.out
  have O1 := hide (O1.out.seg sg (.inr (by omega)))
  have O2 := hide (O2.out.seg sg (.inr (by omega)))
  clear sg Y
  obtain ⟨w3, hw3⟩ : ∃ q, q = (w2.setCell ⟨w.heap.size + 1, 0, none⟩ (.slice x1 ins.length y1)).setCell ⟨w.heap.size + 1, 1, none⟩ (.slice x2 de.length y2) := ⟨_, rfl⟩
  rw [← hw3] at Z O1 O2 ⊢
  clear hw3
  have z0 := Z.out.cell 1 0 rfl rfl
  have z1 := Z.out.cell 1 1 rfl rfl
  have t1 := O1.out.top
  have t2 := O2.out.top
  have t3 := O1.out.le
  have t4 := O2.out.le
  have hbz := Z.out.below
  have HE := hide (show PdOs w3 (.agg #[.slice x1 ins.length y1, .slice x2 de.length y2]) ins de w.heap.size w3.heap.size from ⟨_, _, _, _, _, _, rfl, O1.out, O2.out, ⟨by omega, by omega⟩, ⟨t1, t2⟩, p3, hbz.size, Nat.le_refl _⟩)
  clear p0 p1 p2 p3 t1 t2 t3 t4 HQ
  have XF2 := XF.out
  clear XF
  rw [XF2]
  simp only [List.foldl_cons, List.foldl_nil, List.setIfInBounds_toArray, List.set_cons_succ, List.set_cons_zero]
  show Exit.then _ _ .normal _ _
  clear XF2
  generalize slot a 3 = t3
  generalize slot a 4 = t4
  generalize slot a 5 = t5
  generalize slot a 6 = t6
  generalize slot a 7 = t7
  generalize slot a 8 = t8
  generalize slot a 9 = t9
  generalize slot a 10 = t10
  generalize slot a 11 = t11
  go_wp2_with fail
  exact bodyPost_ret (v := .agg #[.slice x1 ins.length y1, .slice x2 de.length y2]) (by simp [results, Try.results92, go_sem, z0, z1]) rfl ⟨_, rfl, HE.out, hbz⟩

end Go.Proofs.Ytajfhalalnlejaa
