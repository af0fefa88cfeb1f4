/- What l12Copy of the reference and copyMap of the program return (gen_mcp.py; promise 8). -/
import Derived.Test.YtepkkeclkdlheaaMp
import Derived.Test.YtepkkeclkdlheaaAp0
import Derived.Test.YtepkkeclkdlheaaCpy
import Derived.Test.YtepkkeclkdlheaaCpI
import Derived.Test.YtepkkeclkdlheaaCln
import Derived.Test.YtepkkeclkdlheaaSwM0
namespace Go.Proofs.Ytepkkeclkdlheaa
open Go.RowKit Go.ChangeShapes
set_option linter.unusedSimpArgs false
set_option linter.unusedVariables false
set_option maxRecDepth 100000

theorem Oc.of {w : World} {x y z : Value} {l r : List Int} {ps : List Pv} {A B lo hi n1 h1 n2 h2 n3 h3 : Nat} (h : OC w x y z l r ps lo hi n1 h1 n2 h2 n3 h3) (k1 : A ≤ lo) (k2 : hi ≤ B) (k3 : B ≤ w.heap.size) : Oc w (.agg #[x, y, z]) l r ps A B :=
  Oc.mono ⟨_, _, _, _, _, _, _, _, _, rfl, h⟩ k1 k2 k3

theorem Seg.setCell5 (w : World) (g : Nat) (u0 u1 u2 u3 u4 : Value) : Seg g (g + 1) w (((((w.setCell ⟨g, 0, none⟩ u0).setCell ⟨g, 1, none⟩ u1).setCell ⟨g, 2, none⟩ u2).setCell ⟨g, 3, none⟩ u3).setCell ⟨g, 4, none⟩ u4) :=
  ((((Seg.setCell w g 0 _).trans (Seg.setCell _ g 1 _)).trans (Seg.setCell _ g 2 _)).trans (Seg.setCell _ g 3 _)).trans (Seg.setCell _ g 4 _)

theorem Mp.caps {w : World} {B : Nat} {l r : List Int} {ps : List Pv} {t : List Int} {a : Int} {q1 q2 q3 y : Value} {a4 : Option Addr} {n4 c4 : Nat} (h : Mp w B (.agg #[q1, q2, q3, .slice a4 n4 c4, y]) l r ps t a) : a4 = none → c4 = 0 := by
  obtain ⟨y1, y2, y3, x, e, -, -, ⟨a', n', c', rfl, -, h1⟩, -⟩ := h
  simp only [Value.agg.injEq, Array.mk.injEq, List.cons.injEq, Value.slice.injEq, and_true] at e
  obtain ⟨-, -, -, ⟨rfl, -, rfl⟩, -⟩ := e
  exact h1

theorem size5 {c : Array Value} (h : c.size = 5) : ∃ x0 x1 x2 x3 x4, c = #[x0, x1, x2, x3, x4] := by
  match c, h with
  | ⟨[x0, x1, x2, x3, x4]⟩, _ => exact ⟨x0, x1, x2, x3, x4, rfl⟩

theorem heap_put5 {W : World} {g : Nat} {c : Array Value} {t : TypeId} (h : W.heap[g]? = some (.cells c t (0, 0))) (hc : c.size = 5) (u0 u1 u2 u3 u4 : Value) : (((((W.setCell ⟨g, 0, none⟩ u0).setCell ⟨g, 1, none⟩ u1).setCell ⟨g, 2, none⟩ u2).setCell ⟨g, 3, none⟩ u3).setCell ⟨g, 4, none⟩ u4).heap[g]? = some (.cells #[u0, u1, u2, u3, u4] t (0, 0)) := by
  obtain ⟨x0, x1, x2, x3, x4, rfl⟩ := size5 hc
  have h1 := heap_setCell_same W g 0 _ _ u0 h
  have h2 := heap_setCell_same _ g 1 _ _ u1 h1
  have h3 := heap_setCell_same _ g 2 _ _ u2 h2
  have h4 := heap_setCell_same _ g 3 _ _ u3 h3
  have h5 := heap_setCell_same _ g 4 _ _ u4 h4
  simpa using h5

theorem segS5 {W : World} {g lo hi : Nat} (h1 : lo ≤ g) (h2 : g < hi) (u0 u1 u2 u3 u4 : Value) : Seg lo hi W (((((W.setCell ⟨g, 0, none⟩ u0).setCell ⟨g, 1, none⟩ u1).setCell ⟨g, 2, none⟩ u2).setCell ⟨g, 3, none⟩ u3).setCell ⟨g, 4, none⟩ u4) :=
  (Seg.setCell5 W g u0 u1 u2 u3 u4).mono h1 h2

/-- Integers that are only read, with their capacity. -/
def InC (w : World) (B : Nat) (v : Value) (l : List Int) : Prop := Ints w B v l ∧ Cap v
theorem Oin.rdc {w : World} {v : Value} {l : List Int} {lo hi : Nat} (h : Oin w v l lo hi) (hw : IntsWf l) : InC w w.heap.size v l := ⟨Oin.rd h hw, Ow.cap h⟩
theorem InC.below {w w' : World} {B C : Nat} {v : Value} {l : List Int} (h : InC w B v l) (hb : Below C w w') (hC : B ≤ C) : InC w' B v l := ⟨h.1.below hb hC, h.2⟩
theorem toIntS_o (v : Value) (l : List Int) (w : World) (B : Nat) (hv : Ints w B v l) (hB : B ≤ w.heap.size) (k : l.length ≤ 1048576) :
    Calls Try.prog 16 #[v] w fun e w' => ∃ v', e = .returned v' ∧ Oin w' v' l w.heap.size w'.heap.size ∧ Below w.heap.size w w' := by
  refine (toIntS_own v l w B hv hB k).mono ?_
  rintro e w' ⟨v', rfl, h, hb⟩
  exact ⟨v', rfl, Ow.of h hb.size, hb⟩

set_option maxHeartbeats 8000000 in
theorem sMpCopy_any (u : Value) (l r : List Int) (ps : List Pv) (t : List Int) (a : Int) (w : World) (B : Nat) (hu : Mp w B u l r ps t a) (hB : B ≤ w.heap.size) (k1 : l.length ≤ 1048576) (k2 : r.length ≤ 1048576) (k3 : ps.length ≤ 1048576) (k4 : t.length ≤ 1048576) :
    Calls Try.prog 83 #[u] w (RetMpO w l r ps t a) := by
  obtain ⟨a1, c1, a2, c2, a3, c3, a4, c4, rfl, i1, i2⟩ := hu.form
  have hnil := hu.caps
  have Z2 := hide hnil
  have X := hide (Kn.two w #[.slice a1 l.length c1, .slice a2 r.length c2, .slice a3 ps.length c3, .slice a4 t.length c4, .int .i64 a] #[.slice none 0 0, .slice none 0 0, .slice none 0 0, .slice none 0 0, .int .i64 0] 27 27)
  obtain ⟨w1, hw1⟩ : ∃ w1, w1 = (w.alloc (.cells #[.slice a1 l.length c1, .slice a2 r.length c2, .slice a3 ps.length c3, .slice a4 t.length c4, .int .i64 a] 27)).alloc (.cells #[.slice none 0 0, .slice none 0 0, .slice none 0 0, .slice none 0 0, .int .i64 0] 27) := ⟨_, rfl⟩
  have hz1 := hide (show w1.heap.size = w.heap.size + 1 + 1 by rw [hw1]; simp)
  rw [← hw1] at X
  have C1 := hide (fun (W : World) (h : Below w1.heap.size w1 W) => sCopy_any _ l r ps W B ((i1.below X.out.below hB).below h (Nat.le_trans hB X.out.below.size)) (Nat.le_trans hB (Nat.le_trans X.out.below.size h.size)) k1 k2 k3)
  have I2 := hide (fun (W : World) (h : Below w1.heap.size w1 W) => (i2.below X.out.below hB).below h (Nat.le_trans hB X.out.below.size))
  clear i1 i2 hu hnil
  go_enter Try.func83, Try.ntmps83
  go_wp2_with fail
  rw [← hw1]
  clear hw1
  refine wp_region_any (by kernel_rfl) ?_
  refine wpAny_factsT (w0 := w1) (fun i => ([(fun lo hi s W => s 3 = .pointer (some ⟨w.heap.size, 0, none⟩)),
    (fun lo hi s W => s 4 = .agg #[.slice a1 l.length c1, .slice a2 r.length c2, .slice a3 ps.length c3]),
    (fun lo hi s W => Oc W (s 5) l r ps lo hi),
    (fun lo hi s W => ∃ g, s 6 = .slice (some ⟨g, 0, none⟩) 0 0 ∧ lo ≤ g ∧ g < hi ∧ W.heap[g]? = some (.cells #[] 3 (0, 0))),
    (fun lo hi s W => s 7 = .pointer (some ⟨w.heap.size, 3, none⟩)),
    (fun lo hi s W => s 8 = .slice a4 t.length c4),
    (fun lo hi s W => (t.length = 0 ∧ s 9 = s 6) ∨ Ow W (s 9) t lo hi),
    (fun lo hi s W => s 10 = .pointer (some ⟨w.heap.size, 4, none⟩)),
    (fun lo hi s W => s 11 = .int .i64 a),
    (fun lo hi s W => ∃ z1 m1 z2 m2 z3 m3 z4 n4 m4, s 12 = .agg #[.slice z1 l.length m1, .slice z2 r.length m2, .slice z3 ps.length m3, .slice z4 n4 m4, .int .i64 a] ∧ s 5 = .agg #[.slice z1 l.length m1, .slice z2 r.length m2, .slice z3 ps.length m3] ∧ s 9 = .slice z4 n4 m4),
    (fun lo hi s W => True)] : List (Nat → Nat → (Nat → Value) → World → Prop)).getD i (fun _ _ _ _ => True)) [[], [0], [0, 1], [], [], [4], [0, 1, 2, 3, 4, 5], [], [7], [0, 1, 2, 3, 4, 5, 6, 7, 8], [0, 1, 2, 3, 4, 5, 6, 7, 8, 9]] [0, 1, 2, 3, 4, 5, 6, 7, 8, 9, 10] [[3], [4], [5], [6], [7], [8], [9, 6], [10], [11], [12, 5, 9, 11], []] [[], [], [], [], [], [], [], [], [], [], []] (by kernel_rfl) (by kernel_rfl) 10 1 rfl (by kernel_rfl) ?st ?step ?fin
  case st =>
    intro i hi lo hi' s W W' h q1 q2 q3 q4 k
    rcases (show i = 0 ∨ i = 1 ∨ i = 2 ∨ i = 3 ∨ i = 4 ∨ i = 5 ∨ i = 6 ∨ i = 7 ∨ i = 8 ∨ i = 9 by omega) with rfl | rfl | rfl | rfl | rfl | rfl | rfl | rfl | rfl | rfl
    · have h : s 3 = .pointer (some ⟨w.heap.size, 0, none⟩) := h
      show s 3 = .pointer (some ⟨w.heap.size, 0, none⟩)
      exact h
    · have h : s 4 = .agg #[.slice a1 l.length c1, .slice a2 r.length c2, .slice a3 ps.length c3] := h
      show s 4 = .agg #[.slice a1 l.length c1, .slice a2 r.length c2, .slice a3 ps.length c3]
      exact h
    · have h : Oc W (s 5) l r ps lo hi' := h
      show Oc W' (s 5) l r ps lo hi'
      exact h.on k
    · have h : ∃ g, s 6 = .slice (some ⟨g, 0, none⟩) 0 0 ∧ lo ≤ g ∧ g < hi' ∧ W.heap[g]? = some (.cells #[] 3 (0, 0)) := h
      show ∃ g, s 6 = .slice (some ⟨g, 0, none⟩) 0 0 ∧ lo ≤ g ∧ g < hi' ∧ W'.heap[g]? = some (.cells #[] 3 (0, 0))
      obtain ⟨g, e1, e2, e3, e4⟩ := h; exact ⟨g, e1, e2, e3, (k.own g e2 e3 (Array.getElem?_eq_some_iff.1 e4).1).trans e4⟩
    · have h : s 7 = .pointer (some ⟨w.heap.size, 3, none⟩) := h
      show s 7 = .pointer (some ⟨w.heap.size, 3, none⟩)
      exact h
    · have h : s 8 = .slice a4 t.length c4 := h
      show s 8 = .slice a4 t.length c4
      exact h
    · have h : (t.length = 0 ∧ s 9 = s 6) ∨ Ow W (s 9) t lo hi' := h
      show (t.length = 0 ∧ s 9 = s 6) ∨ Ow W' (s 9) t lo hi'
      exact h.imp id (fun h => h.on k.size k.own)
    · have h : s 10 = .pointer (some ⟨w.heap.size, 4, none⟩) := h
      show s 10 = .pointer (some ⟨w.heap.size, 4, none⟩)
      exact h
    · have h : s 11 = .int .i64 a := h
      show s 11 = .int .i64 a
      exact h
    · have h : ∃ z1 m1 z2 m2 z3 m3 z4 n4 m4, s 12 = .agg #[.slice z1 l.length m1, .slice z2 r.length m2, .slice z3 ps.length m3, .slice z4 n4 m4, .int .i64 a] ∧ s 5 = .agg #[.slice z1 l.length m1, .slice z2 r.length m2, .slice z3 ps.length m3] ∧ s 9 = .slice z4 n4 m4 := h
      show ∃ z1 m1 z2 m2 z3 m3 z4 n4 m4, s 12 = .agg #[.slice z1 l.length m1, .slice z2 r.length m2, .slice z3 ps.length m3, .slice z4 n4 m4, .int .i64 a] ∧ s 5 = .agg #[.slice z1 l.length m1, .slice z2 r.length m2, .slice z3 ps.length m3] ∧ s 9 = .slice z4 n4 m4
      exact h
  case step =>
    intro i hi ac W iv hb hsz hdf hrest hanc hivs hap K HK
    have HK := hide HK
    have HAN := hide hanc
    have HRS := hide hrest
    have XU := hide (X.out.up hb)
    have HB := hide hb
    clear hanc hivs hap hrest hb hsz hdf X
    rcases (show i = 0 ∨ i = 1 ∨ i = 2 ∨ i = 3 ∨ i = 4 ∨ i = 5 ∨ i = 6 ∨ i = 7 ∨ i = 8 ∨ i = 9 by omega) with rfl | rfl | rfl | rfl | rfl | rfl | rfl | rfl | rfl | rfl
    · refine wpOp_step (o := _) rfl fun K' hK => ?_
      rw [if_pos (by go_simp)]
      have e1 : ac.tmps.getD 1 undef = .pointer (some ⟨w.heap.size, 0, none⟩) := (HRS.out 1 (by decide)).trans rfl
      go_simp
      exact hK _ _ (HK.out _ _ ⟨fun _ => ⟨Below.refl _ _, rfl⟩, fun h => absurd rfl h⟩)
    · refine wpOp_step (o := _) rfl fun K' hK => ?_
      rw [if_pos (by go_simp)]
      have e1 : ac.tmps.getD 3 undef = .pointer (some ⟨w.heap.size, 0, none⟩) := HAN.out 0 (by decide)
      have q0 := XU.out.cell 0 0 rfl rfl
      have q1 := XU.out.cell 0 1 rfl rfl
      have q2 := XU.out.cell 0 2 rfl rfl
      go_simp
      exact hK _ _ (HK.out _ _ ⟨fun _ => ⟨Below.refl _ _, rfl⟩, fun h => absurd rfl h⟩)
    · refine wpOp_step (o := _) rfl fun K' hK => ?_
      rw [if_pos (by go_simp)]
      have e1 : ac.tmps.getD 4 undef = .agg #[.slice a1 l.length c1, .slice a2 r.length c2, .slice a3 ps.length c3] := HAN.out 1 (by decide)
      go_simp
      go_at_call 94
      refine (C1.out _ HB.out).mono ?_
      rintro e W' ⟨x, y, z, lo, hi, n1, h1, n2, h2, n3, h3, rfl, g1, g2, ho, hbb⟩
      exact hK _ _ (HK.out _ _ ⟨fun _ => ⟨hbb, Oc.of ho g1 g2 (Nat.le_refl _)⟩, fun h => absurd rfl h⟩)
    · refine wpOp_step (o := _) rfl fun K' hK => ?_
      rw [if_pos (by go_simp)]
      go_simp
      exact hK _ _ (HK.out _ _ ⟨fun _ => ⟨below1 W _, ⟨W.heap.size, rfl, Nat.le_refl _, by simp, heap_alloc_new W _⟩⟩, fun h => absurd rfl h⟩)
    · refine wpOp_step (o := _) rfl fun K' hK => ?_
      rw [if_pos (by go_simp)]
      have e1 : ac.tmps.getD 1 undef = .pointer (some ⟨w.heap.size, 0, none⟩) := (HRS.out 1 (by decide)).trans rfl
      go_simp
      exact hK _ _ (HK.out _ _ ⟨fun _ => ⟨Below.refl _ _, rfl⟩, fun h => absurd rfl h⟩)
    · refine wpOp_step (o := _) rfl fun K' hK => ?_
      rw [if_pos (by go_simp)]
      have e1 : ac.tmps.getD 7 undef = .pointer (some ⟨w.heap.size, 3, none⟩) := HAN.out 4 (by decide)
      have q3 := XU.out.cell 0 3 rfl rfl
      go_simp
      exact hK _ _ (HK.out _ _ ⟨fun _ => ⟨Below.refl _ _, rfl⟩, fun h => absurd rfl h⟩)
    · refine wpOp_step (o := _) rfl fun K' hK => ?_
      rw [if_pos (by go_simp)]
      obtain ⟨g, e1, -⟩ : ∃ g, ac.tmps.getD 6 undef = .slice (some ⟨g, 0, none⟩) 0 0 ∧ _ := HAN.out 3 (by decide)
      have e2 : ac.tmps.getD 8 undef = .slice a4 t.length c4 := HAN.out 5 (by decide)
      obtain ⟨i0, hi0, hi1, hi2, hi3⟩ := info_parts infoI
      refine append0_wp W _ _ 22 rfl 3 i0 _ 1 8 Try.underlying22 hi0 hi1 hi2 hi3 (by first | rfl | decide) (by decide) (by decide) g e1 a4 t.length c4 (intVs t) e2 (fun h => ?_) (by simp [intVs]) (ints_news (I2.out W HB.out)) (intVs_cell t) (by omega) ?_
      · refine ⟨?_, Z2.out h⟩
        subst h
        exact ints_nil (I2.out W HB.out)
      intro v' W' hbl hor
      refine hK _ _ (HK.out _ _ ⟨fun _ => ⟨hbl, ?_⟩, fun h => absurd rfl h⟩)
      rcases hor with ⟨h1, h2⟩ | h1
      · exact .inl ⟨h1, h2.trans e1.symm⟩
      · exact .inr (Ow.of h1 hbl.size)
    · refine wpOp_step (o := _) rfl fun K' hK => ?_
      rw [if_pos (by go_simp)]
      have e1 : ac.tmps.getD 1 undef = .pointer (some ⟨w.heap.size, 0, none⟩) := (HRS.out 1 (by decide)).trans rfl
      go_simp
      exact hK _ _ (HK.out _ _ ⟨fun _ => ⟨Below.refl _ _, rfl⟩, fun h => absurd rfl h⟩)
    · refine wpOp_step (o := _) rfl fun K' hK => ?_
      rw [if_pos (by go_simp)]
      have e1 : ac.tmps.getD 10 undef = .pointer (some ⟨w.heap.size, 4, none⟩) := HAN.out 7 (by decide)
      have q4 := XU.out.cell 0 4 rfl rfl
      go_simp
      exact hK _ _ (HK.out _ _ ⟨fun _ => ⟨Below.refl _ _, rfl⟩, fun h => absurd rfl h⟩)
    · refine wpOp_step (o := _) rfl fun K' hK => ?_
      rw [if_pos (by go_simp)]
      obtain ⟨x1, m1, x2, m2, x3, m3, e1⟩ := (show Oc W (ac.tmps.getD 5 undef) l r ps _ _ from HAN.out 2 (by decide)).form
      obtain ⟨x4, n4, m4, e2⟩ : ∃ x n m, ac.tmps.getD 9 undef = .slice x n m := by
        have h : (t.length = 0 ∧ ac.tmps.getD 9 undef = ac.tmps.getD 6 undef) ∨ Ow W (ac.tmps.getD 9 undef) t _ _ := HAN.out 6 (by decide)
        rcases h with ⟨-, h⟩ | h
        · obtain ⟨g, e, -⟩ : ∃ g, ac.tmps.getD 6 undef = .slice (some ⟨g, 0, none⟩) 0 0 ∧ _ := HAN.out 3 (by decide)
          exact ⟨_, _, _, h.trans e⟩
        · obtain ⟨x, m, e⟩ := h.form
          exact ⟨_, _, _, e⟩
      have e3 : ac.tmps.getD 11 undef = .int .i64 a := HAN.out 8 (by decide)
      have e1' := e1
      have e2' := e2
      rw [Array.getD_eq_getD_getElem?] at e1' e2'
      have e3' := e3
      rw [Array.getD_eq_getD_getElem?] at e3'
      go_simp
      exact hK _ _ (HK.out _ _ ⟨fun _ => ⟨Below.refl _ _, ⟨_, _, _, _, _, _, _, _, _, rfl, e1, e2⟩⟩, fun h => absurd rfl h⟩)
  case fin =>
  intro ac w2 iv I
  have hbY := I.below
  have O1 : Oc w2 (slot ac 5) l r ps (iv 2).1 (iv 2).2 := (I.fact 2 (by decide) rfl).2
  obtain ⟨x1, y1, x2, y2, x3, y3, x4, n4, y4, F8, hx1, hx2⟩ : ∃ z1 m1 z2 m2 z3 m3 z4 n4 m4, slot ac 12 = .agg #[.slice z1 l.length m1, .slice z2 r.length m2, .slice z3 ps.length m3, .slice z4 n4 m4, .int .i64 a] ∧ slot ac 5 = .agg #[.slice z1 l.length m1, .slice z2 r.length m2, .slice z3 ps.length m3] ∧ slot ac 9 = .slice z4 n4 m4 := (I.fact 9 (by decide) rfl).2
  obtain ⟨iv2a, iv2b, iv2c⟩ := I.ivs 2 (by decide) rfl rfl
  obtain ⟨iv6a, iv6b, iv6c⟩ := I.ivs 6 (by decide) rfl rfl
  obtain ⟨iv3a, iv3b, iv3c⟩ := I.ivs 3 (by decide) rfl rfl
  have ap1 := I.apart 2 6 (by decide) (by decide) rfl rfl rfl rfl (by decide)
  have ap2 := I.apart 2 3 (by decide) (by decide) rfl rfl rfl rfl (by decide)
  obtain ⟨g0, f1, f2, f3, f4⟩ : ∃ g, slot ac 6 = .slice (some ⟨g, 0, none⟩) 0 0 ∧ (iv 3).1 ≤ g ∧ g < (iv 3).2 ∧ w2.heap[g]? = some (.cells #[] 3 (0, 0)) := (I.fact 3 (by decide) rfl).2
  have F6 : (t.length = 0 ∧ slot ac 9 = slot ac 6) ∨ Ow w2 (slot ac 9) t (iv 6).1 (iv 6).2 := (I.fact 6 (by decide) rfl).2
  have R2 : ∃ n2 h2, Ow w2 (slot ac 9) t n2 h2 ∧ (((iv 3).1 ≤ n2 ∧ h2 ≤ (iv 3).2) ∨ ((iv 6).1 ≤ n2 ∧ h2 ≤ (iv 6).2)) := by
    rcases F6 with ⟨h1, h2⟩ | h1
    · have hn : t = [] := List.eq_nil_of_length_eq_zero h1
      rw [h2, f1, hn]
      exact ⟨_, _, Ow.emptyI f4, .inl ⟨f2, f3⟩⟩
    · exact ⟨_, _, h1, .inr ⟨Nat.le_refl _, Nat.le_refl _⟩⟩
  obtain ⟨n2, h2, O2, qr2⟩ := R2
  obtain ⟨n1, hn1⟩ : ∃ q, q = (iv 2).1 := ⟨_, rfl⟩
  obtain ⟨h1, hh1⟩ : ∃ q, q = (iv 2).2 := ⟨_, rfl⟩
  rw [← hn1, ← hh1] at O1
  have hq1 : w1.heap.size ≤ n1 ∧ w1.heap.size ≤ n2 ∧ (h1 ≤ n2 ∨ h2 ≤ n1) := by omega
  rw [hx1] at O1
  rw [hx2] at O2
  obtain rfl : n4 = t.length := by
    obtain ⟨x, y, e⟩ := O2.form
    simp only [Value.slice.injEq] at e
    exact e.2.1
  have hfr := frame_of [3, 4, 5, 6, 7, 8, 9, 10, 11, 12] I.size I.defers (fun s hs => I.rest s (rfDsts_spec (by kernel_rfl) hs))
  have e2 : ac.tmps.getD 2 undef = .pointer (some ⟨w.heap.size + 1, 0, none⟩) := (I.rest 2 (by decide)).trans rfl
  have e11 : ac.tmps.getD 12 undef = .agg #[.slice x1 l.length y1, .slice x2 r.length y2, .slice x3 ps.length y3, .slice x4 t.length y4, .int .i64 a] := F8
  have Y := X.out.up hbY
  have q0 := Y.cell 1 0 rfl rfl
  have u0 := Y.free 1 0 rfl
  have q1 := Y.cell 1 1 rfl rfl
  have u1 := Y.free 1 1 rfl
  have q2 := Y.cell 1 2 rfl rfl
  have u2 := Y.free 1 2 rfl
  have q3 := Y.cell 1 3 rfl rfl
  have u3 := Y.free 1 3 rfl
  have q4 := Y.cell 1 4 rfl rfl
  have u4 := Y.free 1 4 rfl
  have XF := hide hfr
  have O1 := hide O1
  have O2 := hide O2
  have HQ := hide hq1
  clear hfr I F8 hq1 hx1 hx2 hn1 hh1 ap1 iv2a iv2b iv2c iv6a iv6b iv6c iv3a iv3b iv3c
  clear F6 ap2 f1 f2 f3 f4 qr2
  show wpOp _ _ _ 10 _ ac w2
  refine wpOp_step (o := _) rfl fun K' hK => ?_
  rw [if_pos (by go_simp)]
  go_simp
  refine hK _ _ ?_
  clear hK K' e2 e11 q0 u0 q1 u1 q2 u2 q3 u3 q4 u4
  have Z := hide (((((Y.set 1 0 rfl (.slice x1 l.length y1)).set 1 1 rfl (.slice x2 r.length y2)).set 1 2 rfl (.slice x3 ps.length y3)).set 1 3 rfl (.slice x4 t.length y4)).set 1 4 rfl (.int .i64 a))
  have sg : Seg (w.heap.size + 1) (w.heap.size + 1 + 1) w2 (((((w2.setCell ⟨w.heap.size + 1, 0, none⟩ (.slice x1 l.length y1)).setCell ⟨w.heap.size + 1, 1, none⟩ (.slice x2 r.length y2)).setCell ⟨w.heap.size + 1, 2, none⟩ (.slice x3 ps.length y3)).setCell ⟨w.heap.size + 1, 3, none⟩ (.slice x4 t.length y4)).setCell ⟨w.heap.size + 1, 4, none⟩ (.int .i64 a)) := Seg.setCell5 _ _ _ _ _ _ _
  obtain ⟨p1, p2, p3⟩ := HQ.out
  have p0 := hz1.out
  have O1 := hide (O1.out.seg sg (.inr (by omega)))
  have O2 := hide (O2.out.seg sg (.inr (by omega)))
  clear sg Y
  obtain ⟨w3, hw3⟩ : ∃ q, q = (((((w2.setCell ⟨w.heap.size + 1, 0, none⟩ (.slice x1 l.length y1)).setCell ⟨w.heap.size + 1, 1, none⟩ (.slice x2 r.length y2)).setCell ⟨w.heap.size + 1, 2, none⟩ (.slice x3 ps.length y3)).setCell ⟨w.heap.size + 1, 3, none⟩ (.slice x4 t.length y4)).setCell ⟨w.heap.size + 1, 4, none⟩ (.int .i64 a)) := ⟨_, rfl⟩
  rw [← hw3] at Z O1 O2 ⊢
  clear hw3
  have z0 := Z.out.cell 1 0 rfl rfl
  have z1 := Z.out.cell 1 1 rfl rfl
  have z2 := Z.out.cell 1 2 rfl rfl
  have z3 := Z.out.cell 1 3 rfl rfl
  have z4 := Z.out.cell 1 4 rfl rfl
  have t1 := O1.out.top
  have t2 := O2.out.top
  have t4 := O2.out.le
  have hbz := Z.out.below
  have HE := hide (show MpO w3 (.agg #[.slice x1 l.length y1, .slice x2 r.length y2, .slice x3 ps.length y3, .slice x4 t.length y4, .int .i64 a]) l r ps t a w.heap.size w3.heap.size from ⟨_, _, _, _, _, _, _, _, rfl, O1.out, O2.out, ⟨by omega, by omega, t1.2, t2, p3⟩, hbz.size, Nat.le_refl _⟩)
  clear p0 p1 p2 p3 t1 t2 t4 HQ
  have XF2 := XF.out
  clear XF
  rw [XF2]
  simp only [List.foldl_cons, List.foldl_nil, List.setIfInBounds_toArray, List.set_cons_succ, List.set_cons_zero]
  show Exit.then _ _ .normal _ _
  clear XF2
  generalize slot ac 3 = t3
  generalize slot ac 4 = t4
  generalize slot ac 5 = t5
  generalize slot ac 6 = t6
  generalize slot ac 7 = t7
  generalize slot ac 8 = t8
  generalize slot ac 9 = t9
  generalize slot ac 10 = t10
  generalize slot ac 11 = t11
  generalize slot ac 12 = t12
  go_wp2_with fail
  exact bodyPost_ret (v := .agg #[.slice x1 l.length y1, .slice x2 r.length y2, .slice x3 ps.length y3, .slice x4 t.length y4, .int .i64 a]) (by simp [results, Try.results83, go_sem, z0, z1, z2, z3, z4]) rfl ⟨_, rfl, HE.out, hbz⟩

set_option maxHeartbeats 8000000 in
theorem iMpCopy_any (u : Value) (l r : List Int) (ps : List Pv) (t : List Int) (a : Int) (w : World) (B : Nat) (hu : Mp w B u l r ps t a) (hB : B ≤ w.heap.size) (k1 : l.length ≤ 1048576) (k2 : r.length ≤ 1048576) (k3 : ps.length ≤ 1048576) (k4 : t.length ≤ 1048576) :
    Calls Try.prog 85 #[u] w (RetMpO w l r ps t a) := by
  obtain ⟨a1, c1, a2, c2, a3, c3, a4, c4, rfl, i1, i2⟩ := hu.form
  have hnil := hu.caps
  have Z2 := hide hnil
  have X := hide (Kn.two w #[.slice a1 l.length c1, .slice a2 r.length c2, .slice a3 ps.length c3, .slice a4 t.length c4, .int .i64 a] #[.slice none 0 0, .slice none 0 0, .slice none 0 0, .slice none 0 0, .int .i64 0] 27 27)
  obtain ⟨w1, hw1⟩ : ∃ w1, w1 = (w.alloc (.cells #[.slice a1 l.length c1, .slice a2 r.length c2, .slice a3 ps.length c3, .slice a4 t.length c4, .int .i64 a] 27)).alloc (.cells #[.slice none 0 0, .slice none 0 0, .slice none 0 0, .slice none 0 0, .int .i64 0] 27) := ⟨_, rfl⟩
  have hz1 := hide (show w1.heap.size = w.heap.size + 1 + 1 by rw [hw1]; simp)
  rw [← hw1] at X
  have C1 := hide (fun (W : World) (h : Below w1.heap.size w1 W) => iCopy_any _ l r ps W B ((i1.below X.out.below hB).below h (Nat.le_trans hB X.out.below.size)) (Nat.le_trans hB (Nat.le_trans X.out.below.size h.size)) k1 k2 k3)
  have C2 := hide (fun (W : World) (h : Below w1.heap.size w1 W) => clone_i a4 c4 t W B ((i2.below X.out.below hB).below h (Nat.le_trans hB X.out.below.size)) hnil (Nat.le_trans hB (Nat.le_trans X.out.below.size h.size)) k4)
  clear i1 i2 hu hnil
  go_enter Try.func85, Try.ntmps85
  go_wp2_with fail
  rw [← hw1]
  clear hw1
  refine wp_region_any (by kernel_rfl) ?_
  refine wpAny_factsT (w0 := w1) (fun i => ([(fun lo hi s W => s 3 = .pointer (some ⟨w.heap.size, 0, none⟩)),
    (fun lo hi s W => s 4 = .agg #[.slice a1 l.length c1, .slice a2 r.length c2, .slice a3 ps.length c3]),
    (fun lo hi s W => Oc W (s 5) l r ps lo hi),
    (fun lo hi s W => s 6 = .pointer (some ⟨w.heap.size, 3, none⟩)),
    (fun lo hi s W => s 7 = .slice a4 t.length c4),
    (fun lo hi s W => Ow W (s 8) t lo hi),
    (fun lo hi s W => s 9 = .pointer (some ⟨w.heap.size, 4, none⟩)),
    (fun lo hi s W => s 10 = .int .i64 a),
    (fun lo hi s W => ∃ z1 m1 z2 m2 z3 m3 z4 n4 m4, s 11 = .agg #[.slice z1 l.length m1, .slice z2 r.length m2, .slice z3 ps.length m3, .slice z4 n4 m4, .int .i64 a] ∧ s 5 = .agg #[.slice z1 l.length m1, .slice z2 r.length m2, .slice z3 ps.length m3] ∧ s 8 = .slice z4 n4 m4),
    (fun lo hi s W => True)] : List (Nat → Nat → (Nat → Value) → World → Prop)).getD i (fun _ _ _ _ => True)) [[], [0], [0, 1], [], [3], [0, 1, 2, 3, 4], [], [6], [0, 1, 2, 3, 4, 5, 6, 7], [0, 1, 2, 3, 4, 5, 6, 7, 8]] [0, 1, 2, 3, 4, 5, 6, 7, 8, 9] [[3], [4], [5], [6], [7], [8], [9], [10], [11, 5, 8, 10], []] [[], [], [], [], [], [], [], [], [], []] (by kernel_rfl) (by kernel_rfl) 9 1 rfl (by kernel_rfl) ?st ?step ?fin
  case st =>
    intro i hi lo hi' s W W' h q1 q2 q3 q4 k
    rcases (show i = 0 ∨ i = 1 ∨ i = 2 ∨ i = 3 ∨ i = 4 ∨ i = 5 ∨ i = 6 ∨ i = 7 ∨ i = 8 by omega) with rfl | rfl | rfl | rfl | rfl | rfl | rfl | rfl | rfl
    · have h : s 3 = .pointer (some ⟨w.heap.size, 0, none⟩) := h
      show s 3 = .pointer (some ⟨w.heap.size, 0, none⟩)
      exact h
    · have h : s 4 = .agg #[.slice a1 l.length c1, .slice a2 r.length c2, .slice a3 ps.length c3] := h
      show s 4 = .agg #[.slice a1 l.length c1, .slice a2 r.length c2, .slice a3 ps.length c3]
      exact h
    · have h : Oc W (s 5) l r ps lo hi' := h
      show Oc W' (s 5) l r ps lo hi'
      exact h.on k
    · have h : s 6 = .pointer (some ⟨w.heap.size, 3, none⟩) := h
      show s 6 = .pointer (some ⟨w.heap.size, 3, none⟩)
      exact h
    · have h : s 7 = .slice a4 t.length c4 := h
      show s 7 = .slice a4 t.length c4
      exact h
    · have h : Ow W (s 8) t lo hi' := h
      show Ow W' (s 8) t lo hi'
      exact h.on k.size k.own
    · have h : s 9 = .pointer (some ⟨w.heap.size, 4, none⟩) := h
      show s 9 = .pointer (some ⟨w.heap.size, 4, none⟩)
      exact h
    · have h : s 10 = .int .i64 a := h
      show s 10 = .int .i64 a
      exact h
    · have h : ∃ z1 m1 z2 m2 z3 m3 z4 n4 m4, s 11 = .agg #[.slice z1 l.length m1, .slice z2 r.length m2, .slice z3 ps.length m3, .slice z4 n4 m4, .int .i64 a] ∧ s 5 = .agg #[.slice z1 l.length m1, .slice z2 r.length m2, .slice z3 ps.length m3] ∧ s 8 = .slice z4 n4 m4 := h
      show ∃ z1 m1 z2 m2 z3 m3 z4 n4 m4, s 11 = .agg #[.slice z1 l.length m1, .slice z2 r.length m2, .slice z3 ps.length m3, .slice z4 n4 m4, .int .i64 a] ∧ s 5 = .agg #[.slice z1 l.length m1, .slice z2 r.length m2, .slice z3 ps.length m3] ∧ s 8 = .slice z4 n4 m4
      exact h
  case step =>
    intro i hi ac W iv hb hsz hdf hrest hanc hivs hap K HK
    have HK := hide HK
    have HAN := hide hanc
    have HRS := hide hrest
    have XU := hide (X.out.up hb)
    have HB := hide hb
    clear hanc hivs hap hrest hb hsz hdf X
    rcases (show i = 0 ∨ i = 1 ∨ i = 2 ∨ i = 3 ∨ i = 4 ∨ i = 5 ∨ i = 6 ∨ i = 7 ∨ i = 8 by omega) with rfl | rfl | rfl | rfl | rfl | rfl | rfl | rfl | rfl
    · refine wpOp_step (o := _) rfl fun K' hK => ?_
      rw [if_pos (by go_simp)]
      have e1 : ac.tmps.getD 1 undef = .pointer (some ⟨w.heap.size, 0, none⟩) := (HRS.out 1 (by decide)).trans rfl
      go_simp
      exact hK _ _ (HK.out _ _ ⟨fun _ => ⟨Below.refl _ _, rfl⟩, fun h => absurd rfl h⟩)
    · refine wpOp_step (o := _) rfl fun K' hK => ?_
      rw [if_pos (by go_simp)]
      have e1 : ac.tmps.getD 3 undef = .pointer (some ⟨w.heap.size, 0, none⟩) := HAN.out 0 (by decide)
      have q0 := XU.out.cell 0 0 rfl rfl
      have q1 := XU.out.cell 0 1 rfl rfl
      have q2 := XU.out.cell 0 2 rfl rfl
      go_simp
      exact hK _ _ (HK.out _ _ ⟨fun _ => ⟨Below.refl _ _, rfl⟩, fun h => absurd rfl h⟩)
    · refine wpOp_step (o := _) rfl fun K' hK => ?_
      rw [if_pos (by go_simp)]
      have e1 : ac.tmps.getD 4 undef = .agg #[.slice a1 l.length c1, .slice a2 r.length c2, .slice a3 ps.length c3] := HAN.out 1 (by decide)
      go_simp
      go_at_call 103
      refine (C1.out _ HB.out).mono ?_
      rintro e W' ⟨x, y, z, lo, hi, n1, h1, n2, h2, n3, h3, rfl, g1, g2, ho, hbb⟩
      exact hK _ _ (HK.out _ _ ⟨fun _ => ⟨hbb, Oc.of ho g1 g2 (Nat.le_refl _)⟩, fun h => absurd rfl h⟩)
    · refine wpOp_step (o := _) rfl fun K' hK => ?_
      rw [if_pos (by go_simp)]
      have e1 : ac.tmps.getD 1 undef = .pointer (some ⟨w.heap.size, 0, none⟩) := (HRS.out 1 (by decide)).trans rfl
      go_simp
      exact hK _ _ (HK.out _ _ ⟨fun _ => ⟨Below.refl _ _, rfl⟩, fun h => absurd rfl h⟩)
    · refine wpOp_step (o := _) rfl fun K' hK => ?_
      rw [if_pos (by go_simp)]
      have e1 : ac.tmps.getD 6 undef = .pointer (some ⟨w.heap.size, 3, none⟩) := HAN.out 3 (by decide)
      have q3 := XU.out.cell 0 3 rfl rfl
      go_simp
      exact hK _ _ (HK.out _ _ ⟨fun _ => ⟨Below.refl _ _, rfl⟩, fun h => absurd rfl h⟩)
    · refine wpOp_step (o := _) rfl fun K' hK => ?_
      rw [if_pos (by go_simp)]
      have e1 : ac.tmps.getD 7 undef = .slice a4 t.length c4 := HAN.out 4 (by decide)
      go_simp
      go_at_call 78
      refine (C2.out _ HB.out).mono ?_
      rintro e W' ⟨vv, rfl, ho, hbb⟩
      exact hK _ _ (HK.out _ _ ⟨fun _ => ⟨hbb, Ow.of ho hbb.size⟩, fun h => absurd rfl h⟩)
    · refine wpOp_step (o := _) rfl fun K' hK => ?_
      rw [if_pos (by go_simp)]
      have e1 : ac.tmps.getD 1 undef = .pointer (some ⟨w.heap.size, 0, none⟩) := (HRS.out 1 (by decide)).trans rfl
      go_simp
      exact hK _ _ (HK.out _ _ ⟨fun _ => ⟨Below.refl _ _, rfl⟩, fun h => absurd rfl h⟩)
    · refine wpOp_step (o := _) rfl fun K' hK => ?_
      rw [if_pos (by go_simp)]
      have e1 : ac.tmps.getD 9 undef = .pointer (some ⟨w.heap.size, 4, none⟩) := HAN.out 6 (by decide)
      have q4 := XU.out.cell 0 4 rfl rfl
      go_simp
      exact hK _ _ (HK.out _ _ ⟨fun _ => ⟨Below.refl _ _, rfl⟩, fun h => absurd rfl h⟩)
    · refine wpOp_step (o := _) rfl fun K' hK => ?_
      rw [if_pos (by go_simp)]
      obtain ⟨x1, m1, x2, m2, x3, m3, e1⟩ := (show Oc W (ac.tmps.getD 5 undef) l r ps _ _ from HAN.out 2 (by decide)).form
      obtain ⟨x4, m4, e2⟩ := (show Ow W (ac.tmps.getD 8 undef) t _ _ from HAN.out 5 (by decide)).form
      have e3 : ac.tmps.getD 10 undef = .int .i64 a := HAN.out 7 (by decide)
      have e1' := e1
      have e2' := e2
      rw [Array.getD_eq_getD_getElem?] at e1' e2'
      have e3' := e3
      rw [Array.getD_eq_getD_getElem?] at e3'
      go_simp
      exact hK _ _ (HK.out _ _ ⟨fun _ => ⟨Below.refl _ _, ⟨_, _, _, _, _, _, _, _, _, rfl, e1, e2⟩⟩, fun h => absurd rfl h⟩)
  case fin =>
  intro ac w2 iv I
  have hbY := I.below
  have O1 : Oc w2 (slot ac 5) l r ps (iv 2).1 (iv 2).2 := (I.fact 2 (by decide) rfl).2
  obtain ⟨x1, y1, x2, y2, x3, y3, x4, n4, y4, F8, hx1, hx2⟩ : ∃ z1 m1 z2 m2 z3 m3 z4 n4 m4, slot ac 11 = .agg #[.slice z1 l.length m1, .slice z2 r.length m2, .slice z3 ps.length m3, .slice z4 n4 m4, .int .i64 a] ∧ slot ac 5 = .agg #[.slice z1 l.length m1, .slice z2 r.length m2, .slice z3 ps.length m3] ∧ slot ac 8 = .slice z4 n4 m4 := (I.fact 8 (by decide) rfl).2
  obtain ⟨iv2a, iv2b, iv2c⟩ := I.ivs 2 (by decide) rfl rfl
  obtain ⟨iv5a, iv5b, iv5c⟩ := I.ivs 5 (by decide) rfl rfl
  have ap1 := I.apart 2 5 (by decide) (by decide) rfl rfl rfl rfl (by decide)
  obtain ⟨n2, hn2⟩ : ∃ q, q = (iv 5).1 := ⟨_, rfl⟩
  obtain ⟨h2, hh2⟩ : ∃ q, q = (iv 5).2 := ⟨_, rfl⟩
  have O2 : Ow w2 (slot ac 8) t n2 h2 := by rw [hn2, hh2]; exact (I.fact 5 (by decide) rfl).2
  obtain ⟨n1, hn1⟩ : ∃ q, q = (iv 2).1 := ⟨_, rfl⟩
  obtain ⟨h1, hh1⟩ : ∃ q, q = (iv 2).2 := ⟨_, rfl⟩
  rw [← hn1, ← hh1] at O1
  have hq1 : w1.heap.size ≤ n1 ∧ w1.heap.size ≤ n2 ∧ (h1 ≤ n2 ∨ h2 ≤ n1) := by omega
  rw [hx1] at O1
  rw [hx2] at O2
  obtain rfl : n4 = t.length := by
    obtain ⟨x, y, e⟩ := O2.form
    simp only [Value.slice.injEq] at e
    exact e.2.1
  have hfr := frame_of [3, 4, 5, 6, 7, 8, 9, 10, 11] I.size I.defers (fun s hs => I.rest s (rfDsts_spec (by kernel_rfl) hs))
  have e2 : ac.tmps.getD 2 undef = .pointer (some ⟨w.heap.size + 1, 0, none⟩) := (I.rest 2 (by decide)).trans rfl
  have e11 : ac.tmps.getD 11 undef = .agg #[.slice x1 l.length y1, .slice x2 r.length y2, .slice x3 ps.length y3, .slice x4 t.length y4, .int .i64 a] := F8
  have Y := X.out.up hbY
  have q0 := Y.cell 1 0 rfl rfl
  have u0 := Y.free 1 0 rfl
  have q1 := Y.cell 1 1 rfl rfl
  have u1 := Y.free 1 1 rfl
  have q2 := Y.cell 1 2 rfl rfl
  have u2 := Y.free 1 2 rfl
  have q3 := Y.cell 1 3 rfl rfl
  have u3 := Y.free 1 3 rfl
  have q4 := Y.cell 1 4 rfl rfl
  have u4 := Y.free 1 4 rfl
  have XF := hide hfr
  have O1 := hide O1
  have O2 := hide O2
  have HQ := hide hq1
  clear hfr I F8 hq1 hx1 hx2 hn1 hh1 ap1 iv2a iv2b iv2c iv5a iv5b iv5c
  clear hn2 hh2
  show wpOp _ _ _ 9 _ ac w2
  refine wpOp_step (o := _) rfl fun K' hK => ?_
  rw [if_pos (by go_simp)]
  go_simp
  refine hK _ _ ?_
  clear hK K' e2 e11 q0 u0 q1 u1 q2 u2 q3 u3 q4 u4
  have Z := hide (((((Y.set 1 0 rfl (.slice x1 l.length y1)).set 1 1 rfl (.slice x2 r.length y2)).set 1 2 rfl (.slice x3 ps.length y3)).set 1 3 rfl (.slice x4 t.length y4)).set 1 4 rfl (.int .i64 a))
  have sg : Seg (w.heap.size + 1) (w.heap.size + 1 + 1) w2 (((((w2.setCell ⟨w.heap.size + 1, 0, none⟩ (.slice x1 l.length y1)).setCell ⟨w.heap.size + 1, 1, none⟩ (.slice x2 r.length y2)).setCell ⟨w.heap.size + 1, 2, none⟩ (.slice x3 ps.length y3)).setCell ⟨w.heap.size + 1, 3, none⟩ (.slice x4 t.length y4)).setCell ⟨w.heap.size + 1, 4, none⟩ (.int .i64 a)) := Seg.setCell5 _ _ _ _ _ _ _
  obtain ⟨p1, p2, p3⟩ := HQ.out
  have p0 := hz1.out
  have O1 := hide (O1.out.seg sg (.inr (by omega)))
  have O2 := hide (O2.out.seg sg (.inr (by omega)))
  clear sg Y
  obtain ⟨w3, hw3⟩ : ∃ q, q = (((((w2.setCell ⟨w.heap.size + 1, 0, none⟩ (.slice x1 l.length y1)).setCell ⟨w.heap.size + 1, 1, none⟩ (.slice x2 r.length y2)).setCell ⟨w.heap.size + 1, 2, none⟩ (.slice x3 ps.length y3)).setCell ⟨w.heap.size + 1, 3, none⟩ (.slice x4 t.length y4)).setCell ⟨w.heap.size + 1, 4, none⟩ (.int .i64 a)) := ⟨_, rfl⟩
  rw [← hw3] at Z O1 O2 ⊢
  clear hw3
  have z0 := Z.out.cell 1 0 rfl rfl
  have z1 := Z.out.cell 1 1 rfl rfl
  have z2 := Z.out.cell 1 2 rfl rfl
  have z3 := Z.out.cell 1 3 rfl rfl
  have z4 := Z.out.cell 1 4 rfl rfl
  have t1 := O1.out.top
  have t2 := O2.out.top
  have t4 := O2.out.le
  have hbz := Z.out.below
  have HE := hide (show MpO w3 (.agg #[.slice x1 l.length y1, .slice x2 r.length y2, .slice x3 ps.length y3, .slice x4 t.length y4, .int .i64 a]) l r ps t a w.heap.size w3.heap.size from ⟨_, _, _, _, _, _, _, _, rfl, O1.out, O2.out, ⟨by omega, by omega, t1.2, t2, p3⟩, hbz.size, Nat.le_refl _⟩)
  clear p0 p1 p2 p3 t1 t2 t4 HQ
  have XF2 := XF.out
  clear XF
  rw [XF2]
  simp only [List.foldl_cons, List.foldl_nil, List.setIfInBounds_toArray, List.set_cons_succ, List.set_cons_zero]
  show Exit.then _ _ .normal _ _
  clear XF2
  generalize slot ac 3 = t3
  generalize slot ac 4 = t4
  generalize slot ac 5 = t5
  generalize slot ac 6 = t6
  generalize slot ac 7 = t7
  generalize slot ac 8 = t8
  generalize slot ac 9 = t9
  generalize slot ac 10 = t10
  generalize slot ac 11 = t11
  go_wp2_with fail
  exact bodyPost_ret (v := .agg #[.slice x1 l.length y1, .slice x2 r.length y2, .slice x3 ps.length y3, .slice x4 t.length y4, .int .i64 a]) (by simp [results, Try.results85, go_sem, z0, z1, z2, z3, z4]) rfl ⟨_, rfl, HE.out, hbz⟩

end Go.Proofs.Ytepkkeclkdlheaa
