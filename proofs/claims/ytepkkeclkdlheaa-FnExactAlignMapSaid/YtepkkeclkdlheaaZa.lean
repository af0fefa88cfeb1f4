/- Several texts in one: Ap0, SwM0, MpC, ApS, CrS, CmS, Hist, AlM, AlS, InsG, AdI, Exch, Have, ApI, ApJ, Jump, PtI, PtJ. -/
import Derived.Test.YtepkkeclkdlheaaApp
import Derived.Test.YtepkkeclkdlheaaOw
import Derived.Test.YtepkkeclkdlheaaMp
import Derived.Test.YtepkkeclkdlheaaCpy
import Derived.Test.YtepkkeclkdlheaaCpI
import Derived.Test.YtepkkeclkdlheaaCln
import Derived.Test.YtepkkeclkdlheaaApD
import Derived.Test.YtepkkeclkdlheaaIn
import Derived.Test.YtepkkeclkdlheaaCrD
import Derived.Test.YtepkkeclkdlheaaAdT
import Derived.Test.YtepkkeclkdlheaaMpB
import Derived.Test.YtepkkeclkdlheaaCkV
import Derived.Test.YtepkkeclkdlheaaInsR
import Derived.Test.YtepkkeclkdlheaaAdC
import Derived.Test.YtepkkeclkdlheaaCkQ
import Derived.BigQuiet
import Derived.Test.YtepkkeclkdlheaaSwp
import Derived.BigRegion
import Derived.Test.YtepkkeclkdlheaaSw
import Derived.Test.YtepkkeclkdlheaaKit
import Derived.WalkMore
import Derived.ScopeJumps
import Derived.Test.YtepkkeclkdlheaaPtS
/- append([]T{}, x...): onto a new empty row: what comes back lies in a new block, or is the empty row itself. Any program. -/
namespace Go.Proofs.Ytepkkeclkdlheaa
open Go.RowKit Go.ChangeShapes
set_option linter.unusedSimpArgs false
set_option linter.unusedVariables false

theorem append0_wp {P : Program} (W : World) {o : Oper} {a : Act} {K : Act → World → Prop} {Q : Exit → Act → World → Prop} (s x : Operand) (t : TypeId)
    (ho : o.op = .call { callee := .builtin .append, args := #[s, x], argTypes := #[t, t] })
    (e : TypeId) (i : TypeInfo) (z : Value) (size bytes : Nat) (ht : P.underlying t = some (.slice e)) (hi : P.info? e = some i) (hz : i.zero = some z)
    (hsize : i.size = size) (hby : i.bytes = bytes) (hzs : z.cells.size = size) (hsz : 0 < size) (hb16 : bytes ≤ 16)
    (g : Nat) (hs : a.eval s = .slice (some ⟨g, 0, none⟩) 0 0)
    (ad : Option Addr) (m c : Nat) (news : List Value) (hx : a.eval x = .slice ad m c) (hnil : ad = none → m = 0 ∧ c = 0) (hl : news.length = m * size)
    (hnews : ∀ q, ad = some q → ∀ j v, news[j]? = some v → W.cell? (q.add j) = some v) (h1 : ∀ v ∈ news, v.oneCell' = true) (hm : m ≤ 1048577)
    (h : ∀ v' W', Below W.heap.size W W' → ((m = 0 ∧ v' = .slice (some ⟨g, 0, none⟩) 0 0) ∨ W'.ownsRow W.heap.size e size v' m news) → K (a.put o.dst v') W') :
    Oper.wp P o a W K Q := by
  subst hsize
  subst hby
  by_cases hm0 : m = 0
  · subst hm0
    have hn : news = [] := List.eq_nil_of_length_eq_zero (by simpa using hl)
    subst hn
    have hrun : (Builtin.append_ #[t, t] o.type #[.slice (some ⟨g, 0, none⟩) 0 0, .slice ad 0 c]).run P W = .ok (.slice (some ⟨g, 0, none⟩) 0 0) W := by
      cases ad <;> simp [Builtin.append_, run_underlying ht, sizeOf, typeInfo, hi, Builtin.lenOf, Builtin.firstCells, storeCells, loadCells, loadCellsFrom]
    unfold Oper.wp
    simp [execOp, ho, resolve, invoke, builtin, hs, hx, hrun, Result.andThen]
    exact h _ _ (Below.refl _ _) (.inl ⟨rfl, rfl⟩)
  · cases ad with
    | none => exact absurd (hnil rfl).1 hm0
    | some q =>
      have hbb : (0 + m) * i.bytes ≤ 140737488355328 := by
        have : (0 + m) * i.bytes ≤ 1048577 * 16 := Nat.mul_le_mul (by omega) hb16
        omega
      have hr := run_append_grow (P := P) (w := W) t o.type e i z ht hi hz ⟨g, 0, none⟩ 0 0 [] (by simp) (by simp) q m c news hl (hnews q rfl) (by omega) (by omega) (growslice_fits (by omega) hbb)
      have hge := grownCap_ge W (0 + m) 0 e
      have hcm : grownCap W (0 + m) 0 e ≤ maxLen := grownCap_le_maxLen W (0 + m) 0 e (by unfold maxLen; omega)
      simp only [Nat.zero_add] at hr hge hcm
      unfold Oper.wp execOp
      simp only [ho, resolve, invoke, builtin, Sem.run_bind, Sem.run_pure, Result.andThen_ok, List.map_toArray, List.map_cons, List.map_nil, hs, hx, hr]
      refine h _ _ ⟨rfl, rfl, rfl, by simp, fun k hk => Below.heap_alloc W.drew _ k hk⟩ (.inr ?_)
      refine ⟨hl, .inr ⟨W.heap.size, _, _, rfl, Nat.le_refl _, heap_alloc_new W.drew _, hge, hcm, ?_, ?_⟩⟩
      · simp only [Array.size_append, List.size_toArray, size_zeroCells, hzs, hl, List.length_nil, Nat.zero_add]
        rw [← Nat.add_mul]
        congr 1
        omega
      · simp only [Array.toList_append, List.append_assoc]
        rw [← hl]
        simp

end Go.Proofs.Ytepkkeclkdlheaa

/- An empty row of integers in a block of its own. Any program. -/
namespace Go.Proofs.Ytepkkeclkdlheaa
open Go.RowKit
theorem Ow.emptyI {W : World} {k : Nat} (h : W.heap[k]? = some (.cells #[] 3 (0, 0))) : Ow W (.slice (some ⟨k, 0, none⟩) 0 0) [] k (k + 1) :=
  have hk := (Array.getElem?_eq_some_iff.1 h).1
  ⟨⟨[k], ⟨⟨by simp [intVs], .inr ⟨k, 0, #[], rfl, Nat.zero_le _, h, Nat.le_refl _, by unfold maxLen; omega, rfl, by simp [intVs]⟩⟩, rfl⟩, by simp⟩, by omega, hk⟩

end Go.Proofs.Ytepkkeclkdlheaa

/- What l12Copy of the reference and copyMap of the program return (gen_mcp.py; promise 8). -/
namespace Go.Proofs.Ytepkkeclkdlheaa
open Go.RowKit Go.ChangeShapes
set_option linter.unusedSimpArgs false
set_option linter.unusedVariables false
set_option maxRecDepth 100000

theorem Oc.of {w : World} {x y z : Value} {l r : List Int} {ps : List Pv} {A B lo hi n1 h1 n2 h2 n3 h3 : Nat} (h : OC w x y z l r ps lo hi n1 h1 n2 h2 n3 h3) (k1 : A ≤ lo) (k2 : hi ≤ B) (k3 : B ≤ w.heap.size) : Oc w (.agg #[x, y, z]) l r ps A B :=
  Oc.mono ⟨_, _, _, _, _, _, _, _, _, rfl, h⟩ k1 k2 k3

theorem Seg.setCell5 (w : World) (g : Nat) (u0 u1 u2 u3 u4 : Value) : Seg g (g + 1) w (((((w.setCell ⟨g, 0, none⟩ u0).setCell ⟨g, 1, none⟩ u1).setCell ⟨g, 2, none⟩ u2).setCell ⟨g, 3, none⟩ u3).setCell ⟨g, 4, none⟩ u4) :=
  ((((Seg.setCell w g 0 _).trans (Seg.setCell _ g 1 _)).trans (Seg.setCell _ g 2 _)).trans (Seg.setCell _ g 3 _)).trans (Seg.setCell _ g 4 _)

theorem Mp.caps {w : World} {B : Nat} {l r : List Int} {ps : List Pv} {t : List Int} {a : Int} {q1 q2 q3 y : Value} {a4 : Option Addr} {n4 c4 : Nat} (h : Mp w B (.agg #[q1, q2, q3, .slice a4 n4 c4, y]) l r ps t a) : a4 = none → c4 = 0 := by
  obtain ⟨y1, y2, y3, x, e, -, -, ⟨a', n', c', rfl, -, h1⟩, -⟩ := h
  simp only [Value.agg.injEq, Array.mk.injEq, List.cons.injEq, Value.slice.injEq, and_true] at e
  obtain ⟨-, -, -, ⟨rfl, -, rfl⟩, -⟩ := e
  exact h1

theorem size5 {c : Array Value} (h : c.size = 5) : ∃ x0 x1 x2 x3 x4, c = #[x0, x1, x2, x3, x4] := by
  match c, h with
  | ⟨[x0, x1, x2, x3, x4]⟩, _ => exact ⟨x0, x1, x2, x3, x4, rfl⟩

theorem heap_put5 {W : World} {g : Nat} {c : Array Value} {t : TypeId} (h : W.heap[g]? = some (.cells c t (0, 0))) (hc : c.size = 5) (u0 u1 u2 u3 u4 : Value) : (((((W.setCell ⟨g, 0, none⟩ u0).setCell ⟨g, 1, none⟩ u1).setCell ⟨g, 2, none⟩ u2).setCell ⟨g, 3, none⟩ u3).setCell ⟨g, 4, none⟩ u4).heap[g]? = some (.cells #[u0, u1, u2, u3, u4] t (0, 0)) := by
  obtain ⟨x0, x1, x2, x3, x4, rfl⟩ := size5 hc
  have h1 := heap_setCell_same W g 0 _ _ u0 h
  have h2 := heap_setCell_same _ g 1 _ _ u1 h1
  have h3 := heap_setCell_same _ g 2 _ _ u2 h2
  have h4 := heap_setCell_same _ g 3 _ _ u3 h3
  have h5 := heap_setCell_same _ g 4 _ _ u4 h4
  simpa using h5

theorem segS5 {W : World} {g lo hi : Nat} (h1 : lo ≤ g) (h2 : g < hi) (u0 u1 u2 u3 u4 : Value) : Seg lo hi W (((((W.setCell ⟨g, 0, none⟩ u0).setCell ⟨g, 1, none⟩ u1).setCell ⟨g, 2, none⟩ u2).setCell ⟨g, 3, none⟩ u3).setCell ⟨g, 4, none⟩ u4) :=
  (Seg.setCell5 W g u0 u1 u2 u3 u4).mono h1 h2

/-- Integers that are only read, with their capacity. -/
def InC (w : World) (B : Nat) (v : Value) (l : List Int) : Prop := Ints w B v l ∧ Cap v
theorem Oin.rdc {w : World} {v : Value} {l : List Int} {lo hi : Nat} (h : Oin w v l lo hi) (hw : IntsWf l) : InC w w.heap.size v l := ⟨Oin.rd h hw, Ow.cap h⟩
theorem InC.below {w w' : World} {B C : Nat} {v : Value} {l : List Int} (h : InC w B v l) (hb : Below C w w') (hC : B ≤ C) : InC w' B v l := ⟨h.1.below hb hC, h.2⟩
theorem toIntS_o (v : Value) (l : List Int) (w : World) (B : Nat) (hv : Ints w B v l) (hB : B ≤ w.heap.size) (k : l.length ≤ 1048576) :
    Calls Try.prog 16 #[v] w fun e w' => ∃ v', e = .returned v' ∧ Oin w' v' l w.heap.size w'.heap.size ∧ Below w.heap.size w w' := by
  refine (toIntS_own v l w B hv hB k).mono ?_
  rintro e w' ⟨v', rfl, h, hb⟩
  exact ⟨v', rfl, Ow.of h hb.size, hb⟩

set_option maxHeartbeats 8000000 in
theorem sMpCopy_any (u : Value) (l r : List Int) (ps : List Pv) (t : List Int) (a : Int) (w : World) (B : Nat) (hu : Mp w B u l r ps t a) (hB : B ≤ w.heap.size) (k1 : l.length ≤ 1048576) (k2 : r.length ≤ 1048576) (k3 : ps.length ≤ 1048576) (k4 : t.length ≤ 1048576) :
    Calls Try.prog 83 #[u] w (RetMpO w l r ps t a) := by
  obtain ⟨a1, c1, a2, c2, a3, c3, a4, c4, rfl, i1, i2⟩ := hu.form
  have hnil := hu.caps
  have Z2 := hide hnil
  have X := hide (Kn.two w #[.slice a1 l.length c1, .slice a2 r.length c2, .slice a3 ps.length c3, .slice a4 t.length c4, .int .i64 a] #[.slice none 0 0, .slice none 0 0, .slice none 0 0, .slice none 0 0, .int .i64 0] 27 27)
  obtain ⟨w1, hw1⟩ : ∃ w1, w1 = (w.alloc (.cells #[.slice a1 l.length c1, .slice a2 r.length c2, .slice a3 ps.length c3, .slice a4 t.length c4, .int .i64 a] 27)).alloc (.cells #[.slice none 0 0, .slice none 0 0, .slice none 0 0, .slice none 0 0, .int .i64 0] 27) := ⟨_, rfl⟩
  have hz1 := hide (show w1.heap.size = w.heap.size + 1 + 1 by rw [hw1]; simp)
  rw [← hw1] at X
  have C1 := hide (fun (W : World) (h : Below w1.heap.size w1 W) => sCopy_any _ l r ps W B ((i1.below X.out.below hB).below h (Nat.le_trans hB X.out.below.size)) (Nat.le_trans hB (Nat.le_trans X.out.below.size h.size)) k1 k2 k3)
  have I2 := hide (fun (W : World) (h : Below w1.heap.size w1 W) => (i2.below X.out.below hB).below h (Nat.le_trans hB X.out.below.size))
  clear i1 i2 hu hnil
  go_enter Try.func83, Try.ntmps83
  go_wp2_with fail
  rw [← hw1]
  clear hw1
  refine wp_region_any (by kernel_rfl) ?_
  refine wpAny_factsT (w0 := w1) (fun i => ([(fun lo hi s W => s 3 = .pointer (some ⟨w.heap.size, 0, none⟩)),
    (fun lo hi s W => s 4 = .agg #[.slice a1 l.length c1, .slice a2 r.length c2, .slice a3 ps.length c3]),
    (fun lo hi s W => Oc W (s 5) l r ps lo hi),
    (fun lo hi s W => ∃ g, s 6 = .slice (some ⟨g, 0, none⟩) 0 0 ∧ lo ≤ g ∧ g < hi ∧ W.heap[g]? = some (.cells #[] 3 (0, 0))),
    (fun lo hi s W => s 7 = .pointer (some ⟨w.heap.size, 3, none⟩)),
    (fun lo hi s W => s 8 = .slice a4 t.length c4),
    (fun lo hi s W => (t.length = 0 ∧ s 9 = s 6) ∨ Ow W (s 9) t lo hi),
    (fun lo hi s W => s 10 = .pointer (some ⟨w.heap.size, 4, none⟩)),
    (fun lo hi s W => s 11 = .int .i64 a),
    (fun lo hi s W => ∃ z1 m1 z2 m2 z3 m3 z4 n4 m4, s 12 = .agg #[.slice z1 l.length m1, .slice z2 r.length m2, .slice z3 ps.length m3, .slice z4 n4 m4, .int .i64 a] ∧ s 5 = .agg #[.slice z1 l.length m1, .slice z2 r.length m2, .slice z3 ps.length m3] ∧ s 9 = .slice z4 n4 m4),
    (fun lo hi s W => True)] : List (Nat → Nat → (Nat → Value) → World → Prop)).getD i (fun _ _ _ _ => True)) [[], [0], [0, 1], [], [], [4], [0, 1, 2, 3, 4, 5], [], [7], [0, 1, 2, 3, 4, 5, 6, 7, 8], [0, 1, 2, 3, 4, 5, 6, 7, 8, 9]] [0, 1, 2, 3, 4, 5, 6, 7, 8, 9, 10] [[3], [4], [5], [6], [7], [8], [9, 6], [10], [11], [12, 5, 9, 11], []] [[], [], [], [], [], [], [], [], [], [], []] (by kernel_rfl) (by kernel_rfl) 10 1 rfl (by kernel_rfl) ?st ?step ?fin
  case st =>
    intro i hi lo hi' s W W' h q1 q2 q3 q4 k
    rcases (show i = 0 ∨ i = 1 ∨ i = 2 ∨ i = 3 ∨ i = 4 ∨ i = 5 ∨ i = 6 ∨ i = 7 ∨ i = 8 ∨ i = 9 by omega) with rfl | rfl | rfl | rfl | rfl | rfl | rfl | rfl | rfl | rfl
    · have h : s 3 = .pointer (some ⟨w.heap.size, 0, none⟩) := h
      show s 3 = .pointer (some ⟨w.heap.size, 0, none⟩)
      exact h
    · have h : s 4 = .agg #[.slice a1 l.length c1, .slice a2 r.length c2, .slice a3 ps.length c3] := h
      show s 4 = .agg #[.slice a1 l.length c1, .slice a2 r.length c2, .slice a3 ps.length c3]
      exact h
    · have h : Oc W (s 5) l r ps lo hi' := h
      show Oc W' (s 5) l r ps lo hi'
      exact h.on k
    · have h : ∃ g, s 6 = .slice (some ⟨g, 0, none⟩) 0 0 ∧ lo ≤ g ∧ g < hi' ∧ W.heap[g]? = some (.cells #[] 3 (0, 0)) := h
      show ∃ g, s 6 = .slice (some ⟨g, 0, none⟩) 0 0 ∧ lo ≤ g ∧ g < hi' ∧ W'.heap[g]? = some (.cells #[] 3 (0, 0))
      obtain ⟨g, e1, e2, e3, e4⟩ := h; exact ⟨g, e1, e2, e3, (k.own g e2 e3 (Array.getElem?_eq_some_iff.1 e4).1).trans e4⟩
    · have h : s 7 = .pointer (some ⟨w.heap.size, 3, none⟩) := h
      show s 7 = .pointer (some ⟨w.heap.size, 3, none⟩)
      exact h
    · have h : s 8 = .slice a4 t.length c4 := h
      show s 8 = .slice a4 t.length c4
      exact h
    · have h : (t.length = 0 ∧ s 9 = s 6) ∨ Ow W (s 9) t lo hi' := h
      show (t.length = 0 ∧ s 9 = s 6) ∨ Ow W' (s 9) t lo hi'
      exact h.imp id (fun h => h.on k.size k.own)
    · have h : s 10 = .pointer (some ⟨w.heap.size, 4, none⟩) := h
      show s 10 = .pointer (some ⟨w.heap.size, 4, none⟩)
      exact h
    · have h : s 11 = .int .i64 a := h
      show s 11 = .int .i64 a
      exact h
    · have h : ∃ z1 m1 z2 m2 z3 m3 z4 n4 m4, s 12 = .agg #[.slice z1 l.length m1, .slice z2 r.length m2, .slice z3 ps.length m3, .slice z4 n4 m4, .int .i64 a] ∧ s 5 = .agg #[.slice z1 l.length m1, .slice z2 r.length m2, .slice z3 ps.length m3] ∧ s 9 = .slice z4 n4 m4 := h
      show ∃ z1 m1 z2 m2 z3 m3 z4 n4 m4, s 12 = .agg #[.slice z1 l.length m1, .slice z2 r.length m2, .slice z3 ps.length m3, .slice z4 n4 m4, .int .i64 a] ∧ s 5 = .agg #[.slice z1 l.length m1, .slice z2 r.length m2, .slice z3 ps.length m3] ∧ s 9 = .slice z4 n4 m4
      exact h
  case step =>
    intro i hi ac W iv hb hsz hdf hrest hanc hivs hap K HK
    have HK := hide HK
    have HAN := hide hanc
    have HRS := hide hrest
    have XU := hide (X.out.up hb)
    have HB := hide hb
    clear hanc hivs hap hrest hb hsz hdf X
    rcases (show i = 0 ∨ i = 1 ∨ i = 2 ∨ i = 3 ∨ i = 4 ∨ i = 5 ∨ i = 6 ∨ i = 7 ∨ i = 8 ∨ i = 9 by omega) with rfl | rfl | rfl | rfl | rfl | rfl | rfl | rfl | rfl | rfl
    · refine wpOp_step (o := _) rfl fun K' hK => ?_
      rw [if_pos (by go_simp)]
      have e1 : ac.tmps.getD 1 undef = .pointer (some ⟨w.heap.size, 0, none⟩) := (HRS.out 1 (by decide)).trans rfl
      go_simp
      exact hK _ _ (HK.out _ _ ⟨fun _ => ⟨Below.refl _ _, rfl⟩, fun h => absurd rfl h⟩)
    · refine wpOp_step (o := _) rfl fun K' hK => ?_
      rw [if_pos (by go_simp)]
      have e1 : ac.tmps.getD 3 undef = .pointer (some ⟨w.heap.size, 0, none⟩) := HAN.out 0 (by decide)
      have q0 := XU.out.cell 0 0 rfl rfl
      have q1 := XU.out.cell 0 1 rfl rfl
      have q2 := XU.out.cell 0 2 rfl rfl
      go_simp
      exact hK _ _ (HK.out _ _ ⟨fun _ => ⟨Below.refl _ _, rfl⟩, fun h => absurd rfl h⟩)
    · refine wpOp_step (o := _) rfl fun K' hK => ?_
      rw [if_pos (by go_simp)]
      have e1 : ac.tmps.getD 4 undef = .agg #[.slice a1 l.length c1, .slice a2 r.length c2, .slice a3 ps.length c3] := HAN.out 1 (by decide)
      go_simp
      go_at_call 94
      refine (C1.out _ HB.out).mono ?_
      rintro e W' ⟨x, y, z, lo, hi, n1, h1, n2, h2, n3, h3, rfl, g1, g2, ho, hbb⟩
      exact hK _ _ (HK.out _ _ ⟨fun _ => ⟨hbb, Oc.of ho g1 g2 (Nat.le_refl _)⟩, fun h => absurd rfl h⟩)
    · refine wpOp_step (o := _) rfl fun K' hK => ?_
      rw [if_pos (by go_simp)]
      go_simp
      exact hK _ _ (HK.out _ _ ⟨fun _ => ⟨below1 W _, ⟨W.heap.size, rfl, Nat.le_refl _, by simp, heap_alloc_new W _⟩⟩, fun h => absurd rfl h⟩)
    · refine wpOp_step (o := _) rfl fun K' hK => ?_
      rw [if_pos (by go_simp)]
      have e1 : ac.tmps.getD 1 undef = .pointer (some ⟨w.heap.size, 0, none⟩) := (HRS.out 1 (by decide)).trans rfl
      go_simp
      exact hK _ _ (HK.out _ _ ⟨fun _ => ⟨Below.refl _ _, rfl⟩, fun h => absurd rfl h⟩)
    · refine wpOp_step (o := _) rfl fun K' hK => ?_
      rw [if_pos (by go_simp)]
      have e1 : ac.tmps.getD 7 undef = .pointer (some ⟨w.heap.size, 3, none⟩) := HAN.out 4 (by decide)
      have q3 := XU.out.cell 0 3 rfl rfl
      go_simp
      exact hK _ _ (HK.out _ _ ⟨fun _ => ⟨Below.refl _ _, rfl⟩, fun h => absurd rfl h⟩)
    · refine wpOp_step (o := _) rfl fun K' hK => ?_
      rw [if_pos (by go_simp)]
      obtain ⟨g, e1, -⟩ : ∃ g, ac.tmps.getD 6 undef = .slice (some ⟨g, 0, none⟩) 0 0 ∧ _ := HAN.out 3 (by decide)
      have e2 : ac.tmps.getD 8 undef = .slice a4 t.length c4 := HAN.out 5 (by decide)
      obtain ⟨i0, hi0, hi1, hi2, hi3⟩ := info_parts infoI
      refine append0_wp W _ _ 22 rfl 3 i0 _ 1 8 Try.underlying22 hi0 hi1 hi2 hi3 (by first | rfl | decide) (by decide) (by decide) g e1 a4 t.length c4 (intVs t) e2 (fun h => ?_) (by simp [intVs]) (ints_news (I2.out W HB.out)) (intVs_cell t) (by omega) ?_
      · refine ⟨?_, Z2.out h⟩
        subst h
        exact ints_nil (I2.out W HB.out)
      intro v' W' hbl hor
      refine hK _ _ (HK.out _ _ ⟨fun _ => ⟨hbl, ?_⟩, fun h => absurd rfl h⟩)
      rcases hor with ⟨h1, h2⟩ | h1
      · exact .inl ⟨h1, h2.trans e1.symm⟩
      · exact .inr (Ow.of h1 hbl.size)
    · refine wpOp_step (o := _) rfl fun K' hK => ?_
      rw [if_pos (by go_simp)]
      have e1 : ac.tmps.getD 1 undef = .pointer (some ⟨w.heap.size, 0, none⟩) := (HRS.out 1 (by decide)).trans rfl
      go_simp
      exact hK _ _ (HK.out _ _ ⟨fun _ => ⟨Below.refl _ _, rfl⟩, fun h => absurd rfl h⟩)
    · refine wpOp_step (o := _) rfl fun K' hK => ?_
      rw [if_pos (by go_simp)]
      have e1 : ac.tmps.getD 10 undef = .pointer (some ⟨w.heap.size, 4, none⟩) := HAN.out 7 (by decide)
      have q4 := XU.out.cell 0 4 rfl rfl
      go_simp
      exact hK _ _ (HK.out _ _ ⟨fun _ => ⟨Below.refl _ _, rfl⟩, fun h => absurd rfl h⟩)
    · refine wpOp_step (o := _) rfl fun K' hK => ?_
      rw [if_pos (by go_simp)]
      obtain ⟨x1, m1, x2, m2, x3, m3, e1⟩ := (show Oc W (ac.tmps.getD 5 undef) l r ps _ _ from HAN.out 2 (by decide)).form
      obtain ⟨x4, n4, m4, e2⟩ : ∃ x n m, ac.tmps.getD 9 undef = .slice x n m := by
        have h : (t.length = 0 ∧ ac.tmps.getD 9 undef = ac.tmps.getD 6 undef) ∨ Ow W (ac.tmps.getD 9 undef) t _ _ := HAN.out 6 (by decide)
        rcases h with ⟨-, h⟩ | h
        · obtain ⟨g, e, -⟩ : ∃ g, ac.tmps.getD 6 undef = .slice (some ⟨g, 0, none⟩) 0 0 ∧ _ := HAN.out 3 (by decide)
          exact ⟨_, _, _, h.trans e⟩
        · obtain ⟨x, m, e⟩ := h.form
          exact ⟨_, _, _, e⟩
      have e3 : ac.tmps.getD 11 undef = .int .i64 a := HAN.out 8 (by decide)
      have e1' := e1
      have e2' := e2
      rw [Array.getD_eq_getD_getElem?] at e1' e2'
      have e3' := e3
      rw [Array.getD_eq_getD_getElem?] at e3'
      go_simp
      exact hK _ _ (HK.out _ _ ⟨fun _ => ⟨Below.refl _ _, ⟨_, _, _, _, _, _, _, _, _, rfl, e1, e2⟩⟩, fun h => absurd rfl h⟩)
  case fin =>
  intro ac w2 iv I
  have hbY := I.below
  have O1 : Oc w2 (slot ac 5) l r ps (iv 2).1 (iv 2).2 := (I.fact 2 (by decide) rfl).2
  obtain ⟨x1, y1, x2, y2, x3, y3, x4, n4, y4, F8, hx1, hx2⟩ : ∃ z1 m1 z2 m2 z3 m3 z4 n4 m4, slot ac 12 = .agg #[.slice z1 l.length m1, .slice z2 r.length m2, .slice z3 ps.length m3, .slice z4 n4 m4, .int .i64 a] ∧ slot ac 5 = .agg #[.slice z1 l.length m1, .slice z2 r.length m2, .slice z3 ps.length m3] ∧ slot ac 9 = .slice z4 n4 m4 := (I.fact 9 (by decide) rfl).2
  obtain ⟨iv2a, iv2b, iv2c⟩ := I.ivs 2 (by decide) rfl rfl
  obtain ⟨iv6a, iv6b, iv6c⟩ := I.ivs 6 (by decide) rfl rfl
  obtain ⟨iv3a, iv3b, iv3c⟩ := I.ivs 3 (by decide) rfl rfl
  have ap1 := I.apart 2 6 (by decide) (by decide) rfl rfl rfl rfl (by decide)
  have ap2 := I.apart 2 3 (by decide) (by decide) rfl rfl rfl rfl (by decide)
  obtain ⟨g0, f1, f2, f3, f4⟩ : ∃ g, slot ac 6 = .slice (some ⟨g, 0, none⟩) 0 0 ∧ (iv 3).1 ≤ g ∧ g < (iv 3).2 ∧ w2.heap[g]? = some (.cells #[] 3 (0, 0)) := (I.fact 3 (by decide) rfl).2
  have F6 : (t.length = 0 ∧ slot ac 9 = slot ac 6) ∨ Ow w2 (slot ac 9) t (iv 6).1 (iv 6).2 := (I.fact 6 (by decide) rfl).2
  have R2 : ∃ n2 h2, Ow w2 (slot ac 9) t n2 h2 ∧ (((iv 3).1 ≤ n2 ∧ h2 ≤ (iv 3).2) ∨ ((iv 6).1 ≤ n2 ∧ h2 ≤ (iv 6).2)) := by
    rcases F6 with ⟨h1, h2⟩ | h1
    · have hn : t = [] := List.eq_nil_of_length_eq_zero h1
      rw [h2, f1, hn]
      exact ⟨_, _, Ow.emptyI f4, .inl ⟨f2, f3⟩⟩
    · exact ⟨_, _, h1, .inr ⟨Nat.le_refl _, Nat.le_refl _⟩⟩
  obtain ⟨n2, h2, O2, qr2⟩ := R2
  obtain ⟨n1, hn1⟩ : ∃ q, q = (iv 2).1 := ⟨_, rfl⟩
  obtain ⟨h1, hh1⟩ : ∃ q, q = (iv 2).2 := ⟨_, rfl⟩
  rw [← hn1, ← hh1] at O1
  have hq1 : w1.heap.size ≤ n1 ∧ w1.heap.size ≤ n2 ∧ (h1 ≤ n2 ∨ h2 ≤ n1) := by omega
  rw [hx1] at O1
  rw [hx2] at O2
  obtain rfl : n4 = t.length := by
    obtain ⟨x, y, e⟩ := O2.form
    simp only [Value.slice.injEq] at e
    exact e.2.1
  have hfr := frame_of [3, 4, 5, 6, 7, 8, 9, 10, 11, 12] I.size I.defers (fun s hs => I.rest s (rfDsts_spec (by kernel_rfl) hs))
  have e2 : ac.tmps.getD 2 undef = .pointer (some ⟨w.heap.size + 1, 0, none⟩) := (I.rest 2 (by decide)).trans rfl
  have e11 : ac.tmps.getD 12 undef = .agg #[.slice x1 l.length y1, .slice x2 r.length y2, .slice x3 ps.length y3, .slice x4 t.length y4, .int .i64 a] := F8
  have Y := X.out.up hbY
  have q0 := Y.cell 1 0 rfl rfl
  have u0 := Y.free 1 0 rfl
  have q1 := Y.cell 1 1 rfl rfl
  have u1 := Y.free 1 1 rfl
  have q2 := Y.cell 1 2 rfl rfl
  have u2 := Y.free 1 2 rfl
  have q3 := Y.cell 1 3 rfl rfl
  have u3 := Y.free 1 3 rfl
  have q4 := Y.cell 1 4 rfl rfl
  have u4 := Y.free 1 4 rfl
  have XF := hide hfr
  have O1 := hide O1
  have O2 := hide O2
  have HQ := hide hq1
  clear hfr I F8 hq1 hx1 hx2 hn1 hh1 ap1 iv2a iv2b iv2c iv6a iv6b iv6c iv3a iv3b iv3c
  clear F6 ap2 f1 f2 f3 f4 qr2
  show wpOp _ _ _ 10 _ ac w2
  refine wpOp_step (o := _) rfl fun K' hK => ?_
  rw [if_pos (by go_simp)]
  go_simp
  refine hK _ _ ?_
  clear hK K' e2 e11 q0 u0 q1 u1 q2 u2 q3 u3 q4 u4
  have Z := hide (((((Y.set 1 0 rfl (.slice x1 l.length y1)).set 1 1 rfl (.slice x2 r.length y2)).set 1 2 rfl (.slice x3 ps.length y3)).set 1 3 rfl (.slice x4 t.length y4)).set 1 4 rfl (.int .i64 a))
  have sg : Seg (w.heap.size + 1) (w.heap.size + 1 + 1) w2 (((((w2.setCell ⟨w.heap.size + 1, 0, none⟩ (.slice x1 l.length y1)).setCell ⟨w.heap.size + 1, 1, none⟩ (.slice x2 r.length y2)).setCell ⟨w.heap.size + 1, 2, none⟩ (.slice x3 ps.length y3)).setCell ⟨w.heap.size + 1, 3, none⟩ (.slice x4 t.length y4)).setCell ⟨w.heap.size + 1, 4, none⟩ (.int .i64 a)) := Seg.setCell5 _ _ _ _ _ _ _
  obtain ⟨p1, p2, p3⟩ := HQ.out
  have p0 := hz1.out
  have O1 := hide (O1.out.seg sg (.inr (by omega)))
  have O2 := hide (O2.out.seg sg (.inr (by omega)))
  clear sg Y
  obtain ⟨w3, hw3⟩ : ∃ q, q = (((((w2.setCell ⟨w.heap.size + 1, 0, none⟩ (.slice x1 l.length y1)).setCell ⟨w.heap.size + 1, 1, none⟩ (.slice x2 r.length y2)).setCell ⟨w.heap.size + 1, 2, none⟩ (.slice x3 ps.length y3)).setCell ⟨w.heap.size + 1, 3, none⟩ (.slice x4 t.length y4)).setCell ⟨w.heap.size + 1, 4, none⟩ (.int .i64 a)) := ⟨_, rfl⟩
  rw [← hw3] at Z O1 O2 ⊢
  clear hw3
  have z0 := Z.out.cell 1 0 rfl rfl
  have z1 := Z.out.cell 1 1 rfl rfl
  have z2 := Z.out.cell 1 2 rfl rfl
  have z3 := Z.out.cell 1 3 rfl rfl
  have z4 := Z.out.cell 1 4 rfl rfl
  have t1 := O1.out.top
  have t2 := O2.out.top
  have t4 := O2.out.le
  have hbz := Z.out.below
  have HE := hide (show MpO w3 (.agg #[.slice x1 l.length y1, .slice x2 r.length y2, .slice x3 ps.length y3, .slice x4 t.length y4, .int .i64 a]) l r ps t a w.heap.size w3.heap.size from ⟨_, _, _, _, _, _, _, _, rfl, O1.out, O2.out, ⟨by omega, by omega, t1.2, t2, p3⟩, hbz.size, Nat.le_refl _⟩)
  clear p0 p1 p2 p3 t1 t2 t4 HQ
  have XF2 := XF.out
  clear XF
  rw [XF2]
  simp only [List.foldl_cons, List.foldl_nil, List.setIfInBounds_toArray, List.set_cons_succ, List.set_cons_zero]
  show Exit.then _ _ .normal _ _
  clear XF2
  generalize slot ac 3 = t3
  generalize slot ac 4 = t4
  generalize slot ac 5 = t5
  generalize slot ac 6 = t6
  generalize slot ac 7 = t7
  generalize slot ac 8 = t8
  generalize slot ac 9 = t9
  generalize slot ac 10 = t10
  generalize slot ac 11 = t11
  generalize slot ac 12 = t12
  go_wp2_with fail
  exact bodyPost_ret (v := .agg #[.slice x1 l.length y1, .slice x2 r.length y2, .slice x3 ps.length y3, .slice x4 t.length y4, .int .i64 a]) (by simp [results, Try.results83, go_sem, z0, z1, z2, z3, z4]) rfl ⟨_, rfl, HE.out, hbz⟩

set_option maxHeartbeats 8000000 in
theorem iMpCopy_any (u : Value) (l r : List Int) (ps : List Pv) (t : List Int) (a : Int) (w : World) (B : Nat) (hu : Mp w B u l r ps t a) (hB : B ≤ w.heap.size) (k1 : l.length ≤ 1048576) (k2 : r.length ≤ 1048576) (k3 : ps.length ≤ 1048576) (k4 : t.length ≤ 1048576) :
    Calls Try.prog 85 #[u] w (RetMpO w l r ps t a) := by
  obtain ⟨a1, c1, a2, c2, a3, c3, a4, c4, rfl, i1, i2⟩ := hu.form
  have hnil := hu.caps
  have Z2 := hide hnil
  have X := hide (Kn.two w #[.slice a1 l.length c1, .slice a2 r.length c2, .slice a3 ps.length c3, .slice a4 t.length c4, .int .i64 a] #[.slice none 0 0, .slice none 0 0, .slice none 0 0, .slice none 0 0, .int .i64 0] 27 27)
  obtain ⟨w1, hw1⟩ : ∃ w1, w1 = (w.alloc (.cells #[.slice a1 l.length c1, .slice a2 r.length c2, .slice a3 ps.length c3, .slice a4 t.length c4, .int .i64 a] 27)).alloc (.cells #[.slice none 0 0, .slice none 0 0, .slice none 0 0, .slice none 0 0, .int .i64 0] 27) := ⟨_, rfl⟩
  have hz1 := hide (show w1.heap.size = w.heap.size + 1 + 1 by rw [hw1]; simp)
  rw [← hw1] at X
  have C1 := hide (fun (W : World) (h : Below w1.heap.size w1 W) => iCopy_any _ l r ps W B ((i1.below X.out.below hB).below h (Nat.le_trans hB X.out.below.size)) (Nat.le_trans hB (Nat.le_trans X.out.below.size h.size)) k1 k2 k3)
  have C2 := hide (fun (W : World) (h : Below w1.heap.size w1 W) => clone_i a4 c4 t W B ((i2.below X.out.below hB).below h (Nat.le_trans hB X.out.below.size)) hnil (Nat.le_trans hB (Nat.le_trans X.out.below.size h.size)) k4)
  clear i1 i2 hu hnil
  go_enter Try.func85, Try.ntmps85
  go_wp2_with fail
  rw [← hw1]
  clear hw1
  refine wp_region_any (by kernel_rfl) ?_
  refine wpAny_factsT (w0 := w1) (fun i => ([(fun lo hi s W => s 3 = .pointer (some ⟨w.heap.size, 0, none⟩)),
    (fun lo hi s W => s 4 = .agg #[.slice a1 l.length c1, .slice a2 r.length c2, .slice a3 ps.length c3]),
    (fun lo hi s W => Oc W (s 5) l r ps lo hi),
    (fun lo hi s W => s 6 = .pointer (some ⟨w.heap.size, 3, none⟩)),
    (fun lo hi s W => s 7 = .slice a4 t.length c4),
    (fun lo hi s W => Ow W (s 8) t lo hi),
    (fun lo hi s W => s 9 = .pointer (some ⟨w.heap.size, 4, none⟩)),
    (fun lo hi s W => s 10 = .int .i64 a),
    (fun lo hi s W => ∃ z1 m1 z2 m2 z3 m3 z4 n4 m4, s 11 = .agg #[.slice z1 l.length m1, .slice z2 r.length m2, .slice z3 ps.length m3, .slice z4 n4 m4, .int .i64 a] ∧ s 5 = .agg #[.slice z1 l.length m1, .slice z2 r.length m2, .slice z3 ps.length m3] ∧ s 8 = .slice z4 n4 m4),
    (fun lo hi s W => True)] : List (Nat → Nat → (Nat → Value) → World → Prop)).getD i (fun _ _ _ _ => True)) [[], [0], [0, 1], [], [3], [0, 1, 2, 3, 4], [], [6], [0, 1, 2, 3, 4, 5, 6, 7], [0, 1, 2, 3, 4, 5, 6, 7, 8]] [0, 1, 2, 3, 4, 5, 6, 7, 8, 9] [[3], [4], [5], [6], [7], [8], [9], [10], [11, 5, 8, 10], []] [[], [], [], [], [], [], [], [], [], []] (by kernel_rfl) (by kernel_rfl) 9 1 rfl (by kernel_rfl) ?st ?step ?fin
  case st =>
    intro i hi lo hi' s W W' h q1 q2 q3 q4 k
    rcases (show i = 0 ∨ i = 1 ∨ i = 2 ∨ i = 3 ∨ i = 4 ∨ i = 5 ∨ i = 6 ∨ i = 7 ∨ i = 8 by omega) with rfl | rfl | rfl | rfl | rfl | rfl | rfl | rfl | rfl
    · have h : s 3 = .pointer (some ⟨w.heap.size, 0, none⟩) := h
      show s 3 = .pointer (some ⟨w.heap.size, 0, none⟩)
      exact h
    · have h : s 4 = .agg #[.slice a1 l.length c1, .slice a2 r.length c2, .slice a3 ps.length c3] := h
      show s 4 = .agg #[.slice a1 l.length c1, .slice a2 r.length c2, .slice a3 ps.length c3]
      exact h
    · have h : Oc W (s 5) l r ps lo hi' := h
      show Oc W' (s 5) l r ps lo hi'
      exact h.on k
    · have h : s 6 = .pointer (some ⟨w.heap.size, 3, none⟩) := h
      show s 6 = .pointer (some ⟨w.heap.size, 3, none⟩)
      exact h
    · have h : s 7 = .slice a4 t.length c4 := h
      show s 7 = .slice a4 t.length c4
      exact h
    · have h : Ow W (s 8) t lo hi' := h
      show Ow W' (s 8) t lo hi'
      exact h.on k.size k.own
    · have h : s 9 = .pointer (some ⟨w.heap.size, 4, none⟩) := h
      show s 9 = .pointer (some ⟨w.heap.size, 4, none⟩)
      exact h
    · have h : s 10 = .int .i64 a := h
      show s 10 = .int .i64 a
      exact h
    · have h : ∃ z1 m1 z2 m2 z3 m3 z4 n4 m4, s 11 = .agg #[.slice z1 l.length m1, .slice z2 r.length m2, .slice z3 ps.length m3, .slice z4 n4 m4, .int .i64 a] ∧ s 5 = .agg #[.slice z1 l.length m1, .slice z2 r.length m2, .slice z3 ps.length m3] ∧ s 8 = .slice z4 n4 m4 := h
      show ∃ z1 m1 z2 m2 z3 m3 z4 n4 m4, s 11 = .agg #[.slice z1 l.length m1, .slice z2 r.length m2, .slice z3 ps.length m3, .slice z4 n4 m4, .int .i64 a] ∧ s 5 = .agg #[.slice z1 l.length m1, .slice z2 r.length m2, .slice z3 ps.length m3] ∧ s 8 = .slice z4 n4 m4
      exact h
  case step =>
    intro i hi ac W iv hb hsz hdf hrest hanc hivs hap K HK
    have HK := hide HK
    have HAN := hide hanc
    have HRS := hide hrest
    have XU := hide (X.out.up hb)
    have HB := hide hb
    clear hanc hivs hap hrest hb hsz hdf X
    rcases (show i = 0 ∨ i = 1 ∨ i = 2 ∨ i = 3 ∨ i = 4 ∨ i = 5 ∨ i = 6 ∨ i = 7 ∨ i = 8 by omega) with rfl | rfl | rfl | rfl | rfl | rfl | rfl | rfl | rfl
    · refine wpOp_step (o := _) rfl fun K' hK => ?_
      rw [if_pos (by go_simp)]
      have e1 : ac.tmps.getD 1 undef = .pointer (some ⟨w.heap.size, 0, none⟩) := (HRS.out 1 (by decide)).trans rfl
      go_simp
      exact hK _ _ (HK.out _ _ ⟨fun _ => ⟨Below.refl _ _, rfl⟩, fun h => absurd rfl h⟩)
    · refine wpOp_step (o := _) rfl fun K' hK => ?_
      rw [if_pos (by go_simp)]
      have e1 : ac.tmps.getD 3 undef = .pointer (some ⟨w.heap.size, 0, none⟩) := HAN.out 0 (by decide)
      have q0 := XU.out.cell 0 0 rfl rfl
      have q1 := XU.out.cell 0 1 rfl rfl
      have q2 := XU.out.cell 0 2 rfl rfl
      go_simp
      exact hK _ _ (HK.out _ _ ⟨fun _ => ⟨Below.refl _ _, rfl⟩, fun h => absurd rfl h⟩)
    · refine wpOp_step (o := _) rfl fun K' hK => ?_
      rw [if_pos (by go_simp)]
      have e1 : ac.tmps.getD 4 undef = .agg #[.slice a1 l.length c1, .slice a2 r.length c2, .slice a3 ps.length c3] := HAN.out 1 (by decide)
      go_simp
      go_at_call 103
      refine (C1.out _ HB.out).mono ?_
      rintro e W' ⟨x, y, z, lo, hi, n1, h1, n2, h2, n3, h3, rfl, g1, g2, ho, hbb⟩
      exact hK _ _ (HK.out _ _ ⟨fun _ => ⟨hbb, Oc.of ho g1 g2 (Nat.le_refl _)⟩, fun h => absurd rfl h⟩)
    · refine wpOp_step (o := _) rfl fun K' hK => ?_
      rw [if_pos (by go_simp)]
      have e1 : ac.tmps.getD 1 undef = .pointer (some ⟨w.heap.size, 0, none⟩) := (HRS.out 1 (by decide)).trans rfl
      go_simp
      exact hK _ _ (HK.out _ _ ⟨fun _ => ⟨Below.refl _ _, rfl⟩, fun h => absurd rfl h⟩)
    · refine wpOp_step (o := _) rfl fun K' hK => ?_
      rw [if_pos (by go_simp)]
      have e1 : ac.tmps.getD 6 undef = .pointer (some ⟨w.heap.size, 3, none⟩) := HAN.out 3 (by decide)
      have q3 := XU.out.cell 0 3 rfl rfl
      go_simp
      exact hK _ _ (HK.out _ _ ⟨fun _ => ⟨Below.refl _ _, rfl⟩, fun h => absurd rfl h⟩)
    · refine wpOp_step (o := _) rfl fun K' hK => ?_
      rw [if_pos (by go_simp)]
      have e1 : ac.tmps.getD 7 undef = .slice a4 t.length c4 := HAN.out 4 (by decide)
      go_simp
      go_at_call 78
      refine (C2.out _ HB.out).mono ?_
      rintro e W' ⟨vv, rfl, ho, hbb⟩
      exact hK _ _ (HK.out _ _ ⟨fun _ => ⟨hbb, Ow.of ho hbb.size⟩, fun h => absurd rfl h⟩)
    · refine wpOp_step (o := _) rfl fun K' hK => ?_
      rw [if_pos (by go_simp)]
      have e1 : ac.tmps.getD 1 undef = .pointer (some ⟨w.heap.size, 0, none⟩) := (HRS.out 1 (by decide)).trans rfl
      go_simp
      exact hK _ _ (HK.out _ _ ⟨fun _ => ⟨Below.refl _ _, rfl⟩, fun h => absurd rfl h⟩)
    · refine wpOp_step (o := _) rfl fun K' hK => ?_
      rw [if_pos (by go_simp)]
      have e1 : ac.tmps.getD 9 undef = .pointer (some ⟨w.heap.size, 4, none⟩) := HAN.out 6 (by decide)
      have q4 := XU.out.cell 0 4 rfl rfl
      go_simp
      exact hK _ _ (HK.out _ _ ⟨fun _ => ⟨Below.refl _ _, rfl⟩, fun h => absurd rfl h⟩)
    · refine wpOp_step (o := _) rfl fun K' hK => ?_
      rw [if_pos (by go_simp)]
      obtain ⟨x1, m1, x2, m2, x3, m3, e1⟩ := (show Oc W (ac.tmps.getD 5 undef) l r ps _ _ from HAN.out 2 (by decide)).form
      obtain ⟨x4, m4, e2⟩ := (show Ow W (ac.tmps.getD 8 undef) t _ _ from HAN.out 5 (by decide)).form
      have e3 : ac.tmps.getD 10 undef = .int .i64 a := HAN.out 7 (by decide)
      have e1' := e1
      have e2' := e2
      rw [Array.getD_eq_getD_getElem?] at e1' e2'
      have e3' := e3
      rw [Array.getD_eq_getD_getElem?] at e3'
      go_simp
      exact hK _ _ (HK.out _ _ ⟨fun _ => ⟨Below.refl _ _, ⟨_, _, _, _, _, _, _, _, _, rfl, e1, e2⟩⟩, fun h => absurd rfl h⟩)
  case fin =>
  intro ac w2 iv I
  have hbY := I.below
  have O1 : Oc w2 (slot ac 5) l r ps (iv 2).1 (iv 2).2 := (I.fact 2 (by decide) rfl).2
  obtain ⟨x1, y1, x2, y2, x3, y3, x4, n4, y4, F8, hx1, hx2⟩ : ∃ z1 m1 z2 m2 z3 m3 z4 n4 m4, slot ac 11 = .agg #[.slice z1 l.length m1, .slice z2 r.length m2, .slice z3 ps.length m3, .slice z4 n4 m4, .int .i64 a] ∧ slot ac 5 = .agg #[.slice z1 l.length m1, .slice z2 r.length m2, .slice z3 ps.length m3] ∧ slot ac 8 = .slice z4 n4 m4 := (I.fact 8 (by decide) rfl).2
  obtain ⟨iv2a, iv2b, iv2c⟩ := I.ivs 2 (by decide) rfl rfl
  obtain ⟨iv5a, iv5b, iv5c⟩ := I.ivs 5 (by decide) rfl rfl
  have ap1 := I.apart 2 5 (by decide) (by decide) rfl rfl rfl rfl (by decide)
  obtain ⟨n2, hn2⟩ : ∃ q, q = (iv 5).1 := ⟨_, rfl⟩
  obtain ⟨h2, hh2⟩ : ∃ q, q = (iv 5).2 := ⟨_, rfl⟩
  have O2 : Ow w2 (slot ac 8) t n2 h2 := by rw [hn2, hh2]; exact (I.fact 5 (by decide) rfl).2
  obtain ⟨n1, hn1⟩ : ∃ q, q = (iv 2).1 := ⟨_, rfl⟩
  obtain ⟨h1, hh1⟩ : ∃ q, q = (iv 2).2 := ⟨_, rfl⟩
  rw [← hn1, ← hh1] at O1
  have hq1 : w1.heap.size ≤ n1 ∧ w1.heap.size ≤ n2 ∧ (h1 ≤ n2 ∨ h2 ≤ n1) := by omega
  rw [hx1] at O1
  rw [hx2] at O2
  obtain rfl : n4 = t.length := by
    obtain ⟨x, y, e⟩ := O2.form
    simp only [Value.slice.injEq] at e
    exact e.2.1
  have hfr := frame_of [3, 4, 5, 6, 7, 8, 9, 10, 11] I.size I.defers (fun s hs => I.rest s (rfDsts_spec (by kernel_rfl) hs))
  have e2 : ac.tmps.getD 2 undef = .pointer (some ⟨w.heap.size + 1, 0, none⟩) := (I.rest 2 (by decide)).trans rfl
  have e11 : ac.tmps.getD 11 undef = .agg #[.slice x1 l.length y1, .slice x2 r.length y2, .slice x3 ps.length y3, .slice x4 t.length y4, .int .i64 a] := F8
  have Y := X.out.up hbY
  have q0 := Y.cell 1 0 rfl rfl
  have u0 := Y.free 1 0 rfl
  have q1 := Y.cell 1 1 rfl rfl
  have u1 := Y.free 1 1 rfl
  have q2 := Y.cell 1 2 rfl rfl
  have u2 := Y.free 1 2 rfl
  have q3 := Y.cell 1 3 rfl rfl
  have u3 := Y.free 1 3 rfl
  have q4 := Y.cell 1 4 rfl rfl
  have u4 := Y.free 1 4 rfl
  have XF := hide hfr
  have O1 := hide O1
  have O2 := hide O2
  have HQ := hide hq1
  clear hfr I F8 hq1 hx1 hx2 hn1 hh1 ap1 iv2a iv2b iv2c iv5a iv5b iv5c
  clear hn2 hh2
  show wpOp _ _ _ 9 _ ac w2
  refine wpOp_step (o := _) rfl fun K' hK => ?_
  rw [if_pos (by go_simp)]
  go_simp
  refine hK _ _ ?_
  clear hK K' e2 e11 q0 u0 q1 u1 q2 u2 q3 u3 q4 u4
  have Z := hide (((((Y.set 1 0 rfl (.slice x1 l.length y1)).set 1 1 rfl (.slice x2 r.length y2)).set 1 2 rfl (.slice x3 ps.length y3)).set 1 3 rfl (.slice x4 t.length y4)).set 1 4 rfl (.int .i64 a))
  have sg : Seg (w.heap.size + 1) (w.heap.size + 1 + 1) w2 (((((w2.setCell ⟨w.heap.size + 1, 0, none⟩ (.slice x1 l.length y1)).setCell ⟨w.heap.size + 1, 1, none⟩ (.slice x2 r.length y2)).setCell ⟨w.heap.size + 1, 2, none⟩ (.slice x3 ps.length y3)).setCell ⟨w.heap.size + 1, 3, none⟩ (.slice x4 t.length y4)).setCell ⟨w.heap.size + 1, 4, none⟩ (.int .i64 a)) := Seg.setCell5 _ _ _ _ _ _ _
  obtain ⟨p1, p2, p3⟩ := HQ.out
  have p0 := hz1.out
  have O1 := hide (O1.out.seg sg (.inr (by omega)))
  have O2 := hide (O2.out.seg sg (.inr (by omega)))
  clear sg Y
  obtain ⟨w3, hw3⟩ : ∃ q, q = (((((w2.setCell ⟨w.heap.size + 1, 0, none⟩ (.slice x1 l.length y1)).setCell ⟨w.heap.size + 1, 1, none⟩ (.slice x2 r.length y2)).setCell ⟨w.heap.size + 1, 2, none⟩ (.slice x3 ps.length y3)).setCell ⟨w.heap.size + 1, 3, none⟩ (.slice x4 t.length y4)).setCell ⟨w.heap.size + 1, 4, none⟩ (.int .i64 a)) := ⟨_, rfl⟩
  rw [← hw3] at Z O1 O2 ⊢
  clear hw3
  have z0 := Z.out.cell 1 0 rfl rfl
  have z1 := Z.out.cell 1 1 rfl rfl
  have z2 := Z.out.cell 1 2 rfl rfl
  have z3 := Z.out.cell 1 3 rfl rfl
  have z4 := Z.out.cell 1 4 rfl rfl
  have t1 := O1.out.top
  have t2 := O2.out.top
  have t4 := O2.out.le
  have hbz := Z.out.below
  have HE := hide (show MpO w3 (.agg #[.slice x1 l.length y1, .slice x2 r.length y2, .slice x3 ps.length y3, .slice x4 t.length y4, .int .i64 a]) l r ps t a w.heap.size w3.heap.size from ⟨_, _, _, _, _, _, _, _, rfl, O1.out, O2.out, ⟨by omega, by omega, t1.2, t2, p3⟩, hbz.size, Nat.le_refl _⟩)
  clear p0 p1 p2 p3 t1 t2 t4 HQ
  have XF2 := XF.out
  clear XF
  rw [XF2]
  simp only [List.foldl_cons, List.foldl_nil, List.setIfInBounds_toArray, List.set_cons_succ, List.set_cons_zero]
  show Exit.then _ _ .normal _ _
  clear XF2
  generalize slot ac 3 = t3
  generalize slot ac 4 = t4
  generalize slot ac 5 = t5
  generalize slot ac 6 = t6
  generalize slot ac 7 = t7
  generalize slot ac 8 = t8
  generalize slot ac 9 = t9
  generalize slot ac 10 = t10
  generalize slot ac 11 = t11
  go_wp2_with fail
  exact bodyPost_ret (v := .agg #[.slice x1 l.length y1, .slice x2 r.length y2, .slice x3 ps.length y3, .slice x4 t.length y4, .int .i64 a]) (by simp [results, Try.results85, go_sem, z0, z1, z2, z3, z4]) rfl ⟨_, rfl, HE.out, hbz⟩

end Go.Proofs.Ytepkkeclkdlheaa

/- What ApplySwaps of the reference returns (promise 3). Written by gen_aps.py. -/
namespace Go.Proofs.Ytepkkeclkdlheaa
open Go.RowKit Go.ChangeShapes
set_option linter.unusedSimpArgs false
set_option linter.unusedVariables false
set_option maxRecDepth 100000

set_option maxHeartbeats 4000000 in
theorem sApply_eq (a1 a2 a3 : Option Addr) (c1 c2 c3 : Nat) (sv : Value) (l r : List Int) (ps sw : List Pv) (w : World) (B : Nat) (V : Hid (Ck w B (.agg #[.slice a1 l.length c1, .slice a2 l.length c2, .slice a3 ps.length c3]) l r ps)) (HR : Hid (r.length = l.length)) (hs : Pvs w B sv sw) (hB : B ≤ w.heap.size) (hl : l.length ≤ 1048576) (hp : ps.length ≤ 1048576) (t : Bool) (HT : Hid (t = sw.all (swOk l.length))) (LL RR : List Int) (HLL : Hid (LL = if t = true then swaps l sw else l)) (HRR : Hid (RR = if t = true then swaps r sw else r)) :
    Calls Try.prog 126 #[.agg #[.slice a1 l.length c1, .slice a2 l.length c2, .slice a3 ps.length c3], sv] w (RetOCB w LL RR ps t) := by
  have HC := hide hs
  obtain ⟨ad, cap, rfl, hlen, hwf, hcell⟩ := hs
  have HCC := hide hcell
  clear hcell hwf
  have X := hide (Kn.two w #[.slice a1 l.length c1, .slice a2 l.length c2, .slice a3 ps.length c3] #[.slice none 0 0, .slice none 0 0, .slice none 0 0] 25 25)
  obtain ⟨w1, hw1⟩ : ∃ w1, w1 = (w.alloc (.cells #[.slice a1 l.length c1, .slice a2 l.length c2, .slice a3 ps.length c3] 25)).alloc (.cells #[.slice none 0 0, .slice none 0 0, .slice none 0 0] 25) := ⟨_, rfl⟩
  have hz1 := hide (show w1.heap.size = w.heap.size + 1 + 1 by rw [hw1]; simp)
  rw [← hw1] at X
  have hq0 : ((l.length : Int) != (l.length : Int)) = false := by simp
  have C0 := hide (fun (W : World) (h : Below w.heap.size w W) => sCopy_any _ l r ps W B (V.out.below h hB) (Nat.le_trans hB h.size) hl (by rw [HR.out]; exact hl) hp)
  go_enter Try.func126, Try.ntmps126
  go_wp2_with fail
  rw [← hw1]
  clear hw1
  have c0 : w1.cell? ⟨w.heap.size, 0, none⟩ = some (.slice a1 l.length c1) := X.out.cell 0 0 rfl rfl
  have c1' : w1.cell? ⟨w.heap.size, 1, none⟩ = some (.slice a2 l.length c2) := X.out.cell 0 1 rfl rfl
  have c2' : w1.cell? ⟨w.heap.size, 2, none⟩ = some (.slice a3 ps.length c3) := X.out.cell 0 2 rfl rfl
  go_wp2_with fail
  go_at_call 94
  refine (C0.out _ X.out.below).mono ?_
  rintro e w2 ⟨x, y, z, lo, hi, n1, h1, n2, h2, n3, h3, rfl, q1, q2, O, hb⟩
  obtain ⟨x1, k1, rfl⟩ := O.x.form
  obtain ⟨x2, k2, hx2⟩ := O.y.form
  rw [HR.out] at hx2
  subst hx2
  obtain ⟨x3, k3, rfl⟩ := O.z.own.form
  have X2 := hide (X.out.up hb)
  have X3 := hide (X2.out.alloc #[.slice x1 l.length k1, .slice x2 l.length k2, .slice x3 ps.length k3] 25)
  have O3 := hide (O.below ((Below.refl w2.heap.size w2).alloc (Nat.le_refl _) (.cells #[.slice x1 l.length k1, .slice x2 l.length k2, .slice x3 ps.length k3] 25)))
  clear c0 c1' c2' O hb X X2
  obtain ⟨m, hm⟩ : ∃ m, m = w2.heap.size := ⟨_, rfl⟩
  obtain ⟨w3, hw3⟩ : ∃ w3, w3 = w2.alloc (.cells #[.slice x1 l.length k1, .slice x2 l.length k2, .slice x3 ps.length k3] 25) := ⟨_, rfl⟩
  rw [← hw3] at X3 O3
  rw [← hm] at X3 q2
  simp only [List.cons_append, List.nil_append] at X3
  have Q1 := hide q1
  have Q2 := hide q2
  have EL := hide HLL.out
  have ER := hide HRR.out
  clear HLL HRR
  go_wp2_with fail
  rw [← hw3]
  try rw [← hm]
  clear hw3 hm q1 q2
  go_loopw [7] (fun u wr => ∃ (k : Nat), k ≤ sw.length ∧ u = .int .i64 k ∧ Hid ((sw.take k).all (swOk l.length) = true) ∧ Hid (Kn w wr [(w.heap.size, #[.slice a1 l.length c1, .slice a2 l.length c2, .slice a3 ps.length c3], 25), (w.heap.size + 1, #[.slice none 0 0, .slice none 0 0, .slice none 0 0], 25), (m, #[.slice x1 l.length k1, .slice x2 l.length k2, .slice x3 ps.length k3], 25)]) ∧ Hid (OC wr (.slice x1 l.length k1) (.slice x2 l.length k2) (.slice x3 ps.length k3) (swaps l (sw.take k)) (swaps r (sw.take k)) ps lo hi n1 h1 n2 h2 n3 h3)) (fun u _ => sw.length - (intOf u).toNat)
  case atStart => exact ⟨0, by omega, rfl, by simp [Hid], X3.out, by simpa [Hid, swaps] using O3.out⟩
  case round =>
      clear X3 O3
      obtain ⟨k, hk, rfl, hall, K, O⟩ := hrel
      have e0 : wr.cell? ⟨m, 0, none⟩ = some (.slice x1 l.length k1) := K.out.cell 2 0 rfl rfl
      have e1 : wr.cell? ⟨m, 1, none⟩ = some (.slice x2 l.length k2) := K.out.cell 2 1 rfl rfl
      by_cases hlt : k < sw.length
      · have es1 := hide (swaps_take l sw k hlt)
        have es2 := hide (swaps_take r sw k hlt)
        have hat := hide (all_take (swOk l.length) sw k hlt)
        obtain ⟨b1, o1, rfl, hb1, hc1, hc2⟩ := HCC.out k hlt
        obtain ⟨x, hx⟩ : ∃ x, x = sw[k].1 := ⟨_, rfl⟩
        obtain ⟨y, hy⟩ : ∃ y, y = sw[k].2 := ⟨_, rfl⟩
        rw [← hx] at hc1
        rw [← hy] at hc2
        have d1 : wr.cell? ⟨b1, o1 + k * 2, none⟩ = some (.int .i64 x) := by rw [K.out.below.cell (p := ⟨b1, o1 + k * 2, none⟩) (Nat.lt_of_lt_of_le hb1 hB)]; exact hc1
        have d2 : wr.cell? ⟨b1, o1 + k * 2 + 1, none⟩ = some (.int .i64 y) := by rw [K.out.below.cell (p := ⟨b1, o1 + k * 2 + 1, none⟩) (Nat.lt_of_lt_of_le hb1 hB)]; exact hc2
        have HX := hide hx
        have HY := hide hy
        clear hc1 hc2 hx hy hb1
        by_cases p1 : 0 ≤ x ∧ x ≤ (l.length : Int) - 1
        · have C1 := hide (fun (W : World) => in_yes x 0 ((l.length : Int) - 1) W p1.1 p1.2)
          by_cases p2 : 0 ≤ y ∧ y ≤ (l.length : Int) - 1
          · have C2 := hide (fun (W : World) => in_yes y 0 ((l.length : Int) - 1) W p2.1 p2.2)
            have HA2 := hide (show (sw.take (k + 1)).all (swOk l.length) = true by rw [hat.out, hall.out]; unfold swOk; rw [← HX.out, ← HY.out]; simp; omega)
            obtain ⟨i, rfl⟩ := Int.eq_ofNat_of_zero_le p1.1
            obtain ⟨j, rfl⟩ := Int.eq_ofNat_of_zero_le p2.1
            have ES1 := hide (show swaps l (sw.take (k + 1)) = swapAt (swaps l (sw.take k)) i j by rw [es1.out, ← HX.out, ← HY.out]; rfl)
            have ES2 := hide (show swaps r (sw.take (k + 1)) = swapAt (swaps r (sw.take k)) i j by rw [es2.out, ← HX.out, ← HY.out]; rfl)
            have H1 := hide (show i < (swaps l (sw.take k)).length by rw [swaps_length]; omega)
            have H2 := hide (show j < (swaps l (sw.take k)).length by rw [swaps_length]; omega)
            have H3 := hide (show i < (swaps r (sw.take k)).length by rw [swaps_length, HR.out]; omega)
            have H4 := hide (show j < (swaps r (sw.take k)).length by rw [swaps_length, HR.out]; omega)
            clear p1 p2 hat es1 es2
            go_wp2_with fail
            go_at_call 81
            refine (C1.out _).mono ?_
            rintro e' wa ⟨rfl, rfl⟩
            go_wp2_with fail
            go_at_call 81
            refine (C2.out _).mono ?_
            rintro e' wa ⟨rfl, rfl⟩
            go_wp2_with fail
            go_at_call 84
            refine (sSwap_ow _ (swaps l (sw.take k)) n1 h1 i j wr O.out.x H1.out H2.out).mono ?_
            rintro e' w6 ⟨⟨u, rfl⟩, Ox, s1⟩
            obtain ⟨l1, l2, l3⟩ := O.out.low
            obtain ⟨g1, g2, g3⟩ := O.out.high
            obtain ⟨r1, r2, r3⟩ := O.out.apart
            have hz := hz1.out
            have hq1 := Q1.out
            have hq2 := Q2.out
            have hm := K.out.lt 2 rfl
            have hlo := O.out.x.le
            have K3 := hide (K.out.seg s1 (by omega) (by intro e he; simp at he; rcases he with rfl | rfl | rfl <;> simp <;> omega))
            have Oy := hide (O.out.y.seg s1 (by omega))
            have Oz := hide (O.out.z.seg s1 (by omega))
            have Ox := hide Ox
            have s1 := hide s1
            have e1 : w6.cell? ⟨m, 1, none⟩ = some (.slice x2 l.length k2) := K3.out.cell 2 1 rfl rfl
            have e0 : w6.cell? ⟨m, 0, none⟩ = some (.slice x1 l.length k1) := K3.out.cell 2 0 rfl rfl
            have L := hide (And.intro l1 (And.intro l2 l3))
            have G := hide (And.intro g1 (And.intro g2 g3))
            have A := hide (And.intro r1 (And.intro r2 r3))
            clear l1 l2 l3 g1 g2 g3 r1 r2 r3 hz hq1 hq2 hm hlo
            go_wp2_with fail
            go_at_call 84
            refine (sSwap_ow _ (swaps r (sw.take k)) n2 h2 i j w6 Oy.out H3.out H4.out).mono ?_
            rintro e' w7 ⟨⟨u', rfl⟩, Oy7, s2⟩
            obtain ⟨l1, l2, l3⟩ := L.out
            obtain ⟨g1, g2, g3⟩ := G.out
            obtain ⟨r1, r2, r3⟩ := A.out
            have hz := hz1.out
            have hq1 := Q1.out
            have hq2 := Q2.out
            have hm := K.out.lt 2 rfl
            have hlo := O.out.y.le
            have K4 := hide (K3.out.seg s2 (by omega) (by intro e he; simp at he; rcases he with rfl | rfl | rfl <;> simp <;> omega))
            have Ox7 := hide (Ox.out.seg s2 (by omega))
            have Oz7 := hide (Oz.out.seg s2 (by omega))
            have hsz := hide (Nat.le_trans O.out.top.2 (Nat.le_trans s1.out.below.size s2.below.size))
            have Oy7 := hide Oy7
            clear l1 l2 l3 g1 g2 g3 r1 r2 r3 hz hq1 hq2 hm hlo K3 s2 e0 e1
            go_wp2_with fail
            go_roundw
            case rel =>
              refine ⟨k + 1, by omega, by go_num, HA2.out, K4.out, ?_⟩
              show OC _ _ _ _ _ _ _ _ _ _ _ _ _ _ _
              rw [ES1.out, ES2.out]
              exact ⟨Ox7.out, Oy7.out, Oz7.out, L.out, G.out, A.out, O.out.top.1, hsz.out⟩
            case measure => simp [intOf]; omega
          · have C2 := hide (fun (W : World) => in_no y 0 ((l.length : Int) - 1) W (by omega))
            go_wp2_with fail
            go_at_call 81
            refine (C1.out _).mono ?_
            rintro e' wa ⟨rfl, rfl⟩
            go_wp2_with fail
            go_at_call 81
            refine (C2.out _).mono ?_
            rintro e' wa ⟨rfl, rfl⟩
            have tf : t = false := by
              rw [HT.out]
              exact List.all_eq_false.2 ⟨sw[k], List.getElem_mem hlt, by unfold swOk; rw [← HX.out, ← HY.out]; simp; omega⟩
            subst tf
            obtain rfl : LL = l := EL.out
            obtain rfl : RR = r := ER.out
            have b0 : wr.cell? ⟨w.heap.size, 0, none⟩ = some (.slice a1 LL.length c1) := K.out.cell 0 0 rfl rfl
            have b1 : wr.cell? ⟨w.heap.size, 1, none⟩ = some (.slice a2 LL.length c2) := K.out.cell 0 1 rfl rfl
            have b2 : wr.cell? ⟨w.heap.size, 2, none⟩ = some (.slice a3 ps.length c3) := K.out.cell 0 2 rfl rfl
            go_wp2_with fail
            go_at_call 94
            refine (C0.out _ K.out.below).mono ?_
            rintro e w5 ⟨y1, y2, y3, lo5, hi5, m1, j1, m2, j2, m3, j3, rfl, p3, p4, O5, hb5⟩
            obtain ⟨v1, d1', rfl⟩ := O5.x.form
            obtain ⟨v2, d2', hv2⟩ := O5.y.form
            rw [HR.out] at hv2
            subst hv2
            obtain ⟨v3, d3', rfl⟩ := O5.z.own.form
            have K5 := hide (K.out.up hb5)
            have O5 := hide O5
            have P3 := hide (Nat.le_trans K.out.below.size p3)
            have P5 := hide (Nat.lt_of_lt_of_le (K.out.lt 1 rfl) p3)
            clear b0 b1 b2 hb5 p3 p4 K O
            have g0 : w5.cell? ⟨w.heap.size + 1, 0, none⟩ = some (.slice none 0 0) := K5.out.cell 1 0 rfl rfl
            have g1 : w5.cell? ⟨w.heap.size + 1, 1, none⟩ = some (.slice none 0 0) := K5.out.cell 1 1 rfl rfl
            have g2 : w5.cell? ⟨w.heap.size + 1, 2, none⟩ = some (.slice none 0 0) := K5.out.cell 1 2 rfl rfl
            have f0 := K5.out.free 1 0 rfl
            have f1 := K5.out.free 1 1 rfl
            have f2 := K5.out.free 1 2 rfl
            go_wp2_with fail
            have Z := ((K5.out.set 1 0 rfl (.slice v1 LL.length d1')).set 1 1 rfl (.slice v2 LL.length d2')).set 1 2 rfl (.slice v3 ps.length d3')
            have z0 := Z.cell 1 0 rfl rfl
            have z1 := Z.cell 1 1 rfl rfl
            have z2 := Z.cell 1 2 rfl rfl
            have O6 := O5.out.seg (seg3 _ (w.heap.size + 1) (.slice v1 LL.length d1') (.slice v2 LL.length d2') (.slice v3 ps.length d3')) (.inr P5.out)
            exact bodyPost_ret (v := .tuple #[.agg #[.slice v1 LL.length d1', .slice v2 LL.length d2', .slice v3 ps.length d3'], .bool false]) (by simp [results, Try.results126, go_sem, z0, z1, z2]) rfl
              ⟨_, _, _, lo5, hi5, m1, j1, m2, j2, m3, j3, rfl, P3.out, O6.top.2, O6, Z.below⟩
        · have C1 := hide (fun (W : World) => in_no x 0 ((l.length : Int) - 1) W (by omega))
          have q := True.intro
          · skip
            go_wp2_with fail
            go_at_call 81
            refine (C1.out _).mono ?_
            rintro e' wa ⟨rfl, rfl⟩
            have tf : t = false := by
              rw [HT.out]
              exact List.all_eq_false.2 ⟨sw[k], List.getElem_mem hlt, by unfold swOk; rw [← HX.out, ← HY.out]; simp; omega⟩
            subst tf
            obtain rfl : LL = l := EL.out
            obtain rfl : RR = r := ER.out
            have b0 : wr.cell? ⟨w.heap.size, 0, none⟩ = some (.slice a1 LL.length c1) := K.out.cell 0 0 rfl rfl
            have b1 : wr.cell? ⟨w.heap.size, 1, none⟩ = some (.slice a2 LL.length c2) := K.out.cell 0 1 rfl rfl
            have b2 : wr.cell? ⟨w.heap.size, 2, none⟩ = some (.slice a3 ps.length c3) := K.out.cell 0 2 rfl rfl
            go_wp2_with fail
            go_at_call 94
            refine (C0.out _ K.out.below).mono ?_
            rintro e w5 ⟨y1, y2, y3, lo5, hi5, m1, j1, m2, j2, m3, j3, rfl, p3, p4, O5, hb5⟩
            obtain ⟨v1, d1', rfl⟩ := O5.x.form
            obtain ⟨v2, d2', hv2⟩ := O5.y.form
            rw [HR.out] at hv2
            subst hv2
            obtain ⟨v3, d3', rfl⟩ := O5.z.own.form
            have K5 := hide (K.out.up hb5)
            have O5 := hide O5
            have P3 := hide (Nat.le_trans K.out.below.size p3)
            have P5 := hide (Nat.lt_of_lt_of_le (K.out.lt 1 rfl) p3)
            clear b0 b1 b2 hb5 p3 p4 K O
            have g0 : w5.cell? ⟨w.heap.size + 1, 0, none⟩ = some (.slice none 0 0) := K5.out.cell 1 0 rfl rfl
            have g1 : w5.cell? ⟨w.heap.size + 1, 1, none⟩ = some (.slice none 0 0) := K5.out.cell 1 1 rfl rfl
            have g2 : w5.cell? ⟨w.heap.size + 1, 2, none⟩ = some (.slice none 0 0) := K5.out.cell 1 2 rfl rfl
            have f0 := K5.out.free 1 0 rfl
            have f1 := K5.out.free 1 1 rfl
            have f2 := K5.out.free 1 2 rfl
            go_wp2_with fail
            have Z := ((K5.out.set 1 0 rfl (.slice v1 LL.length d1')).set 1 1 rfl (.slice v2 LL.length d2')).set 1 2 rfl (.slice v3 ps.length d3')
            have z0 := Z.cell 1 0 rfl rfl
            have z1 := Z.cell 1 1 rfl rfl
            have z2 := Z.cell 1 2 rfl rfl
            have O6 := O5.out.seg (seg3 _ (w.heap.size + 1) (.slice v1 LL.length d1') (.slice v2 LL.length d2') (.slice v3 ps.length d3')) (.inr P5.out)
            exact bodyPost_ret (v := .tuple #[.agg #[.slice v1 LL.length d1', .slice v2 LL.length d2', .slice v3 ps.length d3'], .bool false]) (by simp [results, Try.results126, go_sem, z0, z1, z2]) rfl
              ⟨_, _, _, lo5, hi5, m1, j1, m2, j2, m3, j3, rfl, P3.out, O6.top.2, O6, Z.below⟩
      · have hke : k = sw.length := by omega
        subst hke
        rw [List.take_length] at O hall
        have tt : t = true := by rw [HT.out]; exact hall.out
        subst tt
        have EL : Hid (LL = swaps l sw) := EL.out
        have ER : Hid (RR = swaps r sw) := ER.out
        clear e0 e1
        rw [← EL.out, ← ER.out] at O
        have e0 : wr.cell? ⟨m, 0, none⟩ = some (.slice x1 l.length k1) := K.out.cell 2 0 rfl rfl
        have e1 : wr.cell? ⟨m, 1, none⟩ = some (.slice x2 l.length k2) := K.out.cell 2 1 rfl rfl
        have e2 : wr.cell? ⟨m, 2, none⟩ = some (.slice x3 ps.length k3) := K.out.cell 2 2 rfl rfl
        have g0 : wr.cell? ⟨w.heap.size + 1, 0, none⟩ = some (.slice none 0 0) := K.out.cell 1 0 rfl rfl
        have g1 : wr.cell? ⟨w.heap.size + 1, 1, none⟩ = some (.slice none 0 0) := K.out.cell 1 1 rfl rfl
        have g2 : wr.cell? ⟨w.heap.size + 1, 2, none⟩ = some (.slice none 0 0) := K.out.cell 1 2 rfl rfl
        have f0 := K.out.free 1 0 rfl
        have f1 := K.out.free 1 1 rfl
        have f2 := K.out.free 1 2 rfl
        go_wp2_with fail
        have Z := ((K.out.set 1 0 rfl (.slice x1 l.length k1)).set 1 1 rfl (.slice x2 l.length k2)).set 1 2 rfl (.slice x3 ps.length k3)
        have z0 := Z.cell 1 0 rfl rfl
        have z1 := Z.cell 1 1 rfl rfl
        have z2 := Z.cell 1 2 rfl rfl
        have q1 := Q1.out
        have hz := hz1.out
        have O6 := O.out.seg (seg3 _ (w.heap.size + 1) (.slice x1 l.length k1) (.slice x2 l.length k2) (.slice x3 ps.length k3)) (.inr (by omega))
        exact bodyPost_ret (v := .tuple #[.agg #[.slice x1 l.length k1, .slice x2 l.length k2, .slice x3 ps.length k3], .bool true]) (by simp [results, Try.results126, go_sem, z0, z1, z2]) rfl
          ⟨_, _, _, lo, hi, n1, h1, n2, h2, n3, h3, rfl, by omega, O6.top.2, O6, Z.below⟩

set_option maxHeartbeats 4000000 in
theorem sApply_ne (a1 a2 a3 : Option Addr) (c1 c2 c3 : Nat) (sv : Value) (l r : List Int) (ps sw : List Pv) (w : World) (B : Nat) (V : Hid (Ck w B (.agg #[.slice a1 l.length c1, .slice a2 r.length c2, .slice a3 ps.length c3]) l r ps)) (HR : ¬ (r.length = l.length)) (hs : Pvs w B sv sw) (hB : B ≤ w.heap.size) (hl : l.length ≤ 1048576) (hr : r.length ≤ 1048576) (hp : ps.length ≤ 1048576) :
    Calls Try.prog 126 #[.agg #[.slice a1 l.length c1, .slice a2 r.length c2, .slice a3 ps.length c3], sv] w (RetOCB w l r ps false) := by
  obtain ⟨ad, cap, rfl, -⟩ := hs
  have hq0 : ((r.length : Int) != (l.length : Int)) = true := by simp; omega
  have hq1 : (r.length == l.length) = false := by simp; omega
  have hq2 : decide (r.length = l.length) = false := by simp; omega
  clear HR
  have X := hide (Kn.two w #[.slice a1 l.length c1, .slice a2 r.length c2, .slice a3 ps.length c3] #[.slice none 0 0, .slice none 0 0, .slice none 0 0] 25 25)
  obtain ⟨w1, hw1⟩ : ∃ w1, w1 = (w.alloc (.cells #[.slice a1 l.length c1, .slice a2 r.length c2, .slice a3 ps.length c3] 25)).alloc (.cells #[.slice none 0 0, .slice none 0 0, .slice none 0 0] 25) := ⟨_, rfl⟩
  have hz1 := hide (show w1.heap.size = w.heap.size + 1 + 1 by rw [hw1]; simp)
  rw [← hw1] at X
  have C0 := hide (fun (W : World) (h : Below w.heap.size w W) => sCopy_any _ l r ps W B (V.out.below h hB) (Nat.le_trans hB h.size) hl hr hp)
  go_enter Try.func126, Try.ntmps126
  go_wp2_with fail
  rw [← hw1]
  clear hw1
  have c0 : w1.cell? ⟨w.heap.size, 0, none⟩ = some (.slice a1 l.length c1) := X.out.cell 0 0 rfl rfl
  have c1' : w1.cell? ⟨w.heap.size, 1, none⟩ = some (.slice a2 r.length c2) := X.out.cell 0 1 rfl rfl
  have c2' : w1.cell? ⟨w.heap.size, 2, none⟩ = some (.slice a3 ps.length c3) := X.out.cell 0 2 rfl rfl
  go_wp2_with fail
  go_at_call 94
  refine (C0.out _ X.out.below).mono ?_
  rintro e w2 ⟨x, y, z, lo, hi, n1, h1, n2, h2, n3, h3, rfl, q1, q2, O, hb⟩
  obtain ⟨x1, k1, rfl⟩ := O.x.form
  obtain ⟨x2, k2, rfl⟩ := O.y.form
  obtain ⟨x3, k3, rfl⟩ := O.z.own.form
  have X2 := hide (X.out.up hb)
  have X3 := hide (X2.out.alloc #[.slice x1 l.length k1, .slice x2 r.length k2, .slice x3 ps.length k3] 25)
  have O3 := hide (O.below ((Below.refl w2.heap.size w2).alloc (Nat.le_refl _) (.cells #[.slice x1 l.length k1, .slice x2 r.length k2, .slice x3 ps.length k3] 25)))
  clear c0 c1' c2' O hb X X2
  obtain ⟨m, hm⟩ : ∃ m, m = w2.heap.size := ⟨_, rfl⟩
  obtain ⟨w3, hw3⟩ : ∃ w3, w3 = w2.alloc (.cells #[.slice x1 l.length k1, .slice x2 r.length k2, .slice x3 ps.length k3] 25) := ⟨_, rfl⟩
  rw [← hw3] at X3 O3
  rw [← hm] at X3 q2
  simp only [List.cons_append, List.nil_append] at X3
  have b0 : w3.cell? ⟨w.heap.size, 0, none⟩ = some (.slice a1 l.length c1) := X3.out.cell 0 0 rfl rfl
  have b1 : w3.cell? ⟨w.heap.size, 1, none⟩ = some (.slice a2 r.length c2) := X3.out.cell 0 1 rfl rfl
  have g0 : w3.cell? ⟨w.heap.size + 1, 0, none⟩ = some (.slice none 0 0) := X3.out.cell 1 0 rfl rfl
  have g1 : w3.cell? ⟨w.heap.size + 1, 1, none⟩ = some (.slice none 0 0) := X3.out.cell 1 1 rfl rfl
  have g2 : w3.cell? ⟨w.heap.size + 1, 2, none⟩ = some (.slice none 0 0) := X3.out.cell 1 2 rfl rfl
  have f0 := X3.out.free 1 0 rfl
  have f1 := X3.out.free 1 1 rfl
  have f2 := X3.out.free 1 2 rfl
  have Q1 := hide q1
  have Q2 := hide q2
  rw [hw3] at b0 b1 g0 g1 g2 f0 f1 f2
  go_wp2_with fail
  have Z := ((X3.out.set 1 0 rfl (.slice x1 l.length k1)).set 1 1 rfl (.slice x2 r.length k2)).set 1 2 rfl (.slice x3 ps.length k3)
  have q1 := Q1.out
  have hz := hz1.out
  have O6 := O3.out.seg (seg3 _ (w.heap.size + 1) (.slice x1 l.length k1) (.slice x2 r.length k2) (.slice x3 ps.length k3)) (.inr (by omega))
  rw [hw3] at Z O6
  have z0 := Z.cell 1 0 rfl rfl
  have z1 := Z.cell 1 1 rfl rfl
  have z2 := Z.cell 1 2 rfl rfl
  exact bodyPost_ret (v := .tuple #[.agg #[.slice x1 l.length k1, .slice x2 r.length k2, .slice x3 ps.length k3], .bool false]) (by simp [results, Try.results126, go_sem, z0, z1, z2]) rfl
    ⟨_, _, _, lo, hi, n1, h1, n2, h2, n3, h3, rfl, by omega, O6.top.2, O6, Z.below⟩

theorem sApply_any (v sv : Value) (l r : List Int) (ps sw : List Pv) (w : World) (B : Nat) (hv : Ck w B v l r ps) (hs : Pvs w B sv sw) (hB : B ≤ w.heap.size) (hl : l.length ≤ 1048576) (hr : r.length ≤ 1048576) (hp : ps.length ≤ 1048576) :
    Calls Try.prog 126 #[v, sv] w (RetOCB w (apL l r sw) (apR l r sw) ps (canSwap l r sw)) := by
  obtain ⟨a1, c1, a2, c2, a3, c3, rfl, -⟩ := hv.form
  by_cases h : r.length = l.length
  · rw [h] at hv ⊢
    have e : canSwap l r sw = sw.all (swOk l.length) := by unfold canSwap; rw [decide_eq_true h]; rfl
    exact sApply_eq a1 a2 a3 c1 c2 c3 sv l r ps sw w B hv h hs hB hl hp _ e _ _ rfl rfl
  · have e : canSwap l r sw = false := by unfold canSwap; rw [decide_eq_false h]; rfl
    have e1 : apL l r sw = l := by unfold apL; rw [e]; rfl
    have e2 : apR l r sw = r := by unfold apR; rw [e]; rfl
    rw [e, e1, e2]
    exact sApply_ne a1 a2 a3 c1 c2 c3 sv l r ps sw w B hv h hs hB hl hr hp

end Go.Proofs.Ytepkkeclkdlheaa

/- What CrackAt of the reference returns (promise 3). Written by gen_crs.py. -/
namespace Go.Proofs.Ytepkkeclkdlheaa
open Go.RowKit Go.ChangeShapes
set_option linter.unusedSimpArgs false
set_option linter.unusedVariables false
set_option maxRecDepth 100000

set_option maxHeartbeats 8000000 in
theorem sCrack_any (u : Value) (l r : List Int) (ps : List Pv) (v : Int) (w : World) (B : Nat) (hv : Ck w B u l r ps) (hB : B ≤ w.heap.size) (hl : l.length ≤ 1048576) (hr : r.length ≤ 1048576) (hp : ps.length ≤ 1048576) (hvw : I64 v) :
    Calls Try.prog 53 #[u, .int .i64 v] w (RetOCSB w (crL l r ps v) (crR l r ps v) (crP l r ps v) (crS l r ps v) (crOk l r ps v)) := by
  obtain ⟨a1, c1, a2, c2, a3, c3, rfl, i1, i2, i3⟩ := hv.form
  obtain ⟨wl, wr, wpl, wp⟩ := hv.wf
  have V := hide hv
  have I1 := hide i1
  clear hv i1 i2 i3
  obtain ⟨t0, ht0⟩ : ∃ t, t = isCk l r ps := ⟨_, rfl⟩
  obtain ⟨bd, hbd⟩ : ∃ t, t = decide (-1000 ≤ v ∧ v ≤ 1000) := ⟨_, rfl⟩
  obtain ⟨fd, hfd⟩ : ∃ p, p = fndP ps v := ⟨_, rfl⟩
  obtain ⟨pc, hpc⟩ : ∃ p, p = pieceP l r ps v := ⟨_, rfl⟩
  obtain ⟨pt, hpt⟩ : ∃ p, p = crPt l r ps v := ⟨_, rfl⟩
  obtain ⟨L1, hL1⟩ : ∃ p, p = apL l r pt.1 := ⟨_, rfl⟩
  obtain ⟨R1, hR1⟩ : ∃ p, p = apR l r pt.1 := ⟨_, rfl⟩
  obtain ⟨P1, hP1⟩ : ∃ p, p = adP L1 R1 ps (v, pt.2) := ⟨_, rfl⟩
  obtain ⟨nl, hnl⟩ : ∃ p, p = crL l r ps v := ⟨_, rfl⟩
  obtain ⟨nr, hnr⟩ : ∃ p, p = crR l r ps v := ⟨_, rfl⟩
  obtain ⟨np, hnp⟩ : ∃ p, p = crP l r ps v := ⟨_, rfl⟩
  obtain ⟨ns, hns⟩ : ∃ p, p = crS l r ps v := ⟨_, rfl⟩
  obtain ⟨ok, hok⟩ : ∃ p, p = crOk l r ps v := ⟨_, rfl⟩
  have HOK := hide (show ok = (t0 && bd) by rw [hok, ht0, hbd]; rfl)
  have HDV := hide (show crDiv l r ps v = ((t0 && bd) && !fd.2) by rw [ht0, hbd, hfd]; rfl)
  have HNL := hide (show nl = if ((t0 && bd) && !fd.2) = true then L1 else l by rw [← HDV.out, hnl, hL1, hpt]; rfl)
  have HNR := hide (show nr = if ((t0 && bd) && !fd.2) = true then R1 else r by rw [← HDV.out, hnr, hR1, hpt]; rfl)
  have HNP := hide (show np = if ((t0 && bd) && !fd.2) = true then P1 else ps by rw [← HDV.out, hnp, hP1, hL1, hR1, hpt]; rfl)
  have HNS := hide (show ns = if ((t0 && bd) && !fd.2) = true then pt.1 else [] by rw [← HDV.out, hns, hpt]; rfl)
  rw [← hnl, ← hnr, ← hnp, ← hns, ← hok]
  have HPT := hide (show pt = partP l pc.1 pc.2 v by rw [hpt, hpc]; rfl)
  have hnum := partP_nums l pc.1 pc.2 v hl
  have hpw := partP_wf l pc.1 pc.2 v hl
  rw [← HPT.out] at hnum hpw
  have HL1 := hide (show L1.length ≤ 1048576 ∧ (∀ x ∈ L1, I64 x) by rw [hL1]; exact ⟨by rw [apL_length]; exact hl, apL_wf wl⟩)
  have HR1 := hide (show R1.length ≤ 1048576 ∧ (∀ x ∈ R1, I64 x) by rw [hR1]; exact ⟨by rw [apR_length]; exact hr, apR_wf wr⟩)
  have HNM := hide hnum
  have HPW := hide hpw
  have HWP := hide wp
  have CK := hide (fun (W : World) (h : Below w.heap.size w W) => show Calls Try.prog 80 #[.agg #[.slice a1 l.length c1, .slice a2 r.length c2, .slice a3 ps.length c3]] W (RetB1 W t0) by rw [ht0]; exact sIsCk_any _ l r ps W B (V.out.below h hB) (Nat.le_trans hB h.size))
  have CF := hide (fun (W : World) (h : Below w.heap.size w W) => show Calls Try.prog 123 #[.agg #[.slice a1 l.length c1, .slice a2 r.length c2, .slice a3 ps.length c3], .int .i64 v] W (RetPB W fd) by rw [hfd]; exact sFindP_any _ l r ps v W B (V.out.below h hB) (Nat.le_trans hB h.size))
  have CC := hide (fun (W : World) (h : Below w.heap.size w W) => sCopy_any _ l r ps W B (V.out.below h hB) (Nat.le_trans hB h.size) hl hr hp)
  have CP := hide (fun (W : World) (h : Below w.heap.size w W) => show Calls Try.prog 124 #[.agg #[.slice a1 l.length c1, .slice a2 r.length c2, .slice a3 ps.length c3], .int .i64 v] W (RetII W pc) by rw [hpc]; exact sPieceOf_any _ l r ps v W B (V.out.below h hB) (Nat.le_trans hB h.size))
  have CT := hide (fun (W : World) (h : Below w.heap.size w W) => show Calls Try.prog 125 #[.slice a1 l.length c1, .int .i64 pc.1, .int .i64 pc.2, .int .i64 v] W (RetSI W pt) by rw [HPT.out]; exact sPart_any _ l pc.1 pc.2 v W B (I1.out.below h hB) (Nat.le_trans hB h.size) hl)
  have CAp := hide (fun (W : World) (sv : Value) (h : Below w.heap.size w W) (h2 : Pvs W W.heap.size sv pt.1) => show Calls Try.prog 126 #[.agg #[.slice a1 l.length c1, .slice a2 r.length c2, .slice a3 ps.length c3], sv] W (RetOCB W L1 R1 ps (canSwap l r pt.1)) by rw [hL1, hR1]; exact sApply_any _ sv l r ps pt.1 W W.heap.size ((V.out.below h hB).mono (Nat.le_trans hB h.size)) h2 (Nat.le_refl _) hl hr hp)
  have CAd := hide (fun (W : World) (x : Value) (h : Ck W W.heap.size x L1 R1 ps) => show Calls Try.prog 127 #[x, .agg #[.int .i64 v, .int .i64 pt.2]] W (RetOCB W L1 R1 P1 (adOk L1 R1 ps (v, pt.2))) by rw [hP1]; exact sAdd_any x L1 R1 ps v pt.2 W W.heap.size h ⟨hvw, ⟨by have := HNM.out; omega, by have := HNM.out; omega⟩⟩ (Nat.le_refl _) HL1.out.1 HR1.out.1 hp)
  have HBD := hide hbd
  clear ht0 hbd hfd hpc hpt hL1 hR1 hP1 hnl hnr hnp hns hok hnum hpw wl wr wpl wp
  obtain ⟨f0, f1⟩ := fd
  obtain ⟨pa, pb⟩ := pc
  obtain ⟨sw, at0⟩ := pt
  simp only at HDV HNL HNR HNP HNS CT CAp CAd HNM HPW CP HPT
  obtain ⟨cs, hcs⟩ : ∃ t, t = canSwap l r sw := ⟨_, rfl⟩
  obtain ⟨ad, had⟩ : ∃ t, t = adOk L1 R1 ps (v, at0) := ⟨_, rfl⟩
  rw [← hcs] at CAp
  rw [← had] at CAd
  clear hcs had
  have X := hide (Kn.two w #[.slice a1 l.length c1, .slice a2 r.length c2, .slice a3 ps.length c3] #[.slice none 0 0, .slice none 0 0, .slice none 0 0] 25 25)
  obtain ⟨w1, hw1⟩ : ∃ w1, w1 = (w.alloc (.cells #[.slice a1 l.length c1, .slice a2 r.length c2, .slice a3 ps.length c3] 25)).alloc (.cells #[.slice none 0 0, .slice none 0 0, .slice none 0 0] 25) := ⟨_, rfl⟩
  have hz1 := hide (show w1.heap.size = w.heap.size + 1 + 1 by rw [hw1]; simp)
  rw [← hw1] at X
  have d0 : w1.cell? ⟨w.heap.size, 0, none⟩ = some (.slice a1 l.length c1) := X.out.cell 0 0 rfl rfl
  have d1 : w1.cell? ⟨w.heap.size, 1, none⟩ = some (.slice a2 r.length c2) := X.out.cell 0 1 rfl rfl
  have d2 : w1.cell? ⟨w.heap.size, 2, none⟩ = some (.slice a3 ps.length c3) := X.out.cell 0 2 rfl rfl
  rw [hw1] at d0 d1 d2
  go_enter Try.func53, Try.ntmps53
  go_wp2_with fail
  rw [← hw1]
  clear hw1 d0 d1 d2
  go_at_call 80
  refine (CK.out _ X.out.below).mono ?_
  rintro e w2 ⟨rfl, hb⟩
  have X := hide (X.out.up hb)
  have N2 := hide (Nat.le_trans (Nat.le_of_eq hz1.out.symm) hb.size)
  clear hb
  cases t0 with
  | false =>
    have d0 : w2.cell? ⟨w.heap.size, 0, none⟩ = some (.slice a1 l.length c1) := X.out.cell 0 0 rfl rfl
    have d1 : w2.cell? ⟨w.heap.size, 1, none⟩ = some (.slice a2 r.length c2) := X.out.cell 0 1 rfl rfl
    have d2 : w2.cell? ⟨w.heap.size, 2, none⟩ = some (.slice a3 ps.length c3) := X.out.cell 0 2 rfl rfl
    cases f1 with
    | false =>
      obtain rfl : nl = l := by simpa [Hid] using HNL
      obtain rfl : nr = r := by simpa [Hid] using HNR
      obtain rfl : np = ps := by simpa [Hid] using HNP
      obtain rfl : ns = [] := by simpa [Hid] using HNS
      obtain rfl : ok = false := by simpa [Hid] using HOK
      go_wp2_with fail
      go_at_call 94
      refine (CC.out _ X.out.below).mono ?_
      rintro e w8 ⟨x', y', z', lo', hi', n1', h1', n2', h2', n4, h4, rfl, q1, q2, O8, hb⟩
      obtain ⟨v1, j1, rfl⟩ := O8.x.form
      obtain ⟨v2, j2, rfl⟩ := O8.y.form
      obtain ⟨v3, j4, rfl⟩ := O8.z.own.form
      have K8 := hide (X.out.up hb)
      have P3 := hide (Nat.le_trans X.out.below.size q1)
      have P5 := hide (Nat.lt_of_lt_of_le (X.out.lt 1 rfl) q1)
      have O8 := hide O8
      clear d0 d1 d2 hb q1 q2 X
      have KA := hide (K8.out.alloc #[] 111)
      have OA := hide (O8.out.below (below1 w8 (.cells #[] 111)))
      have OM := hide (Osw.of (OwS.made w8 w8.heap.size (Nat.le_refl _)) (by simp))
      have g0 : (w8.alloc (.cells #[] 111)).cell? ⟨w.heap.size + 1, 0, none⟩ = some (.slice none 0 0) := KA.out.cell 1 0 rfl rfl
      have g1 : (w8.alloc (.cells #[] 111)).cell? ⟨w.heap.size + 1, 1, none⟩ = some (.slice none 0 0) := KA.out.cell 1 1 rfl rfl
      have g2 : (w8.alloc (.cells #[] 111)).cell? ⟨w.heap.size + 1, 2, none⟩ = some (.slice none 0 0) := KA.out.cell 1 2 rfl rfl
      have f0' : (w8.alloc (.cells #[] 111)).frozen? ⟨w.heap.size + 1, 0, none⟩ = false := KA.out.free 1 0 rfl
      have f1' : (w8.alloc (.cells #[] 111)).frozen? ⟨w.heap.size + 1, 1, none⟩ = false := KA.out.free 1 1 rfl
      have f2' : (w8.alloc (.cells #[] 111)).frozen? ⟨w.heap.size + 1, 2, none⟩ = false := KA.out.free 1 2 rfl
      go_wp2_with fail
      have Z := ((KA.out.set 1 0 rfl (.slice v1 nl.length j1)).set 1 1 rfl (.slice v2 nr.length j2)).set 1 2 rfl (.slice v3 np.length j4)
      have z0 := Z.cell 1 0 rfl rfl
      have z1 := Z.cell 1 1 rfl rfl
      have z2 := Z.cell 1 2 rfl rfl
      have P6 := Nat.le_trans P3.out (Nat.le_trans O8.out.top.1 O8.out.top.2)
      have P7 : w.heap.size + 1 + 1 ≤ w8.heap.size := Nat.le_trans P5.out (Nat.le_trans O8.out.top.1 O8.out.top.2)
      have O9 := OA.out.seg (seg3 _ (w.heap.size + 1) (.slice v1 nl.length j1) (.slice v2 nr.length j2) (.slice v3 np.length j4)) (.inr P5.out)
      have M9 := OM.out.seg (seg3 _ (w.heap.size + 1) (.slice v1 nl.length j1) (.slice v2 nr.length j2) (.slice v3 np.length j4)) (.inr P7)
      exact bodyPost_ret (v := .tuple #[.agg #[.slice v1 nl.length j1, .slice v2 nr.length j2, .slice v3 np.length j4], .slice (some ⟨w8.heap.size, 0, none⟩) 0 0, .bool false]) (by simp [results, Try.results53, go_sem, z0, z1, z2]) rfl
        ⟨_, _, _, _, lo', hi', n1', h1', n2', h2', n4, h4, _, _, rfl, ⟨P3.out, P6⟩, ⟨O9.top.2, M9.top⟩, O9, M9, .inl O8.out.top.2, Z.below⟩
    | true =>
      obtain rfl : nl = l := by simpa [Hid] using HNL
      obtain rfl : nr = r := by simpa [Hid] using HNR
      obtain rfl : np = ps := by simpa [Hid] using HNP
      obtain rfl : ns = [] := by simpa [Hid] using HNS
      obtain rfl : ok = false := by simpa [Hid] using HOK
      go_wp2_with fail
      go_at_call 94
      refine (CC.out _ X.out.below).mono ?_
      rintro e w8 ⟨x', y', z', lo', hi', n1', h1', n2', h2', n4, h4, rfl, q1, q2, O8, hb⟩
      obtain ⟨v1, j1, rfl⟩ := O8.x.form
      obtain ⟨v2, j2, rfl⟩ := O8.y.form
      obtain ⟨v3, j4, rfl⟩ := O8.z.own.form
      have K8 := hide (X.out.up hb)
      have P3 := hide (Nat.le_trans X.out.below.size q1)
      have P5 := hide (Nat.lt_of_lt_of_le (X.out.lt 1 rfl) q1)
      have O8 := hide O8
      clear d0 d1 d2 hb q1 q2 X
      have KA := hide (K8.out.alloc #[] 111)
      have OA := hide (O8.out.below (below1 w8 (.cells #[] 111)))
      have OM := hide (Osw.of (OwS.made w8 w8.heap.size (Nat.le_refl _)) (by simp))
      have g0 : (w8.alloc (.cells #[] 111)).cell? ⟨w.heap.size + 1, 0, none⟩ = some (.slice none 0 0) := KA.out.cell 1 0 rfl rfl
      have g1 : (w8.alloc (.cells #[] 111)).cell? ⟨w.heap.size + 1, 1, none⟩ = some (.slice none 0 0) := KA.out.cell 1 1 rfl rfl
      have g2 : (w8.alloc (.cells #[] 111)).cell? ⟨w.heap.size + 1, 2, none⟩ = some (.slice none 0 0) := KA.out.cell 1 2 rfl rfl
      have f0' : (w8.alloc (.cells #[] 111)).frozen? ⟨w.heap.size + 1, 0, none⟩ = false := KA.out.free 1 0 rfl
      have f1' : (w8.alloc (.cells #[] 111)).frozen? ⟨w.heap.size + 1, 1, none⟩ = false := KA.out.free 1 1 rfl
      have f2' : (w8.alloc (.cells #[] 111)).frozen? ⟨w.heap.size + 1, 2, none⟩ = false := KA.out.free 1 2 rfl
      go_wp2_with fail
      have Z := ((KA.out.set 1 0 rfl (.slice v1 nl.length j1)).set 1 1 rfl (.slice v2 nr.length j2)).set 1 2 rfl (.slice v3 np.length j4)
      have z0 := Z.cell 1 0 rfl rfl
      have z1 := Z.cell 1 1 rfl rfl
      have z2 := Z.cell 1 2 rfl rfl
      have P6 := Nat.le_trans P3.out (Nat.le_trans O8.out.top.1 O8.out.top.2)
      have P7 : w.heap.size + 1 + 1 ≤ w8.heap.size := Nat.le_trans P5.out (Nat.le_trans O8.out.top.1 O8.out.top.2)
      have O9 := OA.out.seg (seg3 _ (w.heap.size + 1) (.slice v1 nl.length j1) (.slice v2 nr.length j2) (.slice v3 np.length j4)) (.inr P5.out)
      have M9 := OM.out.seg (seg3 _ (w.heap.size + 1) (.slice v1 nl.length j1) (.slice v2 nr.length j2) (.slice v3 np.length j4)) (.inr P7)
      exact bodyPost_ret (v := .tuple #[.agg #[.slice v1 nl.length j1, .slice v2 nr.length j2, .slice v3 np.length j4], .slice (some ⟨w8.heap.size, 0, none⟩) 0 0, .bool false]) (by simp [results, Try.results53, go_sem, z0, z1, z2]) rfl
        ⟨_, _, _, _, lo', hi', n1', h1', n2', h2', n4, h4, _, _, rfl, ⟨P3.out, P6⟩, ⟨O9.top.2, M9.top⟩, O9, M9, .inl O8.out.top.2, Z.below⟩
  | true =>
    cases bd with
    | false =>
      have d0 : w2.cell? ⟨w.heap.size, 0, none⟩ = some (.slice a1 l.length c1) := X.out.cell 0 0 rfl rfl
      have d1 : w2.cell? ⟨w.heap.size, 1, none⟩ = some (.slice a2 r.length c2) := X.out.cell 0 1 rfl rfl
      have d2 : w2.cell? ⟨w.heap.size, 2, none⟩ = some (.slice a3 ps.length c3) := X.out.cell 0 2 rfl rfl
      have hvb := of_decide_eq_false HBD.out.symm
      have CB := hide (fun (W : World) => in_no v (-1000) 1000 W (by omega))
      clear hvb
      go_wp2_with fail
      go_at_call 81
      refine (CB.out _).mono ?_
      rintro e wq ⟨rfl, rfl⟩
      cases f1 with
      | false =>
        obtain rfl : nl = l := by simpa [Hid] using HNL
        obtain rfl : nr = r := by simpa [Hid] using HNR
        obtain rfl : np = ps := by simpa [Hid] using HNP
        obtain rfl : ns = [] := by simpa [Hid] using HNS
        obtain rfl : ok = false := by simpa [Hid] using HOK
        go_wp2_with fail
        go_at_call 94
        refine (CC.out _ X.out.below).mono ?_
        rintro e w8 ⟨x', y', z', lo', hi', n1', h1', n2', h2', n4, h4, rfl, q1, q2, O8, hb⟩
        obtain ⟨v1, j1, rfl⟩ := O8.x.form
        obtain ⟨v2, j2, rfl⟩ := O8.y.form
        obtain ⟨v3, j4, rfl⟩ := O8.z.own.form
        have K8 := hide (X.out.up hb)
        have P3 := hide (Nat.le_trans X.out.below.size q1)
        have P5 := hide (Nat.lt_of_lt_of_le (X.out.lt 1 rfl) q1)
        have O8 := hide O8
        clear d0 d1 d2 hb q1 q2 X
        have KA := hide (K8.out.alloc #[] 111)
        have OA := hide (O8.out.below (below1 w8 (.cells #[] 111)))
        have OM := hide (Osw.of (OwS.made w8 w8.heap.size (Nat.le_refl _)) (by simp))
        have g0 : (w8.alloc (.cells #[] 111)).cell? ⟨w.heap.size + 1, 0, none⟩ = some (.slice none 0 0) := KA.out.cell 1 0 rfl rfl
        have g1 : (w8.alloc (.cells #[] 111)).cell? ⟨w.heap.size + 1, 1, none⟩ = some (.slice none 0 0) := KA.out.cell 1 1 rfl rfl
        have g2 : (w8.alloc (.cells #[] 111)).cell? ⟨w.heap.size + 1, 2, none⟩ = some (.slice none 0 0) := KA.out.cell 1 2 rfl rfl
        have f0' : (w8.alloc (.cells #[] 111)).frozen? ⟨w.heap.size + 1, 0, none⟩ = false := KA.out.free 1 0 rfl
        have f1' : (w8.alloc (.cells #[] 111)).frozen? ⟨w.heap.size + 1, 1, none⟩ = false := KA.out.free 1 1 rfl
        have f2' : (w8.alloc (.cells #[] 111)).frozen? ⟨w.heap.size + 1, 2, none⟩ = false := KA.out.free 1 2 rfl
        go_wp2_with fail
        have Z := ((KA.out.set 1 0 rfl (.slice v1 nl.length j1)).set 1 1 rfl (.slice v2 nr.length j2)).set 1 2 rfl (.slice v3 np.length j4)
        have z0 := Z.cell 1 0 rfl rfl
        have z1 := Z.cell 1 1 rfl rfl
        have z2 := Z.cell 1 2 rfl rfl
        have P6 := Nat.le_trans P3.out (Nat.le_trans O8.out.top.1 O8.out.top.2)
        have P7 : w.heap.size + 1 + 1 ≤ w8.heap.size := Nat.le_trans P5.out (Nat.le_trans O8.out.top.1 O8.out.top.2)
        have O9 := OA.out.seg (seg3 _ (w.heap.size + 1) (.slice v1 nl.length j1) (.slice v2 nr.length j2) (.slice v3 np.length j4)) (.inr P5.out)
        have M9 := OM.out.seg (seg3 _ (w.heap.size + 1) (.slice v1 nl.length j1) (.slice v2 nr.length j2) (.slice v3 np.length j4)) (.inr P7)
        exact bodyPost_ret (v := .tuple #[.agg #[.slice v1 nl.length j1, .slice v2 nr.length j2, .slice v3 np.length j4], .slice (some ⟨w8.heap.size, 0, none⟩) 0 0, .bool false]) (by simp [results, Try.results53, go_sem, z0, z1, z2]) rfl
          ⟨_, _, _, _, lo', hi', n1', h1', n2', h2', n4, h4, _, _, rfl, ⟨P3.out, P6⟩, ⟨O9.top.2, M9.top⟩, O9, M9, .inl O8.out.top.2, Z.below⟩
      | true =>
        obtain rfl : nl = l := by simpa [Hid] using HNL
        obtain rfl : nr = r := by simpa [Hid] using HNR
        obtain rfl : np = ps := by simpa [Hid] using HNP
        obtain rfl : ns = [] := by simpa [Hid] using HNS
        obtain rfl : ok = false := by simpa [Hid] using HOK
        go_wp2_with fail
        go_at_call 94
        refine (CC.out _ X.out.below).mono ?_
        rintro e w8 ⟨x', y', z', lo', hi', n1', h1', n2', h2', n4, h4, rfl, q1, q2, O8, hb⟩
        obtain ⟨v1, j1, rfl⟩ := O8.x.form
        obtain ⟨v2, j2, rfl⟩ := O8.y.form
        obtain ⟨v3, j4, rfl⟩ := O8.z.own.form
        have K8 := hide (X.out.up hb)
        have P3 := hide (Nat.le_trans X.out.below.size q1)
        have P5 := hide (Nat.lt_of_lt_of_le (X.out.lt 1 rfl) q1)
        have O8 := hide O8
        clear d0 d1 d2 hb q1 q2 X
        have KA := hide (K8.out.alloc #[] 111)
        have OA := hide (O8.out.below (below1 w8 (.cells #[] 111)))
        have OM := hide (Osw.of (OwS.made w8 w8.heap.size (Nat.le_refl _)) (by simp))
        have g0 : (w8.alloc (.cells #[] 111)).cell? ⟨w.heap.size + 1, 0, none⟩ = some (.slice none 0 0) := KA.out.cell 1 0 rfl rfl
        have g1 : (w8.alloc (.cells #[] 111)).cell? ⟨w.heap.size + 1, 1, none⟩ = some (.slice none 0 0) := KA.out.cell 1 1 rfl rfl
        have g2 : (w8.alloc (.cells #[] 111)).cell? ⟨w.heap.size + 1, 2, none⟩ = some (.slice none 0 0) := KA.out.cell 1 2 rfl rfl
        have f0' : (w8.alloc (.cells #[] 111)).frozen? ⟨w.heap.size + 1, 0, none⟩ = false := KA.out.free 1 0 rfl
        have f1' : (w8.alloc (.cells #[] 111)).frozen? ⟨w.heap.size + 1, 1, none⟩ = false := KA.out.free 1 1 rfl
        have f2' : (w8.alloc (.cells #[] 111)).frozen? ⟨w.heap.size + 1, 2, none⟩ = false := KA.out.free 1 2 rfl
        go_wp2_with fail
        have Z := ((KA.out.set 1 0 rfl (.slice v1 nl.length j1)).set 1 1 rfl (.slice v2 nr.length j2)).set 1 2 rfl (.slice v3 np.length j4)
        have z0 := Z.cell 1 0 rfl rfl
        have z1 := Z.cell 1 1 rfl rfl
        have z2 := Z.cell 1 2 rfl rfl
        have P6 := Nat.le_trans P3.out (Nat.le_trans O8.out.top.1 O8.out.top.2)
        have P7 : w.heap.size + 1 + 1 ≤ w8.heap.size := Nat.le_trans P5.out (Nat.le_trans O8.out.top.1 O8.out.top.2)
        have O9 := OA.out.seg (seg3 _ (w.heap.size + 1) (.slice v1 nl.length j1) (.slice v2 nr.length j2) (.slice v3 np.length j4)) (.inr P5.out)
        have M9 := OM.out.seg (seg3 _ (w.heap.size + 1) (.slice v1 nl.length j1) (.slice v2 nr.length j2) (.slice v3 np.length j4)) (.inr P7)
        exact bodyPost_ret (v := .tuple #[.agg #[.slice v1 nl.length j1, .slice v2 nr.length j2, .slice v3 np.length j4], .slice (some ⟨w8.heap.size, 0, none⟩) 0 0, .bool false]) (by simp [results, Try.results53, go_sem, z0, z1, z2]) rfl
          ⟨_, _, _, _, lo', hi', n1', h1', n2', h2', n4, h4, _, _, rfl, ⟨P3.out, P6⟩, ⟨O9.top.2, M9.top⟩, O9, M9, .inl O8.out.top.2, Z.below⟩
    | true =>
      have d0 : w2.cell? ⟨w.heap.size, 0, none⟩ = some (.slice a1 l.length c1) := X.out.cell 0 0 rfl rfl
      have d1 : w2.cell? ⟨w.heap.size, 1, none⟩ = some (.slice a2 r.length c2) := X.out.cell 0 1 rfl rfl
      have d2 : w2.cell? ⟨w.heap.size, 2, none⟩ = some (.slice a3 ps.length c3) := X.out.cell 0 2 rfl rfl
      have hvb := of_decide_eq_true HBD.out.symm
      have CB := hide (fun (W : World) => in_yes v (-1000) 1000 W hvb.1 hvb.2)
      clear hvb
      go_wp2_with fail
      go_at_call 81
      refine (CB.out _).mono ?_
      rintro e wq ⟨rfl, rfl⟩
      go_wp2_with fail
      go_at_call 123
      refine (CF.out _ X.out.below).mono ?_
      rintro e w3 ⟨rfl, hb⟩
      have X := hide (X.out.up hb)
      have N3 := hide (Nat.le_trans N2.out hb.size)
      clear hb d0 d1 d2
      have d0 : w3.cell? ⟨w.heap.size, 0, none⟩ = some (.slice a1 l.length c1) := X.out.cell 0 0 rfl rfl
      have d1 : w3.cell? ⟨w.heap.size, 1, none⟩ = some (.slice a2 r.length c2) := X.out.cell 0 1 rfl rfl
      have d2 : w3.cell? ⟨w.heap.size, 2, none⟩ = some (.slice a3 ps.length c3) := X.out.cell 0 2 rfl rfl
      cases f1 with
      | true =>
        obtain rfl : nl = l := by simpa [Hid] using HNL
        obtain rfl : nr = r := by simpa [Hid] using HNR
        obtain rfl : np = ps := by simpa [Hid] using HNP
        obtain rfl : ns = [] := by simpa [Hid] using HNS
        obtain rfl : ok = true := by simpa [Hid] using HOK
        go_wp2_with fail
        go_at_call 94
        refine (CC.out _ X.out.below).mono ?_
        rintro e w8 ⟨x', y', z', lo', hi', n1', h1', n2', h2', n4, h4, rfl, q1, q2, O8, hb⟩
        obtain ⟨v1, j1, rfl⟩ := O8.x.form
        obtain ⟨v2, j2, rfl⟩ := O8.y.form
        obtain ⟨v3, j4, rfl⟩ := O8.z.own.form
        have K8 := hide (X.out.up hb)
        have P3 := hide (Nat.le_trans X.out.below.size q1)
        have P5 := hide (Nat.lt_of_lt_of_le (X.out.lt 1 rfl) q1)
        have O8 := hide O8
        clear d0 d1 d2 hb q1 q2 X
        have KA := hide (K8.out.alloc #[] 111)
        have OA := hide (O8.out.below (below1 w8 (.cells #[] 111)))
        have OM := hide (Osw.of (OwS.made w8 w8.heap.size (Nat.le_refl _)) (by simp))
        have g0 : (w8.alloc (.cells #[] 111)).cell? ⟨w.heap.size + 1, 0, none⟩ = some (.slice none 0 0) := KA.out.cell 1 0 rfl rfl
        have g1 : (w8.alloc (.cells #[] 111)).cell? ⟨w.heap.size + 1, 1, none⟩ = some (.slice none 0 0) := KA.out.cell 1 1 rfl rfl
        have g2 : (w8.alloc (.cells #[] 111)).cell? ⟨w.heap.size + 1, 2, none⟩ = some (.slice none 0 0) := KA.out.cell 1 2 rfl rfl
        have f0' : (w8.alloc (.cells #[] 111)).frozen? ⟨w.heap.size + 1, 0, none⟩ = false := KA.out.free 1 0 rfl
        have f1' : (w8.alloc (.cells #[] 111)).frozen? ⟨w.heap.size + 1, 1, none⟩ = false := KA.out.free 1 1 rfl
        have f2' : (w8.alloc (.cells #[] 111)).frozen? ⟨w.heap.size + 1, 2, none⟩ = false := KA.out.free 1 2 rfl
        go_wp2_with fail
        have Z := ((KA.out.set 1 0 rfl (.slice v1 nl.length j1)).set 1 1 rfl (.slice v2 nr.length j2)).set 1 2 rfl (.slice v3 np.length j4)
        have z0 := Z.cell 1 0 rfl rfl
        have z1 := Z.cell 1 1 rfl rfl
        have z2 := Z.cell 1 2 rfl rfl
        have P6 := Nat.le_trans P3.out (Nat.le_trans O8.out.top.1 O8.out.top.2)
        have P7 : w.heap.size + 1 + 1 ≤ w8.heap.size := Nat.le_trans P5.out (Nat.le_trans O8.out.top.1 O8.out.top.2)
        have O9 := OA.out.seg (seg3 _ (w.heap.size + 1) (.slice v1 nl.length j1) (.slice v2 nr.length j2) (.slice v3 np.length j4)) (.inr P5.out)
        have M9 := OM.out.seg (seg3 _ (w.heap.size + 1) (.slice v1 nl.length j1) (.slice v2 nr.length j2) (.slice v3 np.length j4)) (.inr P7)
        exact bodyPost_ret (v := .tuple #[.agg #[.slice v1 nl.length j1, .slice v2 nr.length j2, .slice v3 np.length j4], .slice (some ⟨w8.heap.size, 0, none⟩) 0 0, .bool true]) (by simp [results, Try.results53, go_sem, z0, z1, z2]) rfl
          ⟨_, _, _, _, lo', hi', n1', h1', n2', h2', n4, h4, _, _, rfl, ⟨P3.out, P6⟩, ⟨O9.top.2, M9.top⟩, O9, M9, .inl O8.out.top.2, Z.below⟩
      | false =>
        obtain rfl : nl = L1 := by simpa [Hid] using HNL
        obtain rfl : nr = R1 := by simpa [Hid] using HNR
        obtain rfl : np = P1 := by simpa [Hid] using HNP
        obtain rfl : ns = sw := by simpa [Hid] using HNS
        obtain rfl : ok = true := by simpa [Hid] using HOK
        go_wp2_with fail
        go_at_call 124
        refine (CP.out _ X.out.below).mono ?_
        rintro e w4 ⟨rfl, hb⟩
        have X := hide (X.out.up hb)
        have N4 := hide (Nat.le_trans N3.out hb.size)
        clear hb d0 d1 d2
        have d0 : w4.cell? ⟨w.heap.size, 0, none⟩ = some (.slice a1 l.length c1) := X.out.cell 0 0 rfl rfl
        have d1 : w4.cell? ⟨w.heap.size, 1, none⟩ = some (.slice a2 r.length c2) := X.out.cell 0 1 rfl rfl
        have d2 : w4.cell? ⟨w.heap.size, 2, none⟩ = some (.slice a3 ps.length c3) := X.out.cell 0 2 rfl rfl
        go_wp2_with fail
        go_at_call 125
        refine (CT.out _ X.out.below).mono ?_
        rintro e w5 ⟨sv, rfl, OS, hb⟩
        obtain ⟨sg, sk, rfl⟩ := OS.form
        have X := hide (X.out.up hb)
        have OS := hide (Osw.of OS hb.size)
        have N5 := hide hb.size
        clear hb d0 d1 d2
        have d0 : w5.cell? ⟨w.heap.size, 0, none⟩ = some (.slice a1 l.length c1) := X.out.cell 0 0 rfl rfl
        have d1 : w5.cell? ⟨w.heap.size, 1, none⟩ = some (.slice a2 r.length c2) := X.out.cell 0 1 rfl rfl
        have d2 : w5.cell? ⟨w.heap.size, 2, none⟩ = some (.slice a3 ps.length c3) := X.out.cell 0 2 rfl rfl
        go_wp2_with fail
        go_at_call 126
        refine (CAp.out _ _ X.out.below (OS.out.own.pvs (Nat.le_refl _) (by have := HNM.out.2.1; omega) HPW.out)).mono ?_
        rintro e w6 ⟨x, y, z, lo, hi, n1, h1, n2, h2, n3, h3, rfl, q1, q2, O, hb⟩
        obtain ⟨x1, k1, rfl⟩ := O.x.form
        obtain ⟨x2, k2, rfl⟩ := O.y.form
        obtain ⟨x3, k3, rfl⟩ := O.z.own.form
        have X := hide (X.out.up hb)
        have OS := hide (OS.out.below hb)
        have HC := hide (O.ck HL1.out.2 HR1.out.2 (by omega) HWP.out)
        clear d0 d1 d2 O q1 q2
        have hs6 := hide hb.size
        clear hb
        have bl := below1 w6 (.cells #[.slice x1 nl.length k1, .slice x2 nr.length k2, .slice x3 ps.length k3] 25)
        have X := hide (X.out.alloc #[.slice x1 nl.length k1, .slice x2 nr.length k2, .slice x3 ps.length k3] 25)
        have OS := hide (OS.out.below bl)
        have HC := hide (HC.out.up bl)
        clear bl
        obtain ⟨m, hm⟩ : ∃ m, m = w6.heap.size := ⟨_, rfl⟩
        obtain ⟨w7, hw7⟩ : ∃ q, q = w6.alloc (.cells #[.slice x1 nl.length k1, .slice x2 nr.length k2, .slice x3 ps.length k3] 25) := ⟨_, rfl⟩
        have hs7 := hide (show w7.heap.size = m + 1 by rw [hw7, hm]; simp)
        rw [← hw7] at X OS HC
        rw [← hm] at X
        have hs6 := hide (show w5.heap.size ≤ m by rw [hm]; exact hs6.out)
        simp only [List.cons_append, List.nil_append] at X
        go_wp2_with fail
        rw [← hw7]
        try rw [← hm]
        clear hw7 hm
        go_at_call 127
        refine (CAd.out _ _ HC.out).mono ?_
        rintro e w8 ⟨x', y', z', lo, hi, n1, h1, n2, h2, n3, h3, rfl, q1, q2, O, hb⟩
        obtain ⟨v1, j1, rfl⟩ := O.x.form
        obtain ⟨v2, j2, rfl⟩ := O.y.form
        obtain ⟨v3, j3, rfl⟩ := O.z.own.form
        have K8 := hide (X.out.up hb)
        have OS := hide (OS.out.below hb)
        have Q1 := hide (show m + 1 ≤ lo by rw [← hs7.out]; exact q1)
        have O := hide O
        clear hb q1 q2 X HC
        have KA := hide (K8.out.alloc #[.slice v1 nl.length j1, .slice v2 nr.length j2, .slice v3 np.length j3] 25)
        have bl := below1 w8 (.cells #[.slice v1 nl.length j1, .slice v2 nr.length j2, .slice v3 np.length j3] 25)
        have O := hide (O.out.below bl)
        have OS := hide (OS.out.below bl)
        clear bl
        have g0 : (w8.alloc (.cells #[.slice v1 nl.length j1, .slice v2 nr.length j2, .slice v3 np.length j3] 25)).cell? ⟨w.heap.size + 1, 0, none⟩ = some (.slice none 0 0) := KA.out.cell 1 0 rfl rfl
        have g1 : (w8.alloc (.cells #[.slice v1 nl.length j1, .slice v2 nr.length j2, .slice v3 np.length j3] 25)).cell? ⟨w.heap.size + 1, 1, none⟩ = some (.slice none 0 0) := KA.out.cell 1 1 rfl rfl
        have g2 : (w8.alloc (.cells #[.slice v1 nl.length j1, .slice v2 nr.length j2, .slice v3 np.length j3] 25)).cell? ⟨w.heap.size + 1, 2, none⟩ = some (.slice none 0 0) := KA.out.cell 1 2 rfl rfl
        have f0' : (w8.alloc (.cells #[.slice v1 nl.length j1, .slice v2 nr.length j2, .slice v3 np.length j3] 25)).frozen? ⟨w.heap.size + 1, 0, none⟩ = false := KA.out.free 1 0 rfl
        have f1' : (w8.alloc (.cells #[.slice v1 nl.length j1, .slice v2 nr.length j2, .slice v3 np.length j3] 25)).frozen? ⟨w.heap.size + 1, 1, none⟩ = false := KA.out.free 1 1 rfl
        have f2' : (w8.alloc (.cells #[.slice v1 nl.length j1, .slice v2 nr.length j2, .slice v3 np.length j3] 25)).frozen? ⟨w.heap.size + 1, 2, none⟩ = false := KA.out.free 1 2 rfl
        have Z := ((KA.out.set 1 0 rfl (.slice v1 nl.length j1)).set 1 1 rfl (.slice v2 nr.length j2)).set 1 2 rfl (.slice v3 np.length j3)
        have z0 := Z.cell 1 0 rfl rfl
        have z1 := Z.cell 1 1 rfl rfl
        have z2 := Z.cell 1 2 rfl rfl
        have HZ := hide Z
        have Q0 := hide (show w.heap.size + 1 + 1 ≤ lo by have := N4.out; have := N5.out; have := hs6.out; have := Q1.out; omega)
        have Q2 := hide (show w.heap.size + 1 + 1 ≤ w4.heap.size from N4.out)
        have hs56 := hide (show w5.heap.size ≤ m from hs6.out)
        clear Z
        go_wp2_with fail
        have O2 := hide (O.out.seg (seg3 _ (w.heap.size + 1) (.slice v1 nl.length j1) (.slice v2 nr.length j2) (.slice v3 np.length j3)) (.inr Q0.out))
        have T2 := hide (OS.out.seg (seg3 _ (w.heap.size + 1) (.slice v1 nl.length j1) (.slice v2 nr.length j2) (.slice v3 np.length j3)) (.inr Q2.out))
        exact bodyPost_ret (v := .tuple #[.agg #[.slice v1 nl.length j1, .slice v2 nr.length j2, .slice v3 np.length j3], .slice sg ns.length sk, .bool true]) (by simp [results, Try.results53, go_sem, z0, z1, z2]) rfl
          ⟨_, _, _, _, lo, hi, n1, h1, n2, h2, n3, h3, _, _, rfl, ⟨by have := Q0.out; omega, by have := Q2.out; omega⟩, ⟨O2.out.top.2, T2.out.top⟩, O2.out, T2.out, .inr (by have := Q1.out; have := hs56.out; omega), HZ.out.below⟩

end Go.Proofs.Ytepkkeclkdlheaa

/- What CrackMap of the reference returns (gen_cm.py; promise 8). -/
namespace Go.Proofs.Ytepkkeclkdlheaa
open Go.RowKit Go.ChangeShapes
set_option linter.unusedSimpArgs false
set_option linter.unusedVariables false
set_option maxRecDepth 100000

/-- A new map of the call's own and a bool are returned; nothing that was there has turned. -/
def RetMpB (w : World) (l r : List Int) (ps : List Pv) (t : List Int) (a : Int) (b : Bool) (e : Ending) (w' : World) : Prop := ∃ u, e = .returned (.tuple #[u, .bool b]) ∧ MpO w' u l r ps t a w.heap.size w'.heap.size ∧ Below w.heap.size w w'

/-- What CrackMap leaves where it does not divide, and where it may. -/
theorem mc_no {l r : List Int} {ps : List Pv} {t : List Int} {a v : Int} (h : (isMp l r ps t a && decide (-1000 ≤ v ∧ v ≤ 1000)) = false) : mcL l r ps t a v = l ∧ mcR l r ps t a v = r ∧ mcP l r ps t a v = ps ∧ mcT l r ps t a v = t ∧ mcB l r ps t a v = false := by
  unfold mcL mcR mcP mcT mcB
  by_cases h1 : isMp l r ps t a = true
  · rw [h1, Bool.true_and] at h
    have hv : ¬ (-1000 ≤ v ∧ v ≤ 1000) := of_decide_eq_false h
    obtain ⟨e1, e2, e3, e4⟩ := crack_out (l := l) (r := r) (ps := ps) hv
    rw [if_pos h1, if_pos h1, if_pos h1, if_pos h1, e1, e2, e3, e4, h1, h]
    exact ⟨rfl, rfl, rfl, rfl, rfl⟩
  · rw [if_neg h1, if_neg h1, if_neg h1, if_neg h1, h]
    exact ⟨rfl, rfl, rfl, rfl, rfl⟩
theorem mc_yes {l r : List Int} {ps : List Pv} {t : List Int} {a v : Int} (h1 : isMp l r ps t a = true) : mcL l r ps t a v = crL l r ps v ∧ mcR l r ps t a v = crR l r ps v ∧ mcP l r ps t a v = crP l r ps v ∧ mcT l r ps t a v = swaps t (crS l r ps v) := by
  unfold mcL mcR mcP mcT
  rw [if_pos h1, if_pos h1, if_pos h1, if_pos h1]
  exact ⟨rfl, rfl, rfl, rfl⟩

set_option maxHeartbeats 8000000 in
theorem sCm_any (u : Value) (l r : List Int) (ps : List Pv) (t : List Int) (a v : Int) (w : World) (B : Nat) (hu : Mp w B u l r ps t a) (hB : B ≤ w.heap.size) (k1 : l.length ≤ 1048576) (k2 : r.length ≤ 1048576) (k3 : ps.length ≤ 1048576) (k4 : t.length ≤ 1048576) (hv : I64 v) :
    Calls Try.prog 27 #[u, .int .i64 v] w (RetMpB w (mcL l r ps t a v) (mcR l r ps t a v) (mcP l r ps t a v) (mcT l r ps t a v) a (mcB l r ps t a v)) := by
  obtain ⟨a1, c1, a2, c2, a3, c3, a4, c4, rfl, i1, i2⟩ := hu.form
  have V := hide (fun (W : World) (h : Below w.heap.size w W) => hu.below h hB)
  have I1 := hide (fun (W : World) (h : Below w.heap.size w W) => i1.below h hB)
  obtain ⟨⟨wl, wr_, wpl, wp⟩, wt, wa⟩ := hu.wf
  obtain ⟨t1, ht1⟩ : ∃ q, q = isMp l r ps t a := ⟨_, rfl⟩
  obtain ⟨t2, ht2⟩ : ∃ q, q = decide (-1000 ≤ v ∧ v ≤ 1000) := ⟨_, rfl⟩
  obtain ⟨L, hL⟩ : ∃ q, q = mcL l r ps t a v := ⟨_, rfl⟩
  obtain ⟨R, hR⟩ : ∃ q, q = mcR l r ps t a v := ⟨_, rfl⟩
  obtain ⟨P, hP⟩ : ∃ q, q = mcP l r ps t a v := ⟨_, rfl⟩
  obtain ⟨T, hT⟩ : ∃ q, q = mcT l r ps t a v := ⟨_, rfl⟩
  obtain ⟨D, hD⟩ : ∃ q, q = mcB l r ps t a v := ⟨_, rfl⟩
  have HNO := hide (fun (h : (t1 && t2) = false) => show L = l ∧ R = r ∧ P = ps ∧ T = t ∧ D = false by rw [ht1, ht2] at h; rw [hL, hR, hP, hT, hD]; exact mc_no h)
  obtain ⟨sw, hsw⟩ : ∃ q, q = crS l r ps v := ⟨_, rfl⟩
  have HYE := hide (fun (h : t1 = true) => show (L = crL l r ps v ∧ R = crR l r ps v ∧ P = crP l r ps v ∧ T = swaps t sw) ∧ D = t2 ∧ t.length = l.length ∧ crOk l r ps v = t2 by
    rw [ht1] at h
    rw [hL, hR, hP, hT, hD, hsw, ht2]
    refine ⟨mc_yes h, ?_, (isMp_iff.1 h).2.2.1, ?_⟩
    · unfold mcB; rw [h]; rfl
    · unfold crOk; rw [(isMp_iff.1 h).1]; rfl)
  have HCW := hide (crack_wf l r ps v k1 k2 k3 wl wr_ wp hv)
  have HSI := hide (crS_in (r := r) (ps := ps) (v := v) k1)
  rw [← hsw] at HCW HSI
  rw [← hL, ← hR, ← hP, ← hT, ← hD]
  have Ht1 := hide ht1
  have Ht2 := hide ht2
  have HSW := hide hsw
  clear hL hR hP hT hD i1 i2 hu ht1 ht2 wl wr_ wpl wp wt wa hsw
  have X := hide (Kn.two w #[.slice a1 l.length c1, .slice a2 r.length c2, .slice a3 ps.length c3, .slice a4 t.length c4, .int .i64 a] #[.slice none 0 0, .slice none 0 0, .slice none 0 0, .slice none 0 0, .int .i64 0] 27 27)
  obtain ⟨u0, hu0⟩ : ∃ q, q = (w.alloc (.cells #[.slice a1 l.length c1, .slice a2 r.length c2, .slice a3 ps.length c3, .slice a4 t.length c4, .int .i64 a] 27)).alloc (.cells #[.slice none 0 0, .slice none 0 0, .slice none 0 0, .slice none 0 0, .int .i64 0] 27) := ⟨_, rfl⟩
  rw [← hu0] at X
  have z0 := hide (show u0.heap.size = w.heap.size + 1 + 1 by rw [hu0]; simp)
  have d0 := X.out.cell 0 0 rfl rfl
  have d1 := X.out.cell 0 1 rfl rfl
  have d2 := X.out.cell 0 2 rfl rfl
  have d3 := X.out.cell 0 3 rfl rfl
  have d4 := X.out.cell 0 4 rfl rfl
  go_enter Try.func27, Try.ntmps27
  go_wp2_with fail
  rw [← hu0]
  clear hu0
  go_at_call 83
  refine (sMpCopy_any _ l r ps t a _ B (V.out _ X.out.below) (Nat.le_trans hB X.out.below.size) k1 k2 k3 k4).mono ?_
  rintro e u1 ⟨q1, rfl, ⟨y1, y2, y3, x, n1, h1, n2, h2, rfl, o1, o2, p, p6, p7⟩, hb⟩
  obtain ⟨x1, m1, x2, m2, x3, m3, e⟩ := o1.form
  injection e with e
  injection e with e
  injection e with e1 e
  injection e with e2 e
  injection e with e3 e
  subst e1 e2 e3
  clear e
  obtain ⟨x4, m4, rfl⟩ := o2.form
  have z1 := hide hb.size
  have HP := hide p
  have X1 := X.out.up hb
  clear p p6 p7 hb
  clear d0 d1 d2 d3 d4
  have X := hide (X1.alloc #[.slice x1 l.length m1, .slice x2 r.length m2, .slice x3 ps.length m3, .slice x4 t.length m4, .int .i64 a] 27)
  clear X1
  have hbl := below1 u1 (.cells #[.slice x1 l.length m1, .slice x2 r.length m2, .slice x3 ps.length m3, .slice x4 t.length m4, .int .i64 a] 27)
  have O1 := hide (o1.below hbl)
  have O2 := hide (o2.below hbl)
  clear o1 o2 hbl
  obtain ⟨u2, hu2⟩ : ∃ q, q = u1.alloc (.cells #[.slice x1 l.length m1, .slice x2 r.length m2, .slice x3 ps.length m3, .slice x4 t.length m4, .int .i64 a] 27) := ⟨_, rfl⟩
  obtain ⟨b6, hb6⟩ : ∃ q, q = u1.heap.size := ⟨_, rfl⟩
  have z2 := hide (show b6 = u1.heap.size ∧ u2.heap.size = b6 + 1 by rw [hu2, hb6]; simp)
  rw [← hu2] at X O1 O2
  rw [← hb6] at X
  simp only [List.cons_append, List.nil_append] at X
  have d0 := X.out.cell 0 0 rfl rfl
  have d1 := X.out.cell 0 1 rfl rfl
  have d2 := X.out.cell 0 2 rfl rfl
  have d3 := X.out.cell 0 3 rfl rfl
  have d4 := X.out.cell 0 4 rfl rfl
  rw [hu2] at d0 d1 d2 d3 d4
  go_wp2_with fail
  rw [← hu2]
  try rw [← hb6]
  clear hu2 hb6
  go_at_call 24
  refine (sIsMp_any _ l r t ps a _ B (V.out _ X.out.below) (Nat.le_trans hB X.out.below.size)).mono ?_
  rintro e u3 ⟨rfl, hb⟩
  rw [← Ht1.out]
  have X := hide (X.out.up hb)
  have O1 := hide (O1.out.below hb)
  have O2 := hide (O2.out.below hb)
  have z3 := hide hb.size
  clear hb
  clear d0 d1 d2 d3 d4
  cases t1
  · skip
    have d0 := X.out.cell 2 0 rfl rfl
    have d1 := X.out.cell 2 1 rfl rfl
    have d2 := X.out.cell 2 2 rfl rfl
    have d3 := X.out.cell 2 3 rfl rfl
    have d4 := X.out.cell 2 4 rfl rfl
    have c0 := X.out.cell 1 0 rfl rfl
    have c1 := X.out.cell 1 1 rfl rfl
    have c2 := X.out.cell 1 2 rfl rfl
    have c3 := X.out.cell 1 3 rfl rfl
    have c4 := X.out.cell 1 4 rfl rfl
    have fc0 := X.out.free 1 0 rfl
    have fc1 := X.out.free 1 1 rfl
    have fc2 := X.out.free 1 2 rfl
    have fc3 := X.out.free 1 3 rfl
    have fc4 := X.out.free 1 4 rfl
    have Z := (((((X.out.set 1 0 rfl (.slice x1 l.length m1)).set 1 1 rfl (.slice x2 r.length m2)).set 1 2 rfl (.slice x3 ps.length m3)).set 1 3 rfl (.slice x4 t.length m4)).set 1 4 rfl (.int .i64 a))
    have y0 := Z.cell 1 0 rfl rfl
    have y1 := Z.cell 1 1 rfl rfl
    have y2 := Z.cell 1 2 rfl rfl
    have y3 := Z.cell 1 3 rfl rfl
    have y4 := Z.cell 1 4 rfl rfl
    have sg : Seg (w.heap.size + 1) (w.heap.size + 1 + 1) u3 (((((u3.setCell ⟨w.heap.size + 1, 0, none⟩ (.slice x1 l.length m1)).setCell ⟨w.heap.size + 1, 1, none⟩ (.slice x2 r.length m2)).setCell ⟨w.heap.size + 1, 2, none⟩ (.slice x3 ps.length m3)).setCell ⟨w.heap.size + 1, 3, none⟩ (.slice x4 t.length m4)).setCell ⟨w.heap.size + 1, 4, none⟩ (.int .i64 a)) := Seg.setCell5 _ _ _ _ _ _ _
    go_wp2_with fail
    have q0 := z0.out
    have q1 := z1.out
    have q2 := z2.out
    have q3 := z3.out
    obtain ⟨p1, p2, p3, p4, p5⟩ := HP.out
    have O1 := O1.out.seg sg (.inr (by omega))
    have O2 := O2.out.seg sg (.inr (by omega))
    obtain ⟨e1, e2, e3, e4, e5⟩ := HNO.out rfl
    rw [e1, e2, e3, e4, e5]
    have s1 := O1.top
    have s2 := O2.top
    exact bodyPost_ret (v := .tuple #[.agg #[.slice x1 l.length m1, .slice x2 r.length m2, .slice x3 ps.length m3, .slice x4 t.length m4, .int .i64 a], .bool false]) (by simp [results, Try.results27, go_sem, y0, y1, y2, y3, y4]) rfl ⟨_, rfl, ⟨_, _, _, _, _, _, _, _, rfl, O1, O2, ⟨by omega, by omega, s1.2, s2, p5⟩, Z.below.size, Nat.le_refl _⟩, Z.below⟩
  · skip
    go_wp2_with fail
    go_at_call 81
    refine (in_any v (-1000) 1000 _).mono ?_
    rintro e u4 ⟨rfl, hb⟩
    rw [← Ht2.out]
    have X := hide (X.out.up hb)
    have O1 := hide (O1.out.below hb)
    have O2 := hide (O2.out.below hb)
    have z3 := hide (Nat.le_trans z3.out hb.size)
    clear hb
    cases t2
    · skip
      have d0 := X.out.cell 2 0 rfl rfl
      have d1 := X.out.cell 2 1 rfl rfl
      have d2 := X.out.cell 2 2 rfl rfl
      have d3 := X.out.cell 2 3 rfl rfl
      have d4 := X.out.cell 2 4 rfl rfl
      have c0 := X.out.cell 1 0 rfl rfl
      have c1 := X.out.cell 1 1 rfl rfl
      have c2 := X.out.cell 1 2 rfl rfl
      have c3 := X.out.cell 1 3 rfl rfl
      have c4 := X.out.cell 1 4 rfl rfl
      have fc0 := X.out.free 1 0 rfl
      have fc1 := X.out.free 1 1 rfl
      have fc2 := X.out.free 1 2 rfl
      have fc3 := X.out.free 1 3 rfl
      have fc4 := X.out.free 1 4 rfl
      have Z := (((((X.out.set 1 0 rfl (.slice x1 l.length m1)).set 1 1 rfl (.slice x2 r.length m2)).set 1 2 rfl (.slice x3 ps.length m3)).set 1 3 rfl (.slice x4 t.length m4)).set 1 4 rfl (.int .i64 a))
      have y0 := Z.cell 1 0 rfl rfl
      have y1 := Z.cell 1 1 rfl rfl
      have y2 := Z.cell 1 2 rfl rfl
      have y3 := Z.cell 1 3 rfl rfl
      have y4 := Z.cell 1 4 rfl rfl
      have sg : Seg (w.heap.size + 1) (w.heap.size + 1 + 1) u4 (((((u4.setCell ⟨w.heap.size + 1, 0, none⟩ (.slice x1 l.length m1)).setCell ⟨w.heap.size + 1, 1, none⟩ (.slice x2 r.length m2)).setCell ⟨w.heap.size + 1, 2, none⟩ (.slice x3 ps.length m3)).setCell ⟨w.heap.size + 1, 3, none⟩ (.slice x4 t.length m4)).setCell ⟨w.heap.size + 1, 4, none⟩ (.int .i64 a)) := Seg.setCell5 _ _ _ _ _ _ _
      go_wp2_with fail
      have q0 := z0.out
      have q1 := z1.out
      have q2 := z2.out
      have q3 := z3.out
      obtain ⟨p1, p2, p3, p4, p5⟩ := HP.out
      have O1 := O1.out.seg sg (.inr (by omega))
      have O2 := O2.out.seg sg (.inr (by omega))
      obtain ⟨e1, e2, e3, e4, e5⟩ := HNO.out rfl
      rw [e1, e2, e3, e4, e5]
      have s1 := O1.top
      have s2 := O2.top
      exact bodyPost_ret (v := .tuple #[.agg #[.slice x1 l.length m1, .slice x2 r.length m2, .slice x3 ps.length m3, .slice x4 t.length m4, .int .i64 a], .bool false]) (by simp [results, Try.results27, go_sem, y0, y1, y2, y3, y4]) rfl ⟨_, rfl, ⟨_, _, _, _, _, _, _, _, rfl, O1, O2, ⟨by omega, by omega, s1.2, s2, p5⟩, Z.below.size, Nat.le_refl _⟩, Z.below⟩
    · skip
      obtain ⟨⟨eL, eR, eP, eT⟩, eD, eTl, eOk⟩ := HYE.out (by simp)
      have HE := hide (And.intro eT eD)
      have HTL := hide eTl
      have HCA := hide (fun (W : World) (h : Below w.heap.size w W) => show Calls Try.prog 53 #[.agg #[.slice a1 l.length c1, .slice a2 r.length c2, .slice a3 ps.length c3], .int .i64 v] W (RetOCSB W L R P sw true) by rw [eL, eR, eP, HSW.out, ← eOk]; exact sCrack_any _ l r ps v W B (I1.out _ h) (Nat.le_trans hB h.size) k1 k2 k3 hv)
      clear eL eR eP eT eD eTl eOk HYE HNO
      have d0 := X.out.cell 0 0 rfl rfl
      have d1 := X.out.cell 0 1 rfl rfl
      have d2 := X.out.cell 0 2 rfl rfl
      go_wp2_with fail
      go_at_call 53
      refine (HCA.out _ X.out.below).mono ?_
      rintro e u5 ⟨v1, v2, v3, sv, lo, hi, n1', h1', n2', h2', n3', h3', slo, shi, rfl, ⟨g1, g2⟩, ⟨g3, g4⟩, oc, os, ap, hb⟩
      have OC1 := Oc.of oc (Nat.le_refl _) (Nat.le_refl _) g3
      have htop := oc.top
      clear oc
      obtain ⟨w1, r1, w2, r2, w3, r3, e⟩ := OC1.form
      injection e with e
      injection e with e
      injection e with e1 e
      injection e with e2 e
      injection e with e3 e
      subst e1 e2 e3
      clear e
      obtain ⟨sa, sc, rfl⟩ := os.own.form
      have HG := hide (And.intro g1 (And.intro g2 (And.intro g3 (And.intro g4 (And.intro ap (And.intro htop.1 (And.intro os.le os.top)))))))
      have X1 := X.out.up hb
      have O1 := O1.out.below hb
      have O2 := O2.out.below hb
      have z4 := hide hb.size
      clear hb g1 g2 g3 g4 ap htop d0 d1 d2
      have X := hide (X1.alloc #[.slice w1 L.length r1, .slice w2 R.length r2, .slice w3 P.length r3] 25)
      have hbl := below1 u5 (.cells #[.slice w1 L.length r1, .slice w2 R.length r2, .slice w3 P.length r3] 25)
      have O1 := hide (O1.below hbl)
      have O2 := hide (O2.below hbl)
      have OC1 := hide (OC1.below hbl)
      have OS := hide (os.below hbl)
      clear os X1 hbl
      obtain ⟨u6, hu6⟩ : ∃ q, q = u5.alloc (.cells #[.slice w1 L.length r1, .slice w2 R.length r2, .slice w3 P.length r3] 25) := ⟨_, rfl⟩
      obtain ⟨b7, hb7⟩ : ∃ q, q = u5.heap.size := ⟨_, rfl⟩
      have z5 := hide (show b7 = u5.heap.size ∧ u6.heap.size = b7 + 1 by rw [hu6, hb7]; simp)
      rw [← hu6] at X O1 O2 OC1 OS
      rw [← hb7] at X
      simp only [List.cons_append, List.nil_append] at X
      go_upto_region 5 with fail
      try rw [← hu6]
      try rw [← hb7]
      clear hu6 hb7
      have d0 := X.out.cell 3 0 rfl rfl
      have d1 := X.out.cell 3 1 rfl rfl
      have d2 := X.out.cell 3 2 rfl rfl
      have e0 := X.out.cell 2 0 rfl rfl
      have fe0 := X.out.free 2 0 rfl
      have e1 := X.out.cell 2 1 rfl rfl
      have fe1 := X.out.free 2 1 rfl
      have e2 := X.out.cell 2 2 rfl rfl
      have fe2 := X.out.free 2 2 rfl
      go_upto_region 7 with fail
      have sg : Seg b6 (b6 + 1) u6 (((u6.setCell ⟨b6, 0, none⟩ (.slice w1 L.length r1)).setCell ⟨b6, 1, none⟩ (.slice w2 R.length r2)).setCell ⟨b6, 2, none⟩ (.slice w3 P.length r3)) := ((Seg.setCell u6 b6 0 _).trans (Seg.setCell _ b6 1 _)).trans (Seg.setCell _ b6 2 _)
      have X := hide (((X.out.set 2 0 rfl (.slice w1 L.length r1)).set 2 1 rfl (.slice w2 R.length r2)).set 2 2 rfl (.slice w3 P.length r3))
      have q0 := z0.out
      have q1 := z1.out
      obtain ⟨q2, q2'⟩ := z2.out
      have q3 := z3.out
      have q4 := z4.out
      obtain ⟨q5, q5'⟩ := z5.out
      obtain ⟨g1, g2, g3, g4, g5, g6, g7, g8⟩ := HG.out
      obtain ⟨p1, p2, p3, p4, p5⟩ := HP.out
      have tl := O2.out.le
      have O2 := hide (O2.out.seg sg (.inl (by omega)))
      have OC1 := hide (OC1.out.seg sg (.inr (by omega)))
      have OS := hide (OS.out.seg sg (.inr (by omega)))
      have z6 := hide sg.below.size
      clear sg O1 d0 d1 d2 e0 e1 e2 fe0 fe1 fe2
      obtain ⟨u7, hu7⟩ : ∃ q, q = (((u6.setCell ⟨b6, 0, none⟩ (.slice w1 L.length r1)).setCell ⟨b6, 1, none⟩ (.slice w2 R.length r2)).setCell ⟨b6, 2, none⟩ (.slice w3 P.length r3)) := ⟨_, rfl⟩
      rw [← hu7] at X O2 OC1 OS z6 ⊢
      clear hu7
      have HN := hide (show w.heap.size + 1 < n2 ∧ h2 ≤ b6 ∧ b6 < lo ∧ b6 < slo ∧ n2 ≤ h2 ∧ (hi ≤ slo ∨ shi ≤ lo) ∧ lo ≤ hi ∧ slo ≤ shi ∧ b6 < b7 ∧ hi ≤ b7 ∧ shi ≤ b7 by omega)
      clear q0 q1 q2 q2' q3 q4 q5 q5' g1 g2 g3 g4 g5 g6 g7 g8 p1 p2 p3 p4 p5 tl
      go_loopw [10] (fun u wr => ∃ (k : Nat), k ≤ sw.length ∧ u = .int .i64 k ∧ Hid (Kn w wr [(w.heap.size, #[.slice a1 l.length c1, .slice a2 r.length c2, .slice a3 ps.length c3, .slice a4 t.length c4, .int .i64 a], 27), (w.heap.size + 1, #[.slice none 0 0, .slice none 0 0, .slice none 0 0, .slice none 0 0, .int .i64 0], 27), (b6, #[.slice w1 L.length r1, .slice w2 R.length r2, .slice w3 P.length r3, .slice x4 t.length m4, .int .i64 a], 27), (b7, #[.slice w1 L.length r1, .slice w2 R.length r2, .slice w3 P.length r3], 25)]) ∧ Hid (Ow wr (.slice x4 t.length m4) (swaps t (sw.take k)) n2 h2) ∧ Hid (Oc wr (.agg #[.slice w1 L.length r1, .slice w2 R.length r2, .slice w3 P.length r3]) L R P lo hi) ∧ Hid (Osw wr (.slice sa sw.length sc) sw slo shi)) (fun u _ => sw.length - (intOf u).toNat)
      case atStart => exact ⟨0, by omega, rfl, X.out, by simpa [Hid, swaps] using O2.out, OC1.out, OS.out⟩
      case round =>
        clear X O2 OC1 OS
        obtain ⟨k, hk, rfl, X, O2, OC1, OS⟩ := hrel
        have hswl := HCW.out.2.2.2.2.2.2.1
        by_cases hlt : k < sw.length
        · have es := hide (swaps_take t sw k hlt)
          obtain ⟨ad, cap, e, -, -, hcell⟩ := OS.out.own.pvs (Nat.le_refl _) (by have := HCW.out.2.2.2.2.2.2.1; omega) HCW.out.2.2.2.2.2.2.2
          simp only [Value.slice.injEq, true_and] at e
          obtain ⟨rfl, -⟩ := e
          obtain ⟨b1, o1, rfl, hb1, hc1, hc2⟩ := hcell k hlt
          have hq := HSI.out sw[k] (List.getElem_mem hlt)
          obtain ⟨x, hx⟩ : ∃ x, x = sw[k].1 := ⟨_, rfl⟩
          obtain ⟨y, hy⟩ : ∃ y, y = sw[k].2 := ⟨_, rfl⟩
          rw [← hx, ← hy] at hq
          rw [← hx] at hc1
          rw [← hy] at hc2
          obtain ⟨ii, rfl⟩ := Int.eq_ofNat_of_zero_le hq.1
          obtain ⟨jj, rfl⟩ := Int.eq_ofNat_of_zero_le (show 0 ≤ y by omega)
          have ES := hide (show swaps t (sw.take (k + 1)) = swapAt (swaps t (sw.take k)) ii jj by rw [es.out, ← hx, ← hy]; rfl)
          have H1 := hide (show ii < (swaps t (sw.take k)).length by rw [swaps_length]; have := HTL.out; omega)
          have H2 := hide (show jj < (swaps t (sw.take k)).length by rw [swaps_length]; have := HTL.out; omega)
          have c0 := X.out.cell 2 3 rfl rfl
          have C1 := hide hc1
          have C2 := hide hc2
          have bk : decide ((k : Int) < (sw.length : Int)) = true := by simp; omega
          clear hcell hx hy es hq hc1 hc2
          go_upto_region 9 with fail
          clear c0 bk
          refine wp_region_any (by kernel_rfl) ?_
          refine wpAny_factsT (w0 := wr) (fun i => ([(fun lo hi s W => s 38 = .pointer (some ⟨b6, 3, none⟩)),
            (fun lo hi s W => s 39 = .slice x4 t.length m4),
            (fun lo hi s W => s 40 = .slice (some ⟨b1, o1, none⟩) sw.length sc),
            (fun lo hi s W => s 41 = .int .i64 (k : Int)),
            (fun lo hi s W => s 42 = .pointer (some ⟨b1, o1 + k * 2, none⟩)),
            (fun lo hi s W => s 43 = .pointer (some ⟨b1, o1 + k * 2, none⟩)),
            (fun lo hi s W => s 44 = .int .i64 (ii : Int)),
            (fun lo hi s W => s 45 = .slice (some ⟨b1, o1, none⟩) sw.length sc),
            (fun lo hi s W => s 46 = .int .i64 (k : Int)),
            (fun lo hi s W => s 47 = .pointer (some ⟨b1, o1 + k * 2, none⟩)),
            (fun lo hi s W => s 48 = .pointer (some ⟨b1, o1 + k * 2 + 1, none⟩)),
            (fun lo hi s W => s 49 = .int .i64 (jj : Int)),
            (fun lo hi s W => True)] : List (Nat → Nat → (Nat → Value) → World → Prop)).getD i (fun _ _ _ _ => True)) [[], [0], [], [], [2, 3], [2, 3, 4], [2, 3, 4, 5], [], [], [7, 8], [7, 8, 9], [7, 8, 9, 10], [0, 1, 2, 3, 4, 5, 6, 7, 8, 9, 10, 11]] [0, 1, 2, 3, 4, 5, 6, 7, 8, 9, 10, 11, 12] [[38], [39], [40], [41], [42], [43], [44], [45], [46], [47], [48], [49], []] [[], [], [], [], [], [], [], [], [], [], [], [], []] (by kernel_rfl) (by kernel_rfl) 12 1 rfl (by kernel_rfl) ?st ?step ?fin
          case st =>
            intro i hi lo hi' s W W' h q1 q2 q3 q4 k
            rcases (show i = 0 ∨ i = 1 ∨ i = 2 ∨ i = 3 ∨ i = 4 ∨ i = 5 ∨ i = 6 ∨ i = 7 ∨ i = 8 ∨ i = 9 ∨ i = 10 ∨ i = 11 by omega) with rfl | rfl | rfl | rfl | rfl | rfl | rfl | rfl | rfl | rfl | rfl | rfl <;> exact h
          case step =>
            intro i hi ac W iv hb hsz hdf hrest hanc hivs hap K HK
            have HK := hide HK
            have HAN := hide hanc
            have HRS := hide hrest
            have HB := hide hb
            clear hanc hivs hap hrest hb hsz hdf 
            rcases (show i = 0 ∨ i = 1 ∨ i = 2 ∨ i = 3 ∨ i = 4 ∨ i = 5 ∨ i = 6 ∨ i = 7 ∨ i = 8 ∨ i = 9 ∨ i = 10 ∨ i = 11 by omega) with rfl | rfl | rfl | rfl | rfl | rfl | rfl | rfl | rfl | rfl | rfl | rfl
            · refine wpOp_step (o := _) rfl fun K' hK => ?_
              rw [if_pos (by go_simp)]
              have e0 : ac.tmps.getD 6 undef = .pointer (some ⟨b6, 0, none⟩) := (HRS.out 6 (by decide)).trans rfl
              go_simp
              exact hK _ _ (HK.out _ _ ⟨fun _ => ⟨Below.refl _ _, rfl⟩, fun h => absurd rfl h⟩)
            · refine wpOp_step (o := _) rfl fun K' hK => ?_
              rw [if_pos (by go_simp)]
              have e0 : ac.tmps.getD 38 undef = .pointer (some ⟨b6, 3, none⟩) := HAN.out 0 (by decide)
              have c0 := (X.out.up HB.out).cell 2 3 rfl rfl
              go_simp
              exact hK _ _ (HK.out _ _ ⟨fun _ => ⟨Below.refl _ _, rfl⟩, fun h => absurd rfl h⟩)
            · refine wpOp_step (o := _) rfl fun K' hK => ?_
              rw [if_pos (by go_simp)]
              have e0 : ac.tmps.getD 8 undef = .slice (some ⟨b1, o1, none⟩) sw.length sc := (HRS.out 8 (by decide)).trans rfl
              go_simp
              exact hK _ _ (HK.out _ _ ⟨fun _ => ⟨Below.refl _ _, rfl⟩, fun h => absurd rfl h⟩)
            · refine wpOp_step (o := _) rfl fun K' hK => ?_
              rw [if_pos (by go_simp)]
              have e0 : ac.tmps.getD 10 undef = .int .i64 (k : Int) := (HRS.out 10 (by decide)).trans rfl
              go_simp
              exact hK _ _ (HK.out _ _ ⟨fun _ => ⟨Below.refl _ _, rfl⟩, fun h => absurd rfl h⟩)
            · refine wpOp_step (o := _) rfl fun K' hK => ?_
              rw [if_pos (by go_simp)]
              have e0 : ac.tmps.getD 40 undef = .slice (some ⟨b1, o1, none⟩) sw.length sc := HAN.out 2 (by decide)
              have e1 : ac.tmps.getD 41 undef = .int .i64 (k : Int) := HAN.out 3 (by decide)
              go_simp
              exact hK _ _ (HK.out _ _ ⟨fun _ => ⟨Below.refl _ _, rfl⟩, fun h => absurd rfl h⟩)
            · refine wpOp_step (o := _) rfl fun K' hK => ?_
              rw [if_pos (by go_simp)]
              have e0 : ac.tmps.getD 42 undef = .pointer (some ⟨b1, o1 + k * 2, none⟩) := HAN.out 4 (by decide)
              go_simp
              exact hK _ _ (HK.out _ _ ⟨fun _ => ⟨Below.refl _ _, rfl⟩, fun h => absurd rfl h⟩)
            · refine wpOp_step (o := _) rfl fun K' hK => ?_
              rw [if_pos (by go_simp)]
              have e0 : ac.tmps.getD 43 undef = .pointer (some ⟨b1, o1 + k * 2, none⟩) := HAN.out 5 (by decide)
              have c0 := (HB.out.cell (p := ⟨b1, o1 + k * 2, none⟩) hb1).trans C1.out
              go_simp
              exact hK _ _ (HK.out _ _ ⟨fun _ => ⟨Below.refl _ _, rfl⟩, fun h => absurd rfl h⟩)
            · refine wpOp_step (o := _) rfl fun K' hK => ?_
              rw [if_pos (by go_simp)]
              have e0 : ac.tmps.getD 8 undef = .slice (some ⟨b1, o1, none⟩) sw.length sc := (HRS.out 8 (by decide)).trans rfl
              go_simp
              exact hK _ _ (HK.out _ _ ⟨fun _ => ⟨Below.refl _ _, rfl⟩, fun h => absurd rfl h⟩)
            · refine wpOp_step (o := _) rfl fun K' hK => ?_
              rw [if_pos (by go_simp)]
              have e0 : ac.tmps.getD 10 undef = .int .i64 (k : Int) := (HRS.out 10 (by decide)).trans rfl
              go_simp
              exact hK _ _ (HK.out _ _ ⟨fun _ => ⟨Below.refl _ _, rfl⟩, fun h => absurd rfl h⟩)
            · refine wpOp_step (o := _) rfl fun K' hK => ?_
              rw [if_pos (by go_simp)]
              have e0 : ac.tmps.getD 45 undef = .slice (some ⟨b1, o1, none⟩) sw.length sc := HAN.out 7 (by decide)
              have e1 : ac.tmps.getD 46 undef = .int .i64 (k : Int) := HAN.out 8 (by decide)
              go_simp
              exact hK _ _ (HK.out _ _ ⟨fun _ => ⟨Below.refl _ _, rfl⟩, fun h => absurd rfl h⟩)
            · refine wpOp_step (o := _) rfl fun K' hK => ?_
              rw [if_pos (by go_simp)]
              have e0 : ac.tmps.getD 47 undef = .pointer (some ⟨b1, o1 + k * 2, none⟩) := HAN.out 9 (by decide)
              go_simp
              exact hK _ _ (HK.out _ _ ⟨fun _ => ⟨Below.refl _ _, rfl⟩, fun h => absurd rfl h⟩)
            · refine wpOp_step (o := _) rfl fun K' hK => ?_
              rw [if_pos (by go_simp)]
              have e0 : ac.tmps.getD 48 undef = .pointer (some ⟨b1, o1 + k * 2 + 1, none⟩) := HAN.out 10 (by decide)
              have c0 := (HB.out.cell (p := ⟨b1, o1 + k * 2 + 1, none⟩) hb1).trans C2.out
              go_simp
              exact hK _ _ (HK.out _ _ ⟨fun _ => ⟨Below.refl _ _, rfl⟩, fun h => absurd rfl h⟩)
          case fin =>
          intro ac wz iv I
          have hbY := I.below
          have e39 : ac.tmps.getD 39 undef = .slice x4 t.length m4 := (I.fact 1 (by decide) rfl).2
          have e44 : ac.tmps.getD 44 undef = .int .i64 (ii : Int) := (I.fact 6 (by decide) rfl).2
          have e49 : ac.tmps.getD 49 undef = .int .i64 (jj : Int) := (I.fact 11 (by decide) rfl).2
          have XF := hide (frame_of [38, 39, 40, 41, 42, 43, 44, 45, 46, 47, 48, 49, 50] I.size I.defers (fun s hs => I.rest s (rfDsts_spec (by kernel_rfl) hs)))
          clear I
          show wpOp _ _ _ 12 _ ac wz
          refine wpOp_step (o := _) rfl fun K' hK => ?_
          rw [if_pos (by go_simp)]
          go_simp
          go_at_call 84
          refine (sSwap_ow _ (swaps t (sw.take k)) n2 h2 ii jj wz (O2.out.below hbY) H1.out H2.out).mono ?_
          rintro e' w6 ⟨⟨uu, rfl⟩, Ox, s1⟩
          refine hK _ _ ?_
          clear hK K' e39 e44 e49
          obtain ⟨g1, g2, g3, g4, g5, g6, g7, g8, g9, g10, g11⟩ := HN.out
          have X := hide ((X.out.up hbY).seg s1 (by omega) (by intro e he; simp at he; rcases he with rfl | rfl | rfl | rfl <;> simp <;> omega))
          have OC1 := hide ((OC1.out.below hbY).seg s1 (by omega))
          have OS := hide ((OS.out.below hbY).seg s1 (by omega))
          have O2 := hide Ox
          clear Ox s1 hbY g1 g2 g3 g4 g5 g6 g7 g8 g9 g10 g11
          have XF2 := XF.out
          clear XF
          rw [XF2]
          simp only [List.foldl_cons, List.foldl_nil, List.setIfInBounds_toArray, List.set_cons_succ, List.set_cons_zero]
          show Exit.inBlock _ (Exit.then _ _) .normal _ _
          clear XF2
          generalize slot ac 38 = t38
          generalize slot ac 39 = t39
          generalize slot ac 40 = t40
          generalize slot ac 41 = t41
          generalize slot ac 42 = t42
          generalize slot ac 43 = t43
          generalize slot ac 44 = t44
          generalize slot ac 45 = t45
          generalize slot ac 46 = t46
          generalize slot ac 47 = t47
          generalize slot ac 48 = t48
          generalize slot ac 49 = t49
          generalize slot ac 50 = t50
          go_wp2_with fail
          go_roundw
          case rel => exact ⟨k + 1, by omega, by go_num, X.out, by rw [ES.out]; exact O2.out, OC1.out, OS.out⟩
          case measure => simp [intOf]; omega
        · obtain rfl : k = sw.length := by omega
          rw [List.take_length] at O2
          have HT := hide (show swaps t sw = T from HE.out.1.symm)
          have eD := HE.out.2
          have bk : decide ((sw.length : Int) < (sw.length : Int)) = false := by simp
          have d0 := X.out.cell 2 0 rfl rfl
          have d1 := X.out.cell 2 1 rfl rfl
          have d2 := X.out.cell 2 2 rfl rfl
          have d3 := X.out.cell 2 3 rfl rfl
          have d4 := X.out.cell 2 4 rfl rfl
          have c0 := X.out.cell 1 0 rfl rfl
          have c1 := X.out.cell 1 1 rfl rfl
          have c2 := X.out.cell 1 2 rfl rfl
          have c3 := X.out.cell 1 3 rfl rfl
          have c4 := X.out.cell 1 4 rfl rfl
          have fc0 := X.out.free 1 0 rfl
          have fc1 := X.out.free 1 1 rfl
          have fc2 := X.out.free 1 2 rfl
          have fc3 := X.out.free 1 3 rfl
          have fc4 := X.out.free 1 4 rfl
          have Z := (((((X.out.set 1 0 rfl (.slice w1 L.length r1)).set 1 1 rfl (.slice w2 R.length r2)).set 1 2 rfl (.slice w3 P.length r3)).set 1 3 rfl (.slice x4 t.length m4)).set 1 4 rfl (.int .i64 a))
          have y0 := Z.cell 1 0 rfl rfl
          have y1 := Z.cell 1 1 rfl rfl
          have y2 := Z.cell 1 2 rfl rfl
          have y3 := Z.cell 1 3 rfl rfl
          have y4 := Z.cell 1 4 rfl rfl
          have sg : Seg (w.heap.size + 1) (w.heap.size + 1 + 1) wr (((((wr.setCell ⟨w.heap.size + 1, 0, none⟩ (.slice w1 L.length r1)).setCell ⟨w.heap.size + 1, 1, none⟩ (.slice w2 R.length r2)).setCell ⟨w.heap.size + 1, 2, none⟩ (.slice w3 P.length r3)).setCell ⟨w.heap.size + 1, 3, none⟩ (.slice x4 t.length m4)).setCell ⟨w.heap.size + 1, 4, none⟩ (.int .i64 a)) := Seg.setCell5 _ _ _ _ _ _ _
          go_wp2_with fail
          obtain ⟨g1, g2, g3, g4, g5, g6, g7, g8, g9, g10, g11⟩ := HN.out
          have O1 := OC1.out.seg sg (.inr (by omega))
          have O2 := O2.out.seg sg (.inr (by omega))
          rw [HT.out] at O2
          have et : t.length = T.length := by rw [← HT.out, swaps_length]
          rw [eD]
          have s1 := O1.top
          have s2 := O2.top
          exact bodyPost_ret (v := .tuple #[.agg #[.slice w1 L.length r1, .slice w2 R.length r2, .slice w3 P.length r3, .slice x4 t.length m4, .int .i64 a], .bool true]) (by simp [results, Try.results27, go_sem, y0, y1, y2, y3, y4]) rfl ⟨_, rfl, ⟨_, _, _, _, _, _, _, _, rfl, O1, O2, ⟨by omega, by omega, s1.2, s2, by omega⟩, Z.below.size, Nat.le_refl _⟩, Z.below⟩
end Go.Proofs.Ytepkkeclkdlheaa

/- When a history is valid: both sides (promise 8). -/
namespace Go.Proofs.Ytepkkeclkdlheaa
open Go.RowKit Go.ChangeShapes
set_option linter.unusedSimpArgs false
set_option linter.unusedVariables false
set_option maxRecDepth 100000

/-- A number is a bound. -/
def isBd (x : Int) : Bool := decide (-1000 ≤ x ∧ x ≤ 1000)

theorem hist_of {l : List Int} : isHist l = (l.all isBd && decide (l.length ≤ 60)) := rfl

theorem all_take_succ (f : Int → Bool) (l : List Int) (k : Nat) (h : k < l.length) : (l.take (k + 1)).all f = ((l.take k).all f && f l[k]) := by
  rw [List.take_succ_eq_append_getElem h, List.all_append]
  simp

theorem all_out (f : Int → Bool) (l : List Int) (k : Nat) (h : k < l.length) (hf : f l[k] = false) : l.all f = false := by
  rw [List.all_eq_false]
  exact ⟨l[k], List.getElem_mem h, by rw [hf]; simp⟩

set_option maxHeartbeats 2000000 in
theorem sHist_any (v : Value) (l : List Int) (w : World) (B : Nat) (hv : Ints w B v l) (hB : B ≤ w.heap.size) :
    Calls Try.prog 87 #[v] w (RetB1 w (isHist l)) := by
  obtain ⟨a, cap, rfl, hlen, hwf, hcell⟩ := hv
  have HC := hide hcell
  obtain ⟨r, hr⟩ : ∃ q, q = isHist l := ⟨_, rfl⟩
  have HR := hide (show r = (l.all isBd && decide (l.length ≤ 60)) from hr)
  rw [← hr]
  clear hr hcell hwf
  go_enter Try.func87, Try.ntmps87
  go_wp2_with fail
  go_loopw [3] (fun i wr => ∃ (k : Nat), k ≤ l.length ∧ i = .int .i64 k ∧ Hid ((l.take k).all isBd = true) ∧ Hid (Below w.heap.size w wr)) (fun i _ => l.length - (intOf i).toNat)
  case atStart => exact ⟨0, by omega, rfl, by simp [Hid], Below.refl _ _⟩
  case round =>
    obtain ⟨k, hk, rfl, hall, hbw⟩ := hrel
    by_cases hlt : k < l.length
    · obtain ⟨b, o, rfl, hb, hc⟩ := HC.out k hlt
      have hst := hide (all_take_succ isBd l k hlt)
      have hou := hide (all_out isBd l k hlt)
      obtain ⟨x, hx⟩ : ∃ x, x = l[k] := ⟨_, rfl⟩
      rw [← hx] at hc hst hou
      have c0 := (hbw.out.cell (p := ⟨b, o + k, none⟩) (Nat.lt_of_lt_of_le hb hB)).trans hc
      clear hx hc
      obtain ⟨t, ht⟩ : ∃ t, t = isBd x := ⟨_, rfl⟩
      have HT := hide (show t = decide (-1000 ≤ x ∧ x ≤ 1000) from ht)
      rw [← ht] at hst hou
      clear ht
      go_wp2_with fail
      go_at_call 81
      refine (in_any x (-1000) 1000 _).mono ?_
      rintro e w2 ⟨rfl, hb2⟩
      rw [← HT.out]
      have hbw := hide (hbw.out.trans (hb2.mono hbw.out.size))
      clear hb2 c0
      cases t
      · have hf := hou.out rfl
        go_wp2_with fail
        go_ret
        exact ⟨by rw [show r = false by rw [HR.out, hf]; rfl]; rfl, hbw.out⟩
      · have hs := hide (show (l.take (k + 1)).all isBd = true by rw [hst.out, hall.out]; rfl)
        go_wp2_with fail
        go_roundw
        case rel => exact ⟨k + 1, by omega, by go_num, hs, hbw⟩
        case measure => simp [intOf]; omega
    · obtain rfl : k = l.length := by omega
      rw [List.take_length] at hall
      obtain ⟨t, ht⟩ : ∃ t, t = decide (l.length ≤ 60) := ⟨_, rfl⟩
      have hr := hide (show r = t by rw [HR.out, hall.out, ht]; rfl)
      have hd : decide ((l.length : Int) ≤ 60) = t := by
        rw [ht]
        by_cases h : l.length ≤ 60
        · simp [h]; omega
        · simp [h]; omega
      clear ht
      go_wp2_with fail
      go_ret
      exact ⟨by rw [hr.out]; rfl, hbw.out⟩

theorem hist_lit (x : Int) (w : World) : Calls Try.prog 146 #[.int .i64 x] w (RetB1 w (!isBd x)) := by
  by_cases h : -1000 ≤ x ∧ x ≤ 1000
  · have hb : isBd x = true := decide_eq_true h
    rw [hb]
    go_enter Try.func146, Try.ntmps146
    go_wp2_with fail
    go_at_call 147
    refine (bound_yes x _ h.1 h.2).mono ?_
    rintro e w2 ⟨rfl, rfl⟩
    go_wp2_with fail
    go_ret
    exact ⟨rfl, Below.refl _ _⟩
  · have hb : isBd x = false := decide_eq_false h
    rw [hb]
    go_enter Try.func146, Try.ntmps146
    go_wp2_with fail
    go_at_call 147
    refine (bound_no x _ (by omega)).mono ?_
    rintro e w2 ⟨rfl, rfl⟩
    go_wp2_with fail
    go_ret
    exact ⟨rfl, Below.refl _ _⟩

set_option maxHeartbeats 2000000 in
theorem histIx_any (v : Value) (l : List Int) (w : World) (B : Nat) (hv : Ints w B v l) (hB : B ≤ w.heap.size) :
    Calls Try.prog 177 #[v, .func (.func 146) #[] #[]] w fun e w' => ∃ q : Int, e = .returned (.int .i64 q) ∧ decide (0 ≤ q) = !(l.all isBd) ∧ Below w.heap.size w w' := by
  obtain ⟨a, cap, rfl, hlen, hwf, hcell⟩ := hv
  have HC := hide hcell
  clear hcell hwf
  go_enter Try.func177, Try.ntmps177
  go_wp2_with fail
  go_loopw [8] (fun i wr => ∃ (k : Nat), k ≤ l.length ∧ i = .int .i64 k ∧ Hid ((l.take k).all isBd = true) ∧ Hid (Below w.heap.size w wr)) (fun i _ => l.length - (intOf i).toNat)
  case atStart => exact ⟨0, by omega, rfl, by simp [Hid], Below.refl _ _⟩
  case round =>
    obtain ⟨k, hk, rfl, hall, hbw⟩ := hrel
    by_cases hlt : k < l.length
    · obtain ⟨b, o, rfl, hb, hc⟩ := HC.out k hlt
      have hst := hide (all_take_succ isBd l k hlt)
      have hou := hide (all_out isBd l k hlt)
      obtain ⟨x, hx⟩ : ∃ x, x = l[k] := ⟨_, rfl⟩
      rw [← hx] at hc hst hou
      have c0 := (hbw.out.cell (p := ⟨b, o + k, none⟩) (Nat.lt_of_lt_of_le hb hB)).trans hc
      clear hx hc
      have HX := hide (hist_lit x wr)
      obtain ⟨t, ht⟩ : ∃ t, t = isBd x := ⟨_, rfl⟩
      rw [← ht] at hst hou HX
      clear ht
      go_wp2_with fail
      go_at_call 146
      refine HX.out.mono ?_
      rintro e w2 ⟨rfl, hb2⟩
      have hbw := hide (hbw.out.trans (hb2.mono hbw.out.size))
      clear hb2 c0
      cases t
      · have hf := hide (hou.out rfl)
        go_wp2_with fail
        go_ret
        exact ⟨_, rfl, by rw [hf.out]; simp; try omega, hbw.out⟩
      · have hs := hide (show (l.take (k + 1)).all isBd = true by rw [hst.out, hall.out]; rfl)
        go_wp2_with fail
        go_roundw
        case rel => exact ⟨k + 1, by omega, by go_num, hs, hbw⟩
        case measure => simp [intOf]; omega
    · obtain rfl : k = l.length := by omega
      rw [List.take_length] at hall
      go_wp2_with fail
      go_ret
      exact ⟨_, rfl, by rw [hall.out]; rfl, hbw.out⟩

theorem histCf_any (v : Value) (l : List Int) (w : World) (B : Nat) (hv : Ints w B v l) (hB : B ≤ w.heap.size) :
    Calls Try.prog 148 #[v, .func (.func 146) #[] #[]] w (RetB1 w (!(l.all isBd))) := by
  have HV := hide (histIx_any v l w B hv hB)
  obtain ⟨a, cap, rfl⟩ := hv.form
  clear hv
  go_enter Try.func148, Try.ntmps148
  go_wp2_with fail
  go_at_call 177
  refine HV.out.mono ?_
  rintro e w2 ⟨q, rfl, hq, hb⟩
  go_wp2_with fail
  go_ret
  exact ⟨rfl, hb⟩

set_option maxHeartbeats 2000000 in
theorem iHist_any (v : Value) (l : List Int) (w : World) (B : Nat) (hv : Ints w B v l) (hB : B ≤ w.heap.size) :
    Calls Try.prog 88 #[v] w (RetB1 w (isHist l)) := by
  have hv0 := hv
  obtain ⟨a, cap, rfl⟩ := hv.form
  have HV := hide (fun (W : World) (h : Below w.heap.size w W) => histCf_any _ l W B (hv0.below h hB) (Nat.le_trans hB h.size))
  obtain ⟨r, hr⟩ : ∃ q, q = isHist l := ⟨_, rfl⟩
  have HR := hide (show r = (l.all isBd && decide (l.length ≤ 60)) from hr)
  rw [← hr]
  have hlen : l.length ≤ 9223372036854775807 := by obtain ⟨_, _, _, h, _⟩ := hv; exact h
  clear hr hv hv0
  by_cases h60 : l.length ≤ 60
  · have hd : decide ((l.length : Int) ≤ 60) = true := by simp; omega
    obtain ⟨t, ht⟩ : ∃ t, t = l.all isBd := ⟨_, rfl⟩
    have hrr := hide (show r = t by rw [HR.out, ht, decide_eq_true h60, Bool.and_true])
    rw [← ht] at HV
    clear ht h60
    go_enter Try.func88, Try.ntmps88
    go_wp2_with fail
    go_at_call 148
    refine (HV.out _ (Below.refl _ _)).mono ?_
    rintro e w2 ⟨rfl, hb⟩
    go_wp2_with fail
    go_ret
    exact ⟨by rw [hrr.out]; cases t <;> rfl, hb⟩
  · have hd : decide ((l.length : Int) ≤ 60) = false := by simp; omega
    have hrr := hide (show r = false by rw [HR.out, decide_eq_false h60, Bool.and_false])
    clear h60
    go_enter Try.func88, Try.ntmps88
    go_wp2_with fail
    go_ret
    exact ⟨by rw [hrr.out]; rfl, Below.refl _ _⟩

end Go.Proofs.Ytepkkeclkdlheaa

/- The steps of AlignMap, in numbers and words (promise 8). -/
namespace Go.Proofs.Ytepkkeclkdlheaa
open Go.RowKit Go.ChangeShapes
set_option linter.unusedSimpArgs false
set_option linter.unusedVariables false
set_option maxRecDepth 100000

/-- A map of the call's own has another number. -/
theorem MpO.app {w : World} {y1 y2 y3 y4 : Value} {l r : List Int} {ps : List Pv} {t : List Int} {a b : Int} {lo hi : Nat} (h : MpO w (.agg #[y1, y2, y3, y4, .int .i64 a]) l r ps t a lo hi) : MpO w (.agg #[y1, y2, y3, y4, .int .i64 b]) l r ps t b lo hi := by
  obtain ⟨z1, z2, z3, x, n1, h1, n2, h2, e, o1, o2, p, q⟩ := h
  injection e with e
  injection e with e
  injection e with e1 e
  injection e with e2 e
  injection e with e3 e
  injection e with e4 e
  subst e1 e2 e3 e4
  exact ⟨_, _, _, _, n1, h1, n2, h2, rfl, o1, o2, p, q⟩

/-- The map behind the first k steps of a history from its number a0 on. -/
noncomputable def alK (l r : List Int) (ps : List Pv) (t h : List Int) (a0 k : Nat) : Mv := (Mv.mk l r ps t (a0 : Int)).steps ((h.drop a0).take k)

theorem alK_succ (l r : List Int) (ps : List Pv) (t h : List Int) (a0 k : Nat) (hk : a0 + k < h.length) : alK l r ps t h a0 (k + 1) = (alK l r ps t h a0 k).step (h[a0 + k]'hk) := by
  have h1 : k < (h.drop a0).length := by rw [List.length_drop]; omega
  unfold alK
  rw [List.take_succ_eq_append_getElem h1, Mv.steps_app, List.getElem_drop]

theorem alK_ok {l r : List Int} {ps : List Pv} {t h : List Int} {a0 : Nat} (hm : isMp l r ps t (a0 : Int) = true) (hh : isHist h = true) (ha : a0 ≤ h.length) (hw : MpWf l r ps t (a0 : Int)) (k : Nat) (hk : a0 + k ≤ h.length) :
    isMp (alK l r ps t h a0 k).l (alK l r ps t h a0 k).r (alK l r ps t h a0 k).p (alK l r ps t h a0 k).t ((a0 + k : Nat) : Int) = true ∧ (alK l r ps t h a0 k).a = ((a0 + k : Nat) : Int) ∧ MpWf (alK l r ps t h a0 k).l (alK l r ps t h a0 k).r (alK l r ps t h a0 k).p (alK l r ps t h a0 k).t ((a0 + k : Nat) : Int) := by
  rw [hist_of] at hh
  simp only [Bool.and_eq_true, decide_eq_true_eq, List.all_eq_true] at hh
  have hlen : ((h.drop a0).take k).length = k := by rw [List.length_take, List.length_drop]; omega
  have h60 : (Mv.mk l r ps t (a0 : Int)).a + ((h.drop a0).take k).length ≤ 60 := by rw [hlen]; show (a0 : Int) + k ≤ 60; omega
  have hs := steps_isMp (Mv.mk l r ps t (a0 : Int)) h hm _ h60
  have hsw := steps_wf (Mv.mk l r ps t (a0 : Int)) hm hw.1.1 hw.1.2.1 hw.1.2.2.2 hw.2.1 ((h.drop a0).take k) (fun v hv => by
    have h2 := hh.1 v (List.mem_of_mem_drop (List.mem_of_mem_take hv))
    have h3 : -1000 ≤ v ∧ v ≤ 1000 := of_decide_eq_true h2
    exact ⟨by omega, by omega⟩) h60
  have ea : ((Mv.mk l r ps t (a0 : Int)).steps ((h.drop a0).take k)).a = ((a0 + k : Nat) : Int) := by rw [hs.2, hlen]; show (a0 : Int) + k = _; omega
  have h1 := hs.1
  rw [ea] at h1
  have hl := isMp_len h1
  refine ⟨h1, ea, ⟨hsw.1, hsw.2.1, ?_, hsw.2.2.1⟩, hsw.2.2.2, ⟨by omega, by omega⟩⟩
  show ((Mv.mk l r ps t (a0 : Int)).steps ((h.drop a0).take k)).p.length ≤ _
  omega

/-- What AlignMap gives back: the map, the number of divisions, and whether it was valid. -/
theorem al_no {m : Mv} {h : List Int} (hb : alB m h = false) : alM m h = m ∧ alN m h = 0 := by
  unfold alM alN
  rw [hb]
  exact ⟨rfl, rfl⟩

theorem al_yes {l r : List Int} {ps : List Pv} {t h : List Int} {a0 : Nat} (hb : alB ⟨l, r, ps, t, (a0 : Int)⟩ h = true) : alM ⟨l, r, ps, t, (a0 : Int)⟩ h = alK l r ps t h a0 (h.length - a0) ∧ alN ⟨l, r, ps, t, (a0 : Int)⟩ h = ((h.length - a0 : Nat) : Int) := by
  have hle : a0 ≤ h.length := by
    unfold alB at hb
    simp only [Bool.and_eq_true, decide_eq_true_eq] at hb
    have := hb.2
    show a0 ≤ h.length
    omega
  unfold alM alN alK
  rw [if_pos hb, if_pos hb]
  refine ⟨?_, ?_⟩
  · show Mv.steps _ (h.drop (a0 : Int).toNat) = _
    rw [Int.toNat_natCast, List.take_of_length_le (by rw [List.length_drop]; exact Nat.le_refl _)]
  · show (h.length : Int) - (a0 : Int) = _
    omega

/-- A new map of the call's own, a number and a bool are returned; nothing that was there has turned. -/
def RetMpIB (w : World) (l r : List Int) (ps : List Pv) (t : List Int) (a n : Int) (b : Bool) (e : Ending) (w' : World) : Prop := ∃ u, e = .returned (.tuple #[u, .int .i64 n, .bool b]) ∧ MpO w' u l r ps t a w.heap.size w'.heap.size ∧ Below w.heap.size w w'

end Go.Proofs.Ytepkkeclkdlheaa

/- What AlignMap of the reference returns (gen_al.py; promise 8). -/
namespace Go.Proofs.Ytepkkeclkdlheaa
open Go.RowKit Go.ChangeShapes
set_option linter.unusedSimpArgs false
set_option linter.unusedVariables false
set_option maxRecDepth 100000

set_option maxHeartbeats 16000000 in
theorem sAl_any (u hv : Value) (l r : List Int) (ps : List Pv) (t h : List Int) (a : Int) (w : World) (B : Nat) (hu : Mp w B u l r ps t a) (hh : InC w B hv h) (hB : B ≤ w.heap.size) (k1 : l.length ≤ 1048576) (k2 : r.length ≤ 1048576) (k3 : ps.length ≤ 1048576) (k4 : t.length ≤ 1048576) (k5 : h.length ≤ 1048576) :
    Calls Try.prog 29 #[u, hv] w (RetMpIB w (alM ⟨l, r, ps, t, a⟩ h).l (alM ⟨l, r, ps, t, a⟩ h).r (alM ⟨l, r, ps, t, a⟩ h).p (alM ⟨l, r, ps, t, a⟩ h).t (alM ⟨l, r, ps, t, a⟩ h).a (alN ⟨l, r, ps, t, a⟩ h) (alB ⟨l, r, ps, t, a⟩ h)) := by
  obtain ⟨a1, c1, a2, c2, a3, c3, a4, c4, rfl, i1, i2⟩ := hu.form
  have V := hide (fun (W : World) (h : Below w.heap.size w W) => hu.below h hB)
  have hwf := hu.wf
  obtain ⟨hi0, hcp⟩ := hh
  obtain ⟨ha, hc, rfl⟩ := hi0.form
  have HH := hide (fun (W : World) (h : Below w.heap.size w W) => hi0.below h hB)
  have hi1 := hi0
  obtain ⟨qa, qc, e, -, -, hcell⟩ := hi1
  simp only [Value.slice.injEq, true_and] at e
  obtain ⟨rfl, rfl⟩ := e
  have HCE := hide hcell
  have HCP := hide hcp
  clear hcell hcp hi0 i1 i2 hu
  obtain ⟨t1, ht1⟩ : ∃ q, q = isMp l r ps t a := ⟨_, rfl⟩
  obtain ⟨t2, ht2⟩ : ∃ q, q = isHist h := ⟨_, rfl⟩
  obtain ⟨t3, ht3⟩ : ∃ q, q = decide (a ≤ (h.length : Int)) := ⟨_, rfl⟩
  have D3 : decide ((h.length : Int) < a) = !t3 := by
    rw [ht3]
    by_cases hq : a ≤ (h.length : Int)
    · simp [hq]
    · simp [hq]; omega
  have HAB : alB ⟨l, r, ps, t, a⟩ h = (t1 && t2 && t3) := by rw [ht1, ht2, ht3]; rfl
  obtain ⟨RM, hRM⟩ : ∃ q, q = alM ⟨l, r, ps, t, a⟩ h := ⟨_, rfl⟩
  obtain ⟨RN, hRN⟩ : ∃ q, q = alN ⟨l, r, ps, t, a⟩ h := ⟨_, rfl⟩
  have HNO := hide (fun (hf : (t1 && t2 && t3) = false) => show RM = ⟨l, r, ps, t, a⟩ ∧ RN = 0 by rw [hRM, hRN]; exact al_no (HAB.trans hf))
  have HYE := hide (fun (hf : (t1 && t2 && t3) = true) => show ∃ a0 : Nat, a = (a0 : Int) ∧ a0 ≤ h.length ∧ RM = alK l r ps t h a0 (h.length - a0) ∧ RN = ((h.length - a0 : Nat) : Int) ∧ isMp l r ps t (a0 : Int) = true ∧ isHist h = true by
    have hb := HAB.trans hf
    simp only [Bool.and_eq_true] at hf
    have h1 := hf.1.1
    rw [ht1] at h1
    have h2 := hf.1.2
    rw [ht2] at h2
    have h3 := hf.2
    rw [ht3] at h3
    obtain ⟨a0, rfl⟩ := Int.eq_ofNat_of_zero_le (isMp_iff.1 h1).2.2.2.1
    refine ⟨a0, rfl, by have := of_decide_eq_true h3; omega, ?_, ?_, h1, h2⟩
    · rw [hRM]; exact (al_yes hb).1
    · rw [hRN]; exact (al_yes hb).2)
  rw [← hRM, ← hRN, HAB]
  have Ht1 := hide ht1
  have Ht2 := hide ht2
  have HWF := hide hwf
  clear hRM hRN HAB ht1 ht2 ht3 hwf
  have X := hide (Kn.two w #[.slice a1 l.length c1, .slice a2 r.length c2, .slice a3 ps.length c3, .slice a4 t.length c4, .int .i64 a] #[.slice none 0 0, .slice none 0 0, .slice none 0 0, .slice none 0 0, .int .i64 0] 27 27)
  obtain ⟨u0, hu0⟩ : ∃ q, q = (w.alloc (.cells #[.slice a1 l.length c1, .slice a2 r.length c2, .slice a3 ps.length c3, .slice a4 t.length c4, .int .i64 a] 27)).alloc (.cells #[.slice none 0 0, .slice none 0 0, .slice none 0 0, .slice none 0 0, .int .i64 0] 27) := ⟨_, rfl⟩
  rw [← hu0] at X
  have z0 := hide (show u0.heap.size = w.heap.size + 1 + 1 by rw [hu0]; simp)
  have d0 := X.out.cell 0 0 rfl rfl
  have d1 := X.out.cell 0 1 rfl rfl
  have d2 := X.out.cell 0 2 rfl rfl
  have d3 := X.out.cell 0 3 rfl rfl
  have d4 := X.out.cell 0 4 rfl rfl
  go_enter Try.func29, Try.ntmps29
  go_wp2_with fail
  rw [← hu0]
  clear hu0
  go_at_call 83
  refine (sMpCopy_any _ l r ps t a _ B (V.out _ X.out.below) (Nat.le_trans hB X.out.below.size) k1 k2 k3 k4).mono ?_
  rintro e u1 ⟨q1, rfl, O, hb⟩
  obtain ⟨x1, m1, x2, m2, x3, m3, x4, m4, hf⟩ := O.form
  subst hf
  have z1 := hide hb.size
  have X1 := X.out.up hb
  clear hb
  clear d0 d1 d2 d3 d4
  have X := hide (X1.alloc #[.slice x1 l.length m1, .slice x2 r.length m2, .slice x3 ps.length m3, .slice x4 t.length m4, .int .i64 a] 27)
  clear X1
  have hbl := below1 u1 (.cells #[.slice x1 l.length m1, .slice x2 r.length m2, .slice x3 ps.length m3, .slice x4 t.length m4, .int .i64 a] 27)
  have O := hide (O.below hbl)
  clear hbl
  obtain ⟨u2, hu2⟩ : ∃ q, q = u1.alloc (.cells #[.slice x1 l.length m1, .slice x2 r.length m2, .slice x3 ps.length m3, .slice x4 t.length m4, .int .i64 a] 27) := ⟨_, rfl⟩
  obtain ⟨b7, hb7⟩ : ∃ q, q = u1.heap.size := ⟨_, rfl⟩
  have z2 := hide (show b7 = u1.heap.size ∧ u2.heap.size = b7 + 1 by rw [hu2, hb7]; simp)
  rw [← hu2] at X O
  rw [← hb7] at X O
  simp only [List.cons_append, List.nil_append] at X
  have d0 := X.out.cell 0 0 rfl rfl
  have d1 := X.out.cell 0 1 rfl rfl
  have d2 := X.out.cell 0 2 rfl rfl
  have d3 := X.out.cell 0 3 rfl rfl
  have d4 := X.out.cell 0 4 rfl rfl
  rw [hu2] at d0 d1 d2 d3 d4
  go_wp2_with fail
  rw [← hu2]
  try rw [← hb7]
  clear hu2 hb7
  go_at_call 24
  refine (sIsMp_any _ l r t ps a _ B (V.out _ X.out.below) (Nat.le_trans hB X.out.below.size)).mono ?_
  rintro e u3 ⟨rfl, hb⟩
  rw [← Ht1.out]
  have X := hide (X.out.up hb)
  have O := hide (O.out.below hb)
  have z3 := hide hb.size
  clear hb
  clear d0 d1 d2 d3 d4
  cases t1
  · skip
    have d0 := X.out.cell 2 0 rfl rfl
    have d1 := X.out.cell 2 1 rfl rfl
    have d2 := X.out.cell 2 2 rfl rfl
    have d3 := X.out.cell 2 3 rfl rfl
    have d4 := X.out.cell 2 4 rfl rfl
    have c0 := X.out.cell 1 0 rfl rfl
    have c1 := X.out.cell 1 1 rfl rfl
    have c2 := X.out.cell 1 2 rfl rfl
    have c3 := X.out.cell 1 3 rfl rfl
    have c4 := X.out.cell 1 4 rfl rfl
    have fc0 := X.out.free 1 0 rfl
    have fc1 := X.out.free 1 1 rfl
    have fc2 := X.out.free 1 2 rfl
    have fc3 := X.out.free 1 3 rfl
    have fc4 := X.out.free 1 4 rfl
    have Z := (((((X.out.set 1 0 rfl (.slice x1 l.length m1)).set 1 1 rfl (.slice x2 r.length m2)).set 1 2 rfl (.slice x3 ps.length m3)).set 1 3 rfl (.slice x4 t.length m4)).set 1 4 rfl (.int .i64 a))
    have y0 := Z.cell 1 0 rfl rfl
    have y1 := Z.cell 1 1 rfl rfl
    have y2 := Z.cell 1 2 rfl rfl
    have y3 := Z.cell 1 3 rfl rfl
    have y4 := Z.cell 1 4 rfl rfl
    have sg : Seg (w.heap.size + 1) (w.heap.size + 1 + 1) u3 (((((u3.setCell ⟨w.heap.size + 1, 0, none⟩ (.slice x1 l.length m1)).setCell ⟨w.heap.size + 1, 1, none⟩ (.slice x2 r.length m2)).setCell ⟨w.heap.size + 1, 2, none⟩ (.slice x3 ps.length m3)).setCell ⟨w.heap.size + 1, 3, none⟩ (.slice x4 t.length m4)).setCell ⟨w.heap.size + 1, 4, none⟩ (.int .i64 a)) := Seg.setCell5 _ _ _ _ _ _ _
    go_wp2_with fail
    have q0 := z0.out
    have q1 := z1.out
    have q2 := z2.out
    have O := O.out.seg sg (.inr (by omega))
    obtain ⟨e1, e2⟩ := HNO.out rfl
    rw [e1, e2]
    have hsz := Z.below.size
    have ot := O.top
    exact bodyPost_ret (v := .tuple #[.agg #[.slice x1 l.length m1, .slice x2 r.length m2, .slice x3 ps.length m3, .slice x4 t.length m4, .int .i64 a], .int .i64 0, .bool false]) (by simp [results, Try.results29, go_sem, y0, y1, y2, y3, y4]) rfl ⟨_, rfl, O.mono (by omega) (by omega) (Nat.le_refl _), Z.below⟩
  · skip
    go_wp2_with fail
    go_at_call 87
    refine (sHist_any _ h _ B (HH.out _ X.out.below) (Nat.le_trans hB X.out.below.size)).mono ?_
    rintro e u4 ⟨rfl, hb⟩
    rw [← Ht2.out]
    have X := hide (X.out.up hb)
    have O := hide (O.out.below hb)
    have z3 := hide (Nat.le_trans z3.out hb.size)
    clear hb
    cases t2
    · skip
      have d0 := X.out.cell 2 0 rfl rfl
      have d1 := X.out.cell 2 1 rfl rfl
      have d2 := X.out.cell 2 2 rfl rfl
      have d3 := X.out.cell 2 3 rfl rfl
      have d4 := X.out.cell 2 4 rfl rfl
      have c0 := X.out.cell 1 0 rfl rfl
      have c1 := X.out.cell 1 1 rfl rfl
      have c2 := X.out.cell 1 2 rfl rfl
      have c3 := X.out.cell 1 3 rfl rfl
      have c4 := X.out.cell 1 4 rfl rfl
      have fc0 := X.out.free 1 0 rfl
      have fc1 := X.out.free 1 1 rfl
      have fc2 := X.out.free 1 2 rfl
      have fc3 := X.out.free 1 3 rfl
      have fc4 := X.out.free 1 4 rfl
      have Z := (((((X.out.set 1 0 rfl (.slice x1 l.length m1)).set 1 1 rfl (.slice x2 r.length m2)).set 1 2 rfl (.slice x3 ps.length m3)).set 1 3 rfl (.slice x4 t.length m4)).set 1 4 rfl (.int .i64 a))
      have y0 := Z.cell 1 0 rfl rfl
      have y1 := Z.cell 1 1 rfl rfl
      have y2 := Z.cell 1 2 rfl rfl
      have y3 := Z.cell 1 3 rfl rfl
      have y4 := Z.cell 1 4 rfl rfl
      have sg : Seg (w.heap.size + 1) (w.heap.size + 1 + 1) u4 (((((u4.setCell ⟨w.heap.size + 1, 0, none⟩ (.slice x1 l.length m1)).setCell ⟨w.heap.size + 1, 1, none⟩ (.slice x2 r.length m2)).setCell ⟨w.heap.size + 1, 2, none⟩ (.slice x3 ps.length m3)).setCell ⟨w.heap.size + 1, 3, none⟩ (.slice x4 t.length m4)).setCell ⟨w.heap.size + 1, 4, none⟩ (.int .i64 a)) := Seg.setCell5 _ _ _ _ _ _ _
      go_wp2_with fail
      have q0 := z0.out
      have q1 := z1.out
      have q2 := z2.out
      have O := O.out.seg sg (.inr (by omega))
      obtain ⟨e1, e2⟩ := HNO.out rfl
      rw [e1, e2]
      have hsz := Z.below.size
      have ot := O.top
      exact bodyPost_ret (v := .tuple #[.agg #[.slice x1 l.length m1, .slice x2 r.length m2, .slice x3 ps.length m3, .slice x4 t.length m4, .int .i64 a], .int .i64 0, .bool false]) (by simp [results, Try.results29, go_sem, y0, y1, y2, y3, y4]) rfl ⟨_, rfl, O.mono (by omega) (by omega) (Nat.le_refl _), Z.below⟩
    · cases t3
      · skip
        have d0 := X.out.cell 2 0 rfl rfl
        have d1 := X.out.cell 2 1 rfl rfl
        have d2 := X.out.cell 2 2 rfl rfl
        have d3 := X.out.cell 2 3 rfl rfl
        have d4 := X.out.cell 2 4 rfl rfl
        have c0 := X.out.cell 1 0 rfl rfl
        have c1 := X.out.cell 1 1 rfl rfl
        have c2 := X.out.cell 1 2 rfl rfl
        have c3 := X.out.cell 1 3 rfl rfl
        have c4 := X.out.cell 1 4 rfl rfl
        have fc0 := X.out.free 1 0 rfl
        have fc1 := X.out.free 1 1 rfl
        have fc2 := X.out.free 1 2 rfl
        have fc3 := X.out.free 1 3 rfl
        have fc4 := X.out.free 1 4 rfl
        have g4 := X.out.cell 0 4 rfl rfl
        have Z := (((((X.out.set 1 0 rfl (.slice x1 l.length m1)).set 1 1 rfl (.slice x2 r.length m2)).set 1 2 rfl (.slice x3 ps.length m3)).set 1 3 rfl (.slice x4 t.length m4)).set 1 4 rfl (.int .i64 a))
        have y0 := Z.cell 1 0 rfl rfl
        have y1 := Z.cell 1 1 rfl rfl
        have y2 := Z.cell 1 2 rfl rfl
        have y3 := Z.cell 1 3 rfl rfl
        have y4 := Z.cell 1 4 rfl rfl
        have sg : Seg (w.heap.size + 1) (w.heap.size + 1 + 1) u4 (((((u4.setCell ⟨w.heap.size + 1, 0, none⟩ (.slice x1 l.length m1)).setCell ⟨w.heap.size + 1, 1, none⟩ (.slice x2 r.length m2)).setCell ⟨w.heap.size + 1, 2, none⟩ (.slice x3 ps.length m3)).setCell ⟨w.heap.size + 1, 3, none⟩ (.slice x4 t.length m4)).setCell ⟨w.heap.size + 1, 4, none⟩ (.int .i64 a)) := Seg.setCell5 _ _ _ _ _ _ _
        go_wp2_with fail
        have q0 := z0.out
        have q1 := z1.out
        have q2 := z2.out
        have O := O.out.seg sg (.inr (by omega))
        obtain ⟨e1, e2⟩ := HNO.out rfl
        rw [e1, e2]
        have hsz := Z.below.size
        have ot := O.top
        exact bodyPost_ret (v := .tuple #[.agg #[.slice x1 l.length m1, .slice x2 r.length m2, .slice x3 ps.length m3, .slice x4 t.length m4, .int .i64 a], .int .i64 0, .bool false]) (by simp [results, Try.results29, go_sem, y0, y1, y2, y3, y4]) rfl ⟨_, rfl, O.mono (by omega) (by omega) (Nat.le_refl _), Z.below⟩
      · skip
        obtain ⟨a0, rfl, ha0, eM, eN, hm, hhi⟩ := HYE.out rfl
        have HOK := hide (fun (k : Nat) (hk : a0 + k ≤ h.length) => alK_ok hm hhi ha0 HWF.out k hk)
        have HSU := hide (fun (k : Nat) (hk : a0 + k < h.length) => alK_succ l r ps t h a0 k hk)
        have HI64 := hide (fun (k : Nat) (hk : k < h.length) => show I64 (h[k]'hk) by
          have hh2 := hhi
          rw [hist_of] at hh2
          simp only [Bool.and_eq_true, List.all_eq_true] at hh2
          have h3 : -1000 ≤ h[k] ∧ h[k] ≤ 1000 := of_decide_eq_true (hh2.1 _ (List.getElem_mem hk))
          exact ⟨by omega, by omega⟩)
        have HEM := hide eM
        have HEN := hide eN
        clear eM eN hm hhi HYE HNO
        obtain ⟨K, hK⟩ : ∃ q, q = alK l r ps t h a0 := ⟨_, rfl⟩
        rw [← hK] at HOK HSU HEM
        have hK0 : K 0 = ⟨l, r, ps, t, (a0 : Int)⟩ := by rw [hK]; rfl
        clear hK
        have g4 := X.out.cell 0 4 rfl rfl
        go_upto_region 5 with fail
        clear g4
        go_loopw [8] (fun u wr => ∃ (k : Nat) (y1 : Option Addr) (n1 : Nat) (y2 : Option Addr) (n2 : Nat) (y3 : Option Addr) (n3 : Nat) (y4 : Option Addr) (n4 : Nat) (lo hi : Nat), k ≤ h.length - a0 ∧ u = .int .i64 k ∧ Hid (Kn w wr [(w.heap.size, #[.slice a1 l.length c1, .slice a2 r.length c2, .slice a3 ps.length c3, .slice a4 t.length c4, .int .i64 (a0 : Int)], 27), (w.heap.size + 1, #[.slice none 0 0, .slice none 0 0, .slice none 0 0, .slice none 0 0, .int .i64 0], 27), (b7, #[.slice y1 (K k).l.length n1, .slice y2 (K k).r.length n2, .slice y3 (K k).p.length n3, .slice y4 (K k).t.length n4, .int .i64 ((a0 + k : Nat) : Int)], 27)]) ∧ Hid (MpO wr (.agg #[.slice y1 (K k).l.length n1, .slice y2 (K k).r.length n2, .slice y3 (K k).p.length n3, .slice y4 (K k).t.length n4, .int .i64 ((a0 + k : Nat) : Int)]) (K k).l (K k).r (K k).p (K k).t ((a0 + k : Nat) : Int) lo hi) ∧ Hid (w.heap.size + 1 < lo ∧ (b7 < lo ∨ hi ≤ b7) ∧ w.heap.size + 1 < b7)) (fun u _ => h.length - a0 - (intOf u).toNat)
        case atStart =>
          have q0 := z0.out
          have q1 := z1.out
          have q2 := z2.out
          have ot := O.out.top
          refine ⟨0, x1, m1, x2, m2, x3, m3, x4, m4, u0.heap.size, b7, by omega, rfl, ?_, ?_, ?_⟩
          · rw [hK0]; exact X.out
          · rw [hK0]; exact O.out
          · exact ⟨by omega, .inr (Nat.le_refl _), by omega⟩
        case round =>
          clear X O hK0
          obtain ⟨k, y1, n1, y2, n2, y3, n3, y4, n4, lo, hi, hk, rfl, X, O, NB⟩ := hrel
          have e4 := X.out.cell 2 4 rfl rfl
          by_cases hlt : k < h.length - a0
          · have hix : a0 + k < h.length := by omega
            obtain ⟨hb_, ho_, rfl, hb1, hc1⟩ := HCE.out (a0 + k) hix
            have hok := HOK.out k (by omega)
            have hsu := HSU.out k hix
            have hv := HI64.out (a0 + k) hix
            obtain ⟨v, hve⟩ : ∃ v, v = h[a0 + k] := ⟨_, rfl⟩
            rw [← hve] at hc1 hv hsu
            obtain ⟨hmp, hma, hmw⟩ := hok
            have hln := isMp_len hmp
            obtain ⟨M, hM⟩ : ∃ M, M = K k := ⟨_, rfl⟩
            obtain ⟨M2, hM2⟩ : ∃ M, M = K (k + 1) := ⟨_, rfl⟩
            rw [← hM] at X O hsu hmp hma hmw hln
            rw [← hM2] at hsu
            have HM2 := hide hM2
            obtain ⟨bb, hbb⟩ : ∃ q, q = mcB M.l M.r M.p M.t ((a0 + k : Nat) : Int) v := ⟨_, rfl⟩
            have HCM := hide (fun (x : Value) (W : World) (hx : Mp W W.heap.size x M.l M.r M.p M.t ((a0 + k : Nat) : Int)) => show Calls Try.prog 27 #[x, .int .i64 v] W (RetMpB W M2.l M2.r M2.p M2.t ((a0 + k : Nat) : Int) bb) by
              rw [hbb, hsu]
              show Calls _ _ _ _ (RetMpB W (mcL M.l M.r M.p M.t M.a v) (mcR M.l M.r M.p M.t M.a v) (mcP M.l M.r M.p M.t M.a v) (mcT M.l M.r M.p M.t M.a v) _ _)
              rw [hma]
              exact sCm_any x M.l M.r M.p M.t _ v W W.heap.size hx (Nat.le_refl _) (by omega) (by omega) (by omega) (by omega) hv)
            have HMW := hide hmw
            have bk : decide (((a0 + k : Nat) : Int) < (h.length : Int)) = true := by simp; omega
            have HC1 := hide hc1
            have X0 := X
            have ha9 : a0 + k ≤ 1048576 := by omega
            clear hsu hbb hve hmp hma hmw hln hv hM hM2 hc1
            go_upto_region 6 with fail
            clear bk e4
            have X1 := X
            refine wp_region_any (by kernel_rfl) ?_
            refine wpAny_facts (w0 := wr) (fun i => ([(fun lo hi s W => s 35 = .agg #[.slice y1 M.l.length n1, .slice y2 M.r.length n2, .slice y3 M.p.length n3, .slice y4 M.t.length n4, .int .i64 ((a0 + k : Nat) : Int)]),
              (fun lo hi s W => s 36 = .slice (some ⟨hb_, ho_, none⟩) h.length hc),
              (fun lo hi s W => s 37 = .pointer (some ⟨b7, 4, none⟩)),
              (fun lo hi s W => s 38 = .int .i64 ((a0 + k : Nat) : Int)),
              (fun lo hi s W => s 39 = .pointer (some ⟨hb_, ho_ + (a0 + k), none⟩)),
              (fun lo hi s W => s 40 = .int .i64 v),
              (fun lo hi s W => ∃ q, s 41 = .tuple #[q, .bool bb] ∧ MpO W q M2.l M2.r M2.p M2.t ((a0 + k : Nat) : Int) lo hi),
              (fun lo hi s W => s 34 = s 41),
              (fun lo hi s W => s 42 = cmpV (s 34) 0),
              (fun lo hi s W => s 43 = cmpV (s 34) 1),
              (fun lo hi s W => ∃ g cs, s 9 = .pointer (some ⟨g, 0, none⟩) ∧ lo ≤ g ∧ g < hi ∧ W.heap[g]? = some (.cells cs 27 (0, 0)) ∧ cs.size = 5),
              (fun lo hi s W => ∃ g cs, s 9 = .pointer (some ⟨g, 0, none⟩) ∧ s 42 = .agg cs ∧ lo ≤ g ∧ g < hi ∧ W.heap[g]? = some (.cells cs 27 (0, 0))),
              (fun lo hi s W => s 10 = s 43)] : List (Nat → Nat → (Nat → Value) → World → Prop)).getD i (fun _ _ _ _ => True)) [[], [], [], [2], [1, 2, 3], [1, 2, 3, 4], [0, 1, 2, 3, 4, 5], [0, 1, 2, 3, 4, 5, 6], [0, 1, 2, 3, 4, 5, 6, 7], [0, 1, 2, 3, 4, 5, 6, 7], [], [0, 1, 2, 3, 4, 5, 6, 7, 8, 10], [0, 1, 2, 3, 4, 5, 6, 7, 8, 9, 10, 11]] [0, 1, 2, 3, 4, 5, 6, 7, 8, 9, 10, 10, 12] [[35], [36], [37], [38], [39], [40], [41], [34, 41], [42, 34], [43, 34], [9], [9, 42], [10, 43]] [[], [], [], [], [], [], [], [], [], [], [], [10], []] (by kernel_rfl) (by kernel_rfl) ?st ?step ?fin
            case st =>
              intro i hi lo hi' s W W' hF q1 q2 q3 q4 k_
              have hi : i < 13 := hi
              rcases (show i = 0 ∨ i = 1 ∨ i = 2 ∨ i = 3 ∨ i = 4 ∨ i = 5 ∨ i = 6 ∨ i = 7 ∨ i = 8 ∨ i = 9 ∨ i = 10 ∨ i = 11 ∨ i = 12 by omega) with rfl | rfl | rfl | rfl | rfl | rfl | rfl | rfl | rfl | rfl | rfl | rfl | rfl
              · have hF : s 35 = .agg #[.slice y1 M.l.length n1, .slice y2 M.r.length n2, .slice y3 M.p.length n3, .slice y4 M.t.length n4, .int .i64 ((a0 + k : Nat) : Int)] := hF
                show s 35 = .agg #[.slice y1 M.l.length n1, .slice y2 M.r.length n2, .slice y3 M.p.length n3, .slice y4 M.t.length n4, .int .i64 ((a0 + k : Nat) : Int)]
                exact hF
              · have hF : s 36 = .slice (some ⟨hb_, ho_, none⟩) h.length hc := hF
                show s 36 = .slice (some ⟨hb_, ho_, none⟩) h.length hc
                exact hF
              · have hF : s 37 = .pointer (some ⟨b7, 4, none⟩) := hF
                show s 37 = .pointer (some ⟨b7, 4, none⟩)
                exact hF
              · have hF : s 38 = .int .i64 ((a0 + k : Nat) : Int) := hF
                show s 38 = .int .i64 ((a0 + k : Nat) : Int)
                exact hF
              · have hF : s 39 = .pointer (some ⟨hb_, ho_ + (a0 + k), none⟩) := hF
                show s 39 = .pointer (some ⟨hb_, ho_ + (a0 + k), none⟩)
                exact hF
              · have hF : s 40 = .int .i64 v := hF
                show s 40 = .int .i64 v
                exact hF
              · have hF : ∃ q, s 41 = .tuple #[q, .bool bb] ∧ MpO W q M2.l M2.r M2.p M2.t ((a0 + k : Nat) : Int) lo hi' := hF
                show ∃ q, s 41 = .tuple #[q, .bool bb] ∧ MpO W' q M2.l M2.r M2.p M2.t ((a0 + k : Nat) : Int) lo hi'
                obtain ⟨q, e1, e2⟩ := hF; exact ⟨q, e1, e2.on k_⟩
              · have hF : s 34 = s 41 := hF
                show s 34 = s 41
                exact hF
              · have hF : s 42 = cmpV (s 34) 0 := hF
                show s 42 = cmpV (s 34) 0
                exact hF
              · have hF : s 43 = cmpV (s 34) 1 := hF
                show s 43 = cmpV (s 34) 1
                exact hF
              · have hF : ∃ g cs, s 9 = .pointer (some ⟨g, 0, none⟩) ∧ lo ≤ g ∧ g < hi' ∧ W.heap[g]? = some (.cells cs 27 (0, 0)) ∧ cs.size = 5 := hF
                show ∃ g cs, s 9 = .pointer (some ⟨g, 0, none⟩) ∧ lo ≤ g ∧ g < hi' ∧ W'.heap[g]? = some (.cells cs 27 (0, 0)) ∧ cs.size = 5
                obtain ⟨g, cs, e1, e2, e3, e4, e5⟩ := hF; exact ⟨g, cs, e1, e2, e3, (k_.own g e2 e3 (Array.getElem?_eq_some_iff.1 e4).1).trans e4, e5⟩
              · have hF : ∃ g cs, s 9 = .pointer (some ⟨g, 0, none⟩) ∧ s 42 = .agg cs ∧ lo ≤ g ∧ g < hi' ∧ W.heap[g]? = some (.cells cs 27 (0, 0)) := hF
                show ∃ g cs, s 9 = .pointer (some ⟨g, 0, none⟩) ∧ s 42 = .agg cs ∧ lo ≤ g ∧ g < hi' ∧ W'.heap[g]? = some (.cells cs 27 (0, 0))
                obtain ⟨g, cs, e1, e2, e3, e4, e5⟩ := hF; exact ⟨g, cs, e1, e2, e3, e4, (k_.own g e3 e4 (Array.getElem?_eq_some_iff.1 e5).1).trans e5⟩
              · have hF : s 10 = s 43 := hF
                show s 10 = s 43
                exact hF
            case step =>
              intro i hi ac W iv hb hsz hdf hrest hanc hivs hap K_ HK
              have hi : i < 13 := hi
              have HK := hide HK
              have HAN := hide hanc
              have HIV := hide hivs
              have HRS := hide hrest
              have XU := hide (X1.out.up hb)
              have HB := hide hb
              clear hanc hivs hap hrest hb hsz hdf X X1
              rcases (show i = 0 ∨ i = 1 ∨ i = 2 ∨ i = 3 ∨ i = 4 ∨ i = 5 ∨ i = 6 ∨ i = 7 ∨ i = 8 ∨ i = 9 ∨ i = 10 ∨ i = 11 ∨ i = 12 by omega) with rfl | rfl | rfl | rfl | rfl | rfl | rfl | rfl | rfl | rfl | rfl | rfl | rfl
              · refine wpOp_step (o := _) rfl fun K' hK => ?_
                rw [if_pos (by go_simp)]
                have e1 : ac.tmps.getD 7 undef = .pointer (some ⟨b7, 0, none⟩) := (HRS.out 7 (by decide)).trans rfl
                have q0 := XU.out.cell 2 0 rfl rfl
                have q1 := XU.out.cell 2 1 rfl rfl
                have q2 := XU.out.cell 2 2 rfl rfl
                have q3 := XU.out.cell 2 3 rfl rfl
                have q4 := XU.out.cell 2 4 rfl rfl
                go_simp
                exact hK _ _ (HK.out _ _ ⟨fun _ => ⟨Below.refl _ _, rfl⟩, fun h => absurd rfl h⟩)
              · refine wpOp_step (o := _) rfl fun K' hK => ?_
                rw [if_pos (by go_simp)]
                have e1 : ac.tmps.getD 1 undef = .slice (some ⟨hb_, ho_, none⟩) h.length hc := (HRS.out 1 (by decide)).trans rfl
                go_simp
                exact hK _ _ (HK.out _ _ ⟨fun _ => ⟨Below.refl _ _, rfl⟩, fun h => absurd rfl h⟩)
              · refine wpOp_step (o := _) rfl fun K' hK => ?_
                rw [if_pos (by go_simp)]
                have e1 : ac.tmps.getD 7 undef = .pointer (some ⟨b7, 0, none⟩) := (HRS.out 7 (by decide)).trans rfl
                go_simp
                exact hK _ _ (HK.out _ _ ⟨fun _ => ⟨Below.refl _ _, rfl⟩, fun h => absurd rfl h⟩)
              · refine wpOp_step (o := _) rfl fun K' hK => ?_
                rw [if_pos (by go_simp)]
                have e1 : ac.tmps.getD 37 undef = .pointer (some ⟨b7, 4, none⟩) := HAN.out 2 (by decide)
                have q4 := XU.out.cell 2 4 rfl rfl
                go_simp
                exact hK _ _ (HK.out _ _ ⟨fun _ => ⟨Below.refl _ _, rfl⟩, fun h => absurd rfl h⟩)
              · refine wpOp_step (o := _) rfl fun K' hK => ?_
                rw [if_pos (by go_simp)]
                have e1 : ac.tmps.getD 36 undef = .slice (some ⟨hb_, ho_, none⟩) h.length hc := HAN.out 1 (by decide)
                have e2 : ac.tmps.getD 38 undef = .int .i64 ((a0 + k : Nat) : Int) := HAN.out 3 (by decide)
                go_simp
                exact hK _ _ (HK.out _ _ ⟨fun _ => ⟨Below.refl _ _, rfl⟩, fun h => absurd rfl h⟩)
              · refine wpOp_step (o := _) rfl fun K' hK => ?_
                rw [if_pos (by go_simp)]
                have e1 : ac.tmps.getD 39 undef = .pointer (some ⟨hb_, ho_ + (a0 + k), none⟩) := HAN.out 4 (by decide)
                have c0 := ((X0.out.below.trans (HB.out.mono X0.out.below.size)).cell (p := ⟨hb_, ho_ + (a0 + k), none⟩) (Nat.lt_of_lt_of_le hb1 hB)).trans HC1.out
                go_simp
                exact hK _ _ (HK.out _ _ ⟨fun _ => ⟨Below.refl _ _, rfl⟩, fun h => absurd rfl h⟩)
              · refine wpOp_step (o := _) rfl fun K' hK => ?_
                rw [if_pos (by go_simp)]
                have e1 : ac.tmps.getD 35 undef = .agg #[.slice y1 M.l.length n1, .slice y2 M.r.length n2, .slice y3 M.p.length n3, .slice y4 M.t.length n4, .int .i64 ((a0 + k : Nat) : Int)] := HAN.out 0 (by decide)
                have e2 : ac.tmps.getD 40 undef = .int .i64 v := HAN.out 5 (by decide)
                have hx := hide ((O.out.below HB.out).rd HMW.out)
                go_simp
                go_at_call 27
                refine (HCM.out _ W hx.out).mono ?_
                rintro e W' ⟨q, rfl, ho, hbb⟩
                exact hK _ _ (HK.out _ _ ⟨fun _ => ⟨hbb, ⟨_, rfl, ho⟩⟩, fun h => absurd rfl h⟩)
              · refine wpOp_step (o := _) rfl fun K' hK => ?_
                rw [if_pos (by go_simp)]
                obtain ⟨y, e1⟩ : ∃ y, ac.tmps.getD 41 undef = y := ⟨_, rfl⟩
                go_simp
                exact hK _ _ (HK.out _ _ ⟨fun _ => ⟨Below.refl _ _, e1.symm⟩, fun h => absurd rfl h⟩)
              · refine wpOp_step (o := _) rfl fun K' hK => ?_
                rw [if_pos (by go_simp)]
                obtain ⟨q, h0, -⟩ : ∃ q, ac.tmps.getD 41 undef = .tuple #[q, .bool bb] ∧ _ := HAN.out 6 (by decide)
                have h1 : ac.tmps.getD 34 undef = ac.tmps.getD 41 undef := HAN.out 7 (by decide)
                rw [h0] at h1
                clear h0
                go_simp
                exact hK _ _ (HK.out _ _ ⟨fun _ => ⟨Below.refl _ _, by show _ = cmpV (ac.tmps.getD 34 undef) 0; rw [h1]; rfl⟩, fun h => absurd rfl h⟩)
              · refine wpOp_step (o := _) rfl fun K' hK => ?_
                rw [if_pos (by go_simp)]
                obtain ⟨q, h0, -⟩ : ∃ q, ac.tmps.getD 41 undef = .tuple #[q, .bool bb] ∧ _ := HAN.out 6 (by decide)
                have h1 : ac.tmps.getD 34 undef = ac.tmps.getD 41 undef := HAN.out 7 (by decide)
                rw [h0] at h1
                clear h0
                go_simp
                exact hK _ _ (HK.out _ _ ⟨fun _ => ⟨Below.refl _ _, by show _ = cmpV (ac.tmps.getD 34 undef) 1; rw [h1]; rfl⟩, fun h => absurd rfl h⟩)
              · refine wpOp_step (o := _) rfl fun K' hK => ?_
                rw [if_pos (by go_simp)]
                go_simp
                exact hK _ _ (HK.out _ _ ⟨fun _ => ⟨below1 W _, ⟨W.heap.size, _, rfl, Nat.le_refl _, by simp, heap_alloc_new W _, rfl⟩⟩, fun h => absurd rfl h⟩)
              · refine wpOp_step (o := _) rfl fun K' hK => ?_
                rw [if_pos (by go_simp)]
                obtain ⟨g, cs, e1, g1, g2, g3, g4⟩ : ∃ g cs, ac.tmps.getD 9 undef = .pointer (some ⟨g, 0, none⟩) ∧ (iv 10).1 ≤ g ∧ g < (iv 10).2 ∧ W.heap[g]? = some (.cells cs 27 (0, 0)) ∧ cs.size = 5 := HAN.out 10 (by decide)
                obtain ⟨q, h0, oq⟩ : ∃ q, ac.tmps.getD 41 undef = .tuple #[q, .bool bb] ∧ MpO W q M2.l M2.r M2.p M2.t ((a0 + k : Nat) : Int) (iv 6).1 (iv 6).2 := HAN.out 6 (by decide)
                obtain ⟨x0, y0, x1, y1', x2, y2', x3, y3', hf⟩ := oq.form
                rw [hf] at h0
                clear hf oq
                have h1 : ac.tmps.getD 34 undef = ac.tmps.getD 41 undef := HAN.out 7 (by decide)
                rw [h0] at h1
                clear h0
                have h2 : ac.tmps.getD 42 undef = cmpV (ac.tmps.getD 34 undef) 0 := HAN.out 8 (by decide)
                rw [h1] at h2
                clear h1
                have h0 : ac.tmps.getD 42 undef = .agg #[.slice x0 M2.l.length y0, .slice x1 M2.r.length y1', .slice x2 M2.p.length y2', .slice x3 M2.t.length y3', .int .i64 ((a0 + k : Nat) : Int)] := h2
                clear h2
                have G3 := hide g3
                obtain ⟨z0_, z1_, z2_, z3_, z4_, rfl⟩ := size5 g4
                have cq0 : W.cell? ⟨g, 0, none⟩ = some z0_ := cell_of_row W g 0 _ _ (0, 0) g3
                have fq0 : W.frozen? ⟨g, 0, none⟩ = false := frozen_of_row W g 0 _ _ g3
                have cq1 : W.cell? ⟨g, 1, none⟩ = some z1_ := cell_of_row W g 1 _ _ (0, 0) g3
                have fq1 : W.frozen? ⟨g, 1, none⟩ = false := frozen_of_row W g 1 _ _ g3
                have cq2 : W.cell? ⟨g, 2, none⟩ = some z2_ := cell_of_row W g 2 _ _ (0, 0) g3
                have fq2 : W.frozen? ⟨g, 2, none⟩ = false := frozen_of_row W g 2 _ _ g3
                have cq3 : W.cell? ⟨g, 3, none⟩ = some z3_ := cell_of_row W g 3 _ _ (0, 0) g3
                have fq3 : W.frozen? ⟨g, 3, none⟩ = false := frozen_of_row W g 3 _ _ g3
                have cq4 : W.cell? ⟨g, 4, none⟩ = some z4_ := cell_of_row W g 4 _ _ (0, 0) g3
                have fq4 : W.frozen? ⟨g, 4, none⟩ = false := frozen_of_row W g 4 _ _ g3
                clear g3 g4
                go_simp
                exact hK _ _ (HK.out undef _ ⟨fun h => absurd h (by decide), fun _ => ⟨segS5 g1 g2 _ _ _ _ _, ⟨g, _, e1, h0, g1, g2, heap_put5 G3.out rfl _ _ _ _ _⟩, fun j hj => by
                  obtain rfl : j = 10 := by simpa using hj
                  intro _
                  exact ⟨g, _, e1, g1, g2, heap_put5 G3.out rfl _ _ _ _ _, rfl⟩⟩⟩)
              · refine wpOp_step (o := _) rfl fun K' hK => ?_
                rw [if_pos (by go_simp)]
                obtain ⟨y, e1⟩ : ∃ y, ac.tmps.getD 43 undef = y := ⟨_, rfl⟩
                go_simp
                exact hK _ _ (HK.out _ _ ⟨fun _ => ⟨Below.refl _ _, e1.symm⟩, fun h => absurd rfl h⟩)
            case fin =>
            intro ac wz iv I
            have hbY := I.below
            obtain ⟨q, E41, OQ⟩ : ∃ q, slot ac 41 = .tuple #[q, .bool bb] ∧ MpO wz q M2.l M2.r M2.p M2.t ((a0 + k : Nat) : Int) (iv 6).1 (iv 6).2 := (I.fact 6 (by decide) rfl).2
            have E34 : slot ac 34 = slot ac 41 := (I.fact 7 (by decide) rfl).2
            have E42 : slot ac 42 = cmpV (slot ac 34) 0 := (I.fact 8 (by decide) rfl).2
            obtain ⟨g, cs, E9, E42', g1, g2, hcg⟩ : ∃ g cs, slot ac 9 = .pointer (some ⟨g, 0, none⟩) ∧ slot ac 42 = .agg cs ∧ (iv 10).1 ≤ g ∧ g < (iv 10).2 ∧ wz.heap[g]? = some (.cells cs 27 (0, 0)) := (I.fact 11 (by decide) rfl).2
            obtain ⟨iv6a, iv6b, iv6c⟩ := I.ivs 6 (by decide) rfl rfl
            obtain ⟨iva, ivb, ivc⟩ := I.ivs 10 (by decide) rfl rfl
            have ap := I.apart 6 10 (by decide) (by decide) rfl rfl rfl rfl (by decide)
            obtain ⟨x0, p0, x1', p1, x2', p2, x3', p3, hf⟩ := OQ.form
            subst hf
            rw [E34, E41] at E42
            rw [E42] at E42'
            obtain rfl : cs = #[.slice x0 M2.l.length p0, .slice x1' M2.r.length p1, .slice x2' M2.p.length p2, .slice x3' M2.t.length p3, .int .i64 ((a0 + k : Nat) : Int)] := by injection E42' with hv; exact hv.symm
            obtain ⟨lo2, hlo2⟩ : ∃ q, q = (iv 6).1 := ⟨_, rfl⟩
            obtain ⟨hi2, hhi2⟩ : ∃ q, q = (iv 6).2 := ⟨_, rfl⟩
            rw [← hlo2, ← hhi2] at OQ
            have hb7 := X1.out.lt 2 rfl
            have hs := hbY.size
            have NB2 := hide (show wr.heap.size ≤ lo2 ∧ hi2 ≤ wz.heap.size ∧ wr.heap.size ≤ g ∧ (g < lo2 ∨ hi2 ≤ g) ∧ b7 < wr.heap.size ∧ w.heap.size + 1 < b7 ∧ lo2 ≤ hi2 by have := NB.out; omega)
            rw [frame_of [35, 36, 37, 38, 39, 40, 41, 34, 42, 43, 9, 10] I.size I.defers (fun s hs => I.rest s (rfDsts_spec (by kernel_rfl) hs))]
            simp only [List.foldl_cons, List.foldl_nil, List.setIfInBounds_toArray, List.set_cons_succ, List.set_cons_zero, E9]
            generalize slot ac 35 = t35
            generalize slot ac 36 = t36
            generalize slot ac 37 = t37
            generalize slot ac 38 = t38
            generalize slot ac 39 = t39
            generalize slot ac 40 = t40
            generalize slot ac 41 = t41
            generalize slot ac 34 = t34
            generalize slot ac 42 = t42
            generalize slot ac 43 = t43
            generalize slot ac 10 = t10
            have XN := Kn.add (Kn.none hbY) hcg (by have := NB2.out; omega) (fun e he => by simp at he)
            have X := hide (Kn.joinR X1.out XN)
            simp only [List.cons_append, List.nil_append] at X
            have OQ := hide OQ
            clear I E9 E41 E34 E42 E42' g1 g2 hcg iv6a iv6b iv6c iva ivb ivc ap hlo2 hhi2 XN X1 hb7 hs hbY O
            try clear iv ac
            have s4 := X.out.cell 2 4 rfl rfl
            have r4 := X.out.cell 3 4 rfl rfl
            have fr4 := X.out.free 3 4 rfl
            go_upto_region 8 with fail
            clear s4 r4 fr4
            have X := hide (X.out.set 3 4 rfl (.int .i64 ((a0 : Int) + (k : Int) + 1)))
            have sg := Seg.setCell wz g 4 (.int .i64 ((a0 : Int) + (k : Int) + 1))
            have OQ := hide (OQ.out.seg sg (by have := NB2.out; omega))
            have hs5 := hide sg.below.size
            clear sg
            obtain ⟨u5, hu5⟩ : ∃ q, q = wz.setCell ⟨g, 4, none⟩ (.int .i64 ((a0 : Int) + (k : Int) + 1)) := ⟨_, rfl⟩
            rw [← hu5] at X OQ hs5 ⊢
            clear hu5
            have r0 := X.out.cell 3 0 rfl rfl
            have s0 := X.out.cell 2 0 rfl rfl
            have fs0 := X.out.free 2 0 rfl
            have r1 := X.out.cell 3 1 rfl rfl
            have s1 := X.out.cell 2 1 rfl rfl
            have fs1 := X.out.free 2 1 rfl
            have r2 := X.out.cell 3 2 rfl rfl
            have s2 := X.out.cell 2 2 rfl rfl
            have fs2 := X.out.free 2 2 rfl
            have r3 := X.out.cell 3 3 rfl rfl
            have s3 := X.out.cell 2 3 rfl rfl
            have fs3 := X.out.free 2 3 rfl
            have r4 := X.out.cell 3 4 rfl rfl
            have s4 := X.out.cell 2 4 rfl rfl
            have fs4 := X.out.free 2 4 rfl
            go_upto_region 9 with fail
            clear r0 s0 fs0 r1 s1 fs1 r2 s2 fs2 r3 s3 fs3 r4 s4 fs4
            have sg : Seg b7 (b7 + 1) u5 (((((u5.setCell ⟨b7, 0, none⟩ (.slice x0 M2.l.length p0)).setCell ⟨b7, 1, none⟩ (.slice x1' M2.r.length p1)).setCell ⟨b7, 2, none⟩ (.slice x2' M2.p.length p2)).setCell ⟨b7, 3, none⟩ (.slice x3' M2.t.length p3)).setCell ⟨b7, 4, none⟩ ((.int .i64 ((a0 : Int) + (k : Int) + 1)))) := Seg.setCell5 _ _ _ _ _ _ _
            have X := hide (((((X.out.set 2 0 rfl (.slice x0 M2.l.length p0)).set 2 1 rfl (.slice x1' M2.r.length p1)).set 2 2 rfl (.slice x2' M2.p.length p2)).set 2 3 rfl (.slice x3' M2.t.length p3)).set 2 4 rfl ((.int .i64 ((a0 : Int) + (k : Int) + 1))))
            have OQ := hide (OQ.out.seg sg (.inr (by have := NB2.out; omega)))
            have OQ := hide (OQ.out.app (b := ((a0 + (k + 1) : Nat) : Int)))
            clear sg
            obtain ⟨u6, hu6⟩ : ∃ q, q = (((((u5.setCell ⟨b7, 0, none⟩ (.slice x0 M2.l.length p0)).setCell ⟨b7, 1, none⟩ (.slice x1' M2.r.length p1)).setCell ⟨b7, 2, none⟩ (.slice x2' M2.p.length p2)).setCell ⟨b7, 3, none⟩ (.slice x3' M2.t.length p3)).setCell ⟨b7, 4, none⟩ ((.int .i64 ((a0 : Int) + (k : Int) + 1)))) := ⟨_, rfl⟩
            rw [← hu6] at X OQ ⊢
            clear hu6
            have ev : (a0 : Int) + (k : Int) + 1 = ((a0 + (k + 1) : Nat) : Int) := by omega
            go_wp2_with fail
            go_roundw
            case rel =>
              refine ⟨k + 1, x0, p0, x1', p1, x2', p2, x3', p3, lo2, hi2, by omega, by go_num, ?_, ?_, ?_⟩
              · rw [← HM2.out]
                have h3 := X.out
                rw [ev] at h3
                exact h3.sub (List.Sublist.cons_cons _ (List.Sublist.cons_cons _ (List.Sublist.cons_cons _ (List.nil_sublist _))))
              · rw [← HM2.out]; exact OQ.out
              · have := NB2.out
                exact ⟨by omega, .inl (by omega), by omega⟩
            case measure => simp [intOf]; omega
          · skip
            have ev : ((a0 + k : Nat) : Int) = (a0 : Int) + (k : Int) := by omega
            have h9 := X.out
            rw [ev] at h9
            have X := hide h9
            have h8 := O.out
            rw [ev] at h8
            have O := hide h8
            clear h9 h8
            have hke : h.length = a0 + k := by omega
            have ek : h.length - a0 = k := by omega
            have bk : decide (((a0 + k : Nat) : Int) < (h.length : Int)) = false := by simp; omega
            have e1 : RM = K k := by rw [HEM.out, ek]
            have e2 : RN = (k : Int) := by rw [HEN.out, ek]
            have hok := HOK.out k (by omega)
            have HE := hide (And.intro e1 (And.intro e2 hok.2.1))
            clear e1 e2 hok
            have d0 := X.out.cell 2 0 rfl rfl
            have d1 := X.out.cell 2 1 rfl rfl
            have d2 := X.out.cell 2 2 rfl rfl
            have d3 := X.out.cell 2 3 rfl rfl
            have d4 := X.out.cell 2 4 rfl rfl
            have c0 := X.out.cell 1 0 rfl rfl
            have c1 := X.out.cell 1 1 rfl rfl
            have c2 := X.out.cell 1 2 rfl rfl
            have c3 := X.out.cell 1 3 rfl rfl
            have c4 := X.out.cell 1 4 rfl rfl
            have fc0 := X.out.free 1 0 rfl
            have fc1 := X.out.free 1 1 rfl
            have fc2 := X.out.free 1 2 rfl
            have fc3 := X.out.free 1 3 rfl
            have fc4 := X.out.free 1 4 rfl
            have Z := (((((X.out.set 1 0 rfl (.slice y1 (K k).l.length n1)).set 1 1 rfl (.slice y2 (K k).r.length n2)).set 1 2 rfl (.slice y3 (K k).p.length n3)).set 1 3 rfl (.slice y4 (K k).t.length n4)).set 1 4 rfl (.int .i64 ((a0 : Int) + (k : Int))))
            have v0 := Z.cell 1 0 rfl rfl
            have v1 := Z.cell 1 1 rfl rfl
            have v2 := Z.cell 1 2 rfl rfl
            have v3 := Z.cell 1 3 rfl rfl
            have v4 := Z.cell 1 4 rfl rfl
            have sg : Seg (w.heap.size + 1) (w.heap.size + 1 + 1) wr (((((wr.setCell ⟨w.heap.size + 1, 0, none⟩ (.slice y1 (K k).l.length n1)).setCell ⟨w.heap.size + 1, 1, none⟩ (.slice y2 (K k).r.length n2)).setCell ⟨w.heap.size + 1, 2, none⟩ (.slice y3 (K k).p.length n3)).setCell ⟨w.heap.size + 1, 3, none⟩ (.slice y4 (K k).t.length n4)).setCell ⟨w.heap.size + 1, 4, none⟩ (.int .i64 ((a0 : Int) + (k : Int)))) := Seg.setCell5 _ _ _ _ _ _ _
            go_wp2_with fail
            obtain ⟨e1, e2, e3⟩ := HE.out
            have nb := NB.out
            have O := O.out.seg sg (.inr (by omega))
            have hsz := Z.below.size
            have ot := O.top
            rw [e1, e2, e3, ev]
            exact bodyPost_ret (v := .tuple #[.agg #[.slice y1 (K k).l.length n1, .slice y2 (K k).r.length n2, .slice y3 (K k).p.length n3, .slice y4 (K k).t.length n4, .int .i64 ((a0 : Int) + (k : Int))], .int .i64 (k : Int), .bool true]) (by simp [results, Try.results29, go_sem, v0, v1, v2, v3, v4]) rfl ⟨_, rfl, O.mono (by omega) (by omega) (Nat.le_refl _), Z.below⟩

end Go.Proofs.Ytepkkeclkdlheaa

/- slices.Insert of one pivot into pivots of the call's own: no room; at the end (promise 3). -/
namespace Go.Proofs.Ytepkkeclkdlheaa
open Go.RowKit Go.ChangeShapes
set_option linter.unusedSimpArgs false
set_option linter.unusedVariables false
set_option maxRecDepth 100000

theorem pvVs_drop (ps : List Pv) (i : Nat) : pvVs (ps.drop i) = (pvVs ps).drop (i * 2) := by
  have := congrArg pvVs (List.take_append_drop i ps)
  rw [pvVs_append, pvVs_take] at this
  have h2 := List.take_append_drop (i * 2) (pvVs ps)
  exact List.append_cancel_left (this.trans h2.symm)

set_option maxHeartbeats 4000000 in
theorem ins_grow (g c i vb vc : Nat) (x y : Int) (ps : List Pv) (lo hi : Nat) (w : World) (h : Owp w (.slice (some ⟨g, 0, none⟩) ps.length c) ps lo hi) (hi' : i < ps.length) (hc : c < ps.length + 1) (hv : w.heap[vb]? = some (.cells #[.int .i64 x, .int .i64 y] 147 (0, 0))) (hl : ps.length ≤ 1048576) :
    Calls Try.prog 184 #[.slice (some ⟨g, 0, none⟩) ps.length c, .int .i64 i, .slice (some ⟨vb, 0, none⟩) 1 vc] w (RetIns w (insAt ps i (x, y)) lo hi) := by
  have hg := h.lt g rfl
  rcases h.own.2 with ⟨hv0, hn⟩ | ⟨g', cap, cur, hv0, hlo, hgr, hnc, hcm, hcs, htk⟩
  · cases hv0
  simp only [Value.slice.injEq, Option.some.injEq, Addr.mk.injEq, and_true, true_and] at hv0
  obtain ⟨rfl, rfl⟩ := hv0
  obtain rfl : c = ps.length := by omega
  have hgw : g < w.heap.size := (Array.getElem?_eq_some_iff.1 hgr).1
  have hvw : vb < w.heap.size := (Array.getElem?_eq_some_iff.1 hv).1
  obtain ⟨i0, hi0, hi1, hi2, hi3⟩ := info_parts infoP
  have hsz2 : (Try.prog.info? 147).map (·.size) = some 2 := by rw [hi0]; simp [hi2]
  have hcel : ∀ j v, (pvVs ps)[j]? = some v → w.cell? ⟨g, j, none⟩ = some v := by
    intro j u hj
    rw [cell_of_row w g j cur 147 (0, 0) hgr]
    have hjl := (List.getElem?_eq_some_iff.1 hj).1
    rw [pvVs_length] at hjl
    rw [← htk, List.getElem?_take, if_pos (by omega)] at hj
    simpa using hj
  have hold : (Builtin.firstCells i0.size i (.slice (some ⟨g, 0, none⟩) i ps.length)).run Try.prog w.drew = .ok (pvVs (ps.take i)).toArray w.drew := by
    rw [hi2]
    exact run_firstCells_some w.drew 2 i ⟨g, 0, none⟩ i ps.length (pvVs (ps.take i)) (by rw [pvVs_length, List.length_take]; omega) (fun j u hj => by
      rw [addr_add, Nat.zero_add]
      have hjl := (List.getElem?_eq_some_iff.1 hj).1
      rw [pvVs_length, List.length_take] at hjl
      rw [pvVs_take, List.getElem?_take, if_pos (by omega)] at hj
      exact hcel j u hj)
  obtain ⟨G, hG⟩ : ∃ G, G = grownCap w (ps.length + 1) ps.length 147 := ⟨_, rfl⟩
  have hGn : ps.length + 1 ≤ G := by rw [hG]; exact grownCap_ge w _ _ _
  have hGm : G ≤ maxLen := by rw [hG]; exact grownCap_le_maxLen w (ps.length + 1) ps.length _ (by unfold maxLen; omega)
  obtain ⟨ROW, hROW⟩ : ∃ ROW : Array Value, ROW = (pvVs (ps.take i)).toArray ++ Builtin.zeroCells (Value.agg #[.int .i64 0, .int .i64 0]).cells (ps.length + 1 - i) ++ Builtin.zeroCells (Value.agg #[.int .i64 0, .int .i64 0]).cells (G - (ps.length + 1)) := ⟨_, rfl⟩
  obtain ⟨W1, hW1⟩ : ∃ W1, W1 = w.drew.alloc (.cells ROW 147) := ⟨_, rfl⟩
  have hrz : ∀ ty, (Builtin.append_ #[23, 3] ty #[.slice (some ⟨g, 0, none⟩) i ps.length, .int .i64 ((ps.length : Int) + 1 - (i : Int))]).run Try.prog w = .ok (.slice (some ⟨w.heap.size, 0, none⟩) (ps.length + 1) G) W1 := fun ty => by
    have hk : (ps.length : Int) + 1 - (i : Int) = ((ps.length + 1 - i : Nat) : Int) := by omega
    have hik : i + (ps.length + 1 - i) = ps.length + 1 := by omega
    have h := Lib.run_append_grow_zeros w 23 3 ty 147 i0 _ .i64 .i64 Try.underlying23 Try.underlying3 hi0 hi1 (some ⟨g, 0, none⟩) i ps.length (pvVs (ps.take i)) hold (ps.length + 1 - i) (by omega) (by omega) (by omega) (by omega) (by rw [hi3]; omega) (by rw [hi3, hik]; exact growslice_fits (by omega) (by omega))
    rw [hik, ← hG, ← hROW, ← hW1] at h
    rw [hk]
    exact h
  have hRS : ROW.size = G * 2 := by
    rw [hROW]
    simp [Builtin.zeroCells, Value.cells, pvVs_length]
    omega
  have hRL : ROW.toList.length = G * 2 := by rw [Array.length_toList]; exact hRS
  have hRT : ROW.toList.take (i * 2) = pvVs (ps.take i) := by
    rw [hROW]
    simp only [Array.toList_append, List.append_assoc]
    exact List.take_left' (by rw [pvVs_length, List.length_take]; omega)
  have hg1 : W1.heap[w.heap.size]? = some (.cells ROW.toList.toArray 147 (0, 0)) := by rw [Array.toArray_toList, hW1]; exact heap_alloc_new w.drew _
  have ho1 : ∀ b, b < w.heap.size → W1.heap[b]? = w.heap[b]? := fun b hb => by rw [hW1]; exact Below.heap_alloc w.drew _ _ hb
  have hb1 : Below w.heap.size w W1 := by rw [hW1]; exact (Below.refl w.heap.size w).drew.alloc (Nat.le_refl _) _
  have hs1 : W1.heap.size = w.heap.size + 1 := by rw [hW1]; simp
  have hD : (pvVs (ps.drop i)).length = (ps.length - i) * 2 := by rw [pvVs_length, List.length_drop]
  obtain ⟨w2, hrun2, hg2, hb2, ho2⟩ := run_copyN (P := Try.prog) W1 23 23 3 147 2 w.heap.size (i * 2) (ps.length + 1 - i) (G - i) ⟨vb, 0, none⟩ 1 vc ROW.toList 147 [.int .i64 x, .int .i64 y] Try.underlying23 hsz2 hg1
    (by rw [show Nat.min 1 (ps.length + 1 - i) = 1 by simp only [Nat.min_def]; split <;> omega]; rfl)
    (by intro j u hj
        have hh : W1.heap[vb]? = some (.cells #[.int .i64 x, .int .i64 y] 147 (0, 0)) := (ho1 vb hvw).trans hv
        rw [addr_add, cell_of_row W1 vb (0 + j) _ _ (0, 0) hh, Nat.zero_add]
        simpa using hj)
    (by rw [hRL]; simp; omega) (by intro u hu; simp at hu; rcases hu with rfl | rfl <;> rfl)
  have hsl : (splice ROW.toList (i * 2) [Value.int .i64 x, .int .i64 y]).length = G * 2 := by rw [length_splice _ _ _ (by rw [hRL]; simp; omega), hRL]
  have hh2 : ∀ b, b < w.heap.size → w2.heap[b]? = w.heap[b]? := fun b hb => (ho2 b (by omega)).trans (ho1 b hb)
  have HSRC := hide (show ∀ j v, (pvVs (ps.drop i))[j]? = some v → w2.drew.cell? ((⟨g, i * 2, none⟩ : Addr).add j) = some v by
    intro j u hj
    have hh : w2.drew.heap[g]? = some (.cells cur 147 (0, 0)) := (hh2 g hgw).trans hgr
    rw [addr_add, cell_of_row w2.drew g (i * 2 + j) cur 147 (0, 0) hh, ← cell_of_row w g (i * 2 + j) cur 147 (0, 0) hgr]
    rw [pvVs_drop, List.getElem?_drop] at hj
    exact hcel _ u hj)
  have HFIT := hide (show (i + 1) * 2 + (pvVs (ps.drop i)).length ≤ (splice ROW.toList (i * 2) [Value.int .i64 x, .int .i64 y]).length by omega)
  have HG2 := hide (show w2.drew.heap[w.heap.size]? = some (.cells (splice ROW.toList (i * 2) [Value.int .i64 x, .int .i64 y]).toArray 147 (0, 0)) from hg2)
  have HSP := hide (splice_new ROW.toList (pvVs (ps.drop i)) (.int .i64 x) (.int .i64 y) i ps.length hD (by omega) (by rw [hRL]; omega))
  have HTK := hide hRT
  have HSL := hide hsl
  have HDL := hide hD
  have HSZ := hide hsz2
  have HB2 := hide (show Below w.heap.size w w2.drew from (hb1.trans hb2).drew)
  have HS2 := hide (show w.heap.size < w2.heap.size by have := hb2.size; omega)
  have HH := hide h
  have HGM := hide hGm
  clear hG hROW hW1 hRS hRL hRT hg1 ho1 hb1 hs1 hD hg2 hb2 ho2 hsl hh2 hcel hold hsz2 hi0 hi1 hi2 hi3 hgr hcs htk hcm hv
  have b1 : (0 : Int) ≤ (i : Int) := by omega
  have b2 : (i : Int) ≤ (ps.length : Int) := by omega
  have b3 : ((i : Int) == (ps.length : Int)) = false := by simp; omega
  have b3' : ¬ ((i : Int) = (ps.length : Int)) := by omega
  have b4 : decide ((ps.length : Int) + 1 > (ps.length : Int)) = true := by simp; omega
  have b4' : decide ((ps.length : Int) < (ps.length : Int) + 1) = true := by simp; omega
  have b5 : ¬ (ps.length = i) := by omega
  have b6 : ¬ (G = i) := by omega
  have b7 : ¬ (G = i + 1) := by omega
  have b8 : (i : Int) + 1 ≤ (ps.length : Int) + 1 := by omega
  have b9 : (i : Int) ≤ (ps.length : Int) + 1 := by omega
  have hw1 : IntKind.i64.wrap ((i : Int) + 1) = (i : Int) + 1 := by rw [IntKind.wrap_i64]; omega
  have hb1 : (0 : Int) ≤ (i : Int) + 1 := by omega
  have htn : ((i : Int) + 1).toNat = i + 1 := by omega
  go_enter Try.func184, Try.ntmps184
  go_wp2_with (first | (at_builtin; refine Lib.wpList_append_run _ rfl _ _ _ _ rfl _ _ rfl rfl _ _ (hrz _) ?_) | (simp only [hrun2]))
  go_region_law (refine step_copyN rfl _ _ 23 23 rfl 147 2 Try.underlying23 HSZ.out w.heap.size ((i + 1) * 2) (ps.length + 1 - (i + 1)) (G - (i + 1)) ⟨g, i * 2, none⟩ (ps.length - i) (ps.length - i) (by simp [Act.eval, Act.put]) (by simp [Act.eval, Act.put]) (splice ROW.toList (i * 2) [.int .i64 x, .int .i64 y]) 147 HG2.out (pvVs (ps.drop i)) (by rw [HDL.out]; simp only [Nat.min_def]; split <;> omega) HSRC.out HFIT.out (pvVs_cell _) ?_; intro w3 hg3 hb3 ho3)
  have HB3 := hide (HB2.out.trans hb3)
  have HS3 := hide (Nat.lt_of_lt_of_le HS2.out hb3.size)
  clear hb3 ho3
  go_wp2_with fail
  go_ret
  refine ⟨_, rfl, .inr ⟨⟨pvVs_length _, .inr ⟨w.heap.size, G, (splice (splice ROW.toList (i * 2) [.int .i64 x, .int .i64 y]) ((i + 1) * 2) (pvVs (ps.drop i))).toArray, by rw [insAt_length]; rfl, Nat.le_refl _, hg3.out, by rw [insAt_length]; omega, HGM.out, ?_, ?_⟩⟩, fun g' h' => by cases h'; exact HS3.out, HB3.out.size, Nat.le_refl _⟩, ⟨HB3.out.mono (by have := HH.out.le; have := HH.out.top; omega), fun b _ hlt => HB3.out.block b hlt⟩⟩
  · rw [List.size_toArray, length_splice _ _ _ HFIT.out, HSL.out]
  · rw [insAt_length, HSP.out, HTK.out, insAt_vs]

set_option maxHeartbeats 4000000 in
theorem ins_end (a : Option Addr) (c vb vc : Nat) (x y : Int) (ps : List Pv) (lo hi : Nat) (w : World) (h : Owp w (.slice a ps.length c) ps lo hi) (hv : w.heap[vb]? = some (.cells #[.int .i64 x, .int .i64 y] 147 (0, 0))) (hl : ps.length ≤ 1048576) :
    Calls Try.prog 184 #[.slice a ps.length c, .int .i64 ps.length, .slice (some ⟨vb, 0, none⟩) 1 vc] w (RetIns w (insAt ps ps.length (x, y)) lo hi) := by
  obtain ⟨i0, hi0, hi1, hi2, hi3⟩ := info_parts infoP
  have hlow : lo ≤ w.heap.size := Nat.le_trans h.le h.top
  obtain ⟨v', w', hr, ho, hgw, -, hbl⟩ := run_append_own_at (P := Try.prog) (w := w) lo 23 23 147 i0 _ 2 16 Try.underlying23 hi0 hi1 hi2 hi3 rfl (by decide) _ ps.length (pvVs ps) h.own ⟨vb, 0, none⟩ 1 vc [.int .i64 x, .int .i64 y] rfl
    (by intro j u hj
        rw [addr_add, cell_of_row w vb (0 + j) _ _ (0, 0) hv, Nat.zero_add]
        simpa using hj)
    (by intro u hu; simp at hu; rcases hu with rfl | rfl <;> rfl) (by unfold maxLen; omega) (by omega) hlow
  have hins : insAt ps ps.length (x, y) = ps ++ [(x, y)] := by simp [insAt]
  have hown : Op w' lo v' (ps ++ [(x, y)]) := by
    unfold Op
    rw [pvVs_append, List.length_append]
    exact ho
  have hsg : Seg lo hi w w' := ⟨(Below.refl lo w).grown hgw hlow (fun k hk => (World.ownsRow.lt h.own k hk).1), fun b hb hlt => hgw.block b hlt (fun e => by have := h.lt b e.symm; omega)⟩
  have HR : Hid (RetIns w (insAt ps ps.length (x, y)) lo hi (.returned v') w') := by
    rw [hins]
    refine ⟨v', rfl, ?_, hsg⟩
    rcases hbl with e | e
    · exact .inl ⟨hown, fun g hg => h.lt g (by rw [← e]; exact hg), h.le, Nat.le_trans h.top hsg.below.size⟩
    · refine .inr ⟨owns_raise hown e, fun g hg => (World.ownsRow.lt hown g hg).2, hsg.below.size, Nat.le_refl _⟩
  have hr : (Builtin.append_ #[23, 23] 23 #[.slice a ps.length c, .slice (some ⟨vb, 0, none⟩) 1 vc]).run Try.prog w = .ok v' w' := hr
  have hcap := h.cap
  obtain ⟨ca, cn, cc, hce, hcl, -⟩ := hcap
  simp only [Value.slice.injEq] at hce
  obtain ⟨rfl, rfl, rfl⟩ := hce
  clear hi0 hi1 hi2 hi3 ho hgw hbl hins hown hsg h hv
  have b1 : (ps.length : Int) ≤ (c : Int) := by omega
  by_cases hcc : c = ps.length
  · subst hcc
    go_enter Try.func184, Try.ntmps184
    go_wp2_with (at_builtin; refine Lib.wpList_append_run _ rfl _ _ _ _ rfl _ _ rfl rfl _ _ hr ?_)
    go_ret
    exact HR.out
  · go_enter Try.func184, Try.ntmps184
    go_wp2_with (at_builtin; refine Lib.wpList_append_run _ rfl _ _ _ _ rfl _ _ rfl rfl _ _ hr ?_)
    go_ret
    exact HR.out

/-- slices.Insert of one pivot. -/
theorem ins_any (a : Option Addr) (c i vb vc : Nat) (x y : Int) (ps : List Pv) (lo hi : Nat) (w : World) (h : Owp w (.slice a ps.length c) ps lo hi) (hi' : i ≤ ps.length) (hv : w.heap[vb]? = some (.cells #[.int .i64 x, .int .i64 y] 147 (0, 0))) (hvb : hi ≤ vb) (hl : ps.length ≤ 1048576) :
    Calls Try.prog 184 #[.slice a ps.length c, .int .i64 i, .slice (some ⟨vb, 0, none⟩) 1 vc] w (RetIns w (insAt ps i (x, y)) lo hi) := by
  by_cases he : i = ps.length
  · subst he
    exact ins_end a c vb vc x y ps lo hi w h hv hl
  · obtain ⟨g, rfl⟩ : ∃ g, a = some ⟨g, 0, none⟩ := by
      rcases h.own.2 with ⟨hv0, hn⟩ | ⟨g, cap, cur, hv0, _⟩
      · omega
      · simp only [Value.slice.injEq] at hv0
        exact ⟨g, hv0.1⟩
    by_cases hc : ps.length + 1 ≤ c
    · exact ins_room g c i vb vc x y ps lo hi w h (by omega) hc hv hvb hl
    · exact ins_grow g c i vb vc x y ps lo hi w h (by omega) (by omega) hv hl

end Go.Proofs.Ytepkkeclkdlheaa

/- What AddPivot of the program returns (promise 3). Written by gen_adi.py. -/
namespace Go.Proofs.Ytepkkeclkdlheaa
open Go.RowKit Go.ChangeShapes
set_option linter.unusedSimpArgs false
set_option linter.unusedVariables false
set_option maxRecDepth 100000

set_option maxHeartbeats 8000000 in
theorem iAdd_any (v : Value) (l r : List Int) (ps : List Pv) (pv pa : Int) (w : World) (B : Nat) (hv : Ck w B v l r ps) (hwf : I64 pv ∧ I64 pa) (hB : B ≤ w.heap.size) (hl : l.length ≤ 1048576) (hr : r.length ≤ 1048576) (hp : ps.length ≤ 1048576) :
    Calls Try.prog 176 #[v, .agg #[.int .i64 pv, .int .i64 pa]] w (RetOCB w l r (adP l r ps (pv, pa)) (adOk l r ps (pv, pa))) := by
  obtain ⟨a1, c1, a2, c2, a3, c3, rfl, i1, i2, i3⟩ := hv.form
  obtain ⟨wl, wr, wpl, wp⟩ := hv.wf
  obtain ⟨_, _, e3, -, -, hcell⟩ := i3
  simp only [Value.slice.injEq] at e3
  obtain ⟨rfl, -, rfl⟩ := e3
  have HCC := hide hcell
  have V := hide hv
  clear hv i1 i2 hcell
  obtain ⟨t, ht⟩ : ∃ t, t = adOk l r ps (pv, pa) := ⟨_, rfl⟩
  obtain ⟨PP, hPP⟩ : ∃ PP, PP = adP l r ps (pv, pa) := ⟨_, rfl⟩
  obtain ⟨NN, hNN⟩ : ∃ NN, NN = adIn ps (pv, pa) := ⟨_, rfl⟩
  have HT := hide (show t = isCk l r NN by rw [ht, hNN]; rfl)
  have HP := hide (show PP = if t = true then NN else ps by rw [hPP, ht, hNN]; rfl)
  have HNL := hide (show NN.length = ps.length + 1 by rw [hNN]; exact adIn_length _ _)
  have HNW := hide (show ∀ q ∈ NN, I64 q.1 ∧ I64 q.2 by rw [hNN]; exact adIn_wf wp hwf)
  rw [← ht, ← hPP]
  obtain ⟨b, hb⟩ : ∃ b, b = behind ps pv := ⟨_, rfl⟩
  have HNN := hide (show insAt ps b (pv, pa) = NN by rw [hb, hNN]; rfl)
  have hble := behind_le ps pv
  have HB1 := hide (fun (k : Nat) (hk : k < ps.length) => behind_before ps pv k hk)
  have HB2 := hide (behind_at ps pv)
  rw [← hb] at hble
  have HBE := hide hb
  have HWL := hide wl
  have HWR := hide wr
  clear ht hPP hNN hb wl wr wpl wp
  have C0 := hide (fun (W : World) (h : Below w.heap.size w W) => iCopy_any _ l r ps W B (V.out.below h hB) (Nat.le_trans hB h.size) hl hr hp)
  have CI := hide (fun (W : World) (x y z : Value) (lo hi p1 q1 p2 q2 p3 q3 : Nat) (h : OC W x y z l r NN lo hi p1 q1 p2 q2 p3 q3) => show Calls Try.prog 82 #[.agg #[x, y, z]] W (RetB1 W t) by rw [HT.out]; exact iIsCk_any _ l r NN W W.heap.size (h.ck HWL.out HWR.out (by rw [HNL.out]; omega) HNW.out) (Nat.le_refl _))
  have X := hide (Kn.three w #[.slice a1 l.length c1, .slice a2 r.length c2, .slice a3 ps.length c3] #[.int .i64 pv, .int .i64 pa] #[.slice none 0 0, .slice none 0 0, .slice none 0 0] 25 147 25)
  obtain ⟨w1, hw1⟩ : ∃ w1, w1 = ((w.alloc (.cells #[.slice a1 l.length c1, .slice a2 r.length c2, .slice a3 ps.length c3] 25)).alloc (.cells #[.int .i64 pv, .int .i64 pa] 147)).alloc (.cells #[.slice none 0 0, .slice none 0 0, .slice none 0 0] 25) := ⟨_, rfl⟩
  have hz1 := hide (show w1.heap.size = w.heap.size + 1 + 1 + 1 by rw [hw1]; simp)
  rw [← hw1] at X
  go_enter Try.func176, Try.ntmps176
  go_wp2_with fail
  rw [← hw1]
  clear hw1
  go_loopw [6] (fun u wr => ∃ (k : Nat), k ≤ b ∧ u = .int .i64 k ∧ Hid (Kn w wr [(w.heap.size, #[.slice a1 l.length c1, .slice a2 r.length c2, .slice a3 ps.length c3], 25), (w.heap.size + 1, #[.int .i64 pv, .int .i64 pa], 147), (w.heap.size + 1 + 1, #[.slice none 0 0, .slice none 0 0, .slice none 0 0], 25)]) ∧ Hid (w1.heap.size ≤ wr.heap.size)) (fun u _ => ps.length + 1 - (intOf u).toNat)
  case atStart => exact ⟨0, by omega, rfl, X.out, Nat.le_refl _⟩
  case round =>
    clear X
    obtain ⟨k, hk, rfl, K, S0⟩ := hrel
    have d0 : wr.cell? ⟨w.heap.size, 0, none⟩ = some (.slice a1 l.length c1) := K.out.cell 0 0 rfl rfl
    have d1 : wr.cell? ⟨w.heap.size, 1, none⟩ = some (.slice a2 r.length c2) := K.out.cell 0 1 rfl rfl
    have d2 : wr.cell? ⟨w.heap.size, 2, none⟩ = some (.slice a3 ps.length c3) := K.out.cell 0 2 rfl rfl
    have f0 : wr.cell? ⟨w.heap.size + 1, 0, none⟩ = some (.int .i64 pv) := K.out.cell 1 0 rfl rfl
    have f1 : wr.cell? ⟨w.heap.size + 1, 1, none⟩ = some (.int .i64 pa) := K.out.cell 1 1 rfl rfl
    by_cases hlt : k < b
    · have hkn : k < ps.length := by omega
      obtain ⟨b1, o1, rfl, hb1, hc1, hc2⟩ := HCC.out k hkn
      obtain ⟨x, hx⟩ : ∃ x, x = ps[k].1 := ⟨_, rfl⟩
      rw [← hx] at hc1
      have hxv : x ≤ pv := by rw [hx]; exact HB1.out k hkn (by rw [← HBE.out]; exact hlt)
      have e1 : wr.cell? ⟨b1, o1 + k * 2, none⟩ = some (.int .i64 x) := by rw [K.out.below.cell (p := ⟨b1, o1 + k * 2, none⟩) (Nat.lt_of_lt_of_le hb1 hB)]; exact hc1
      have t1 : decide (k < ps.length) = true := by simp; omega
      have t2 : decide (x ≤ pv) = true := by simp; omega
      have t3 : (k : Int) < (ps.length : Int) := by omega
      have S1 := hide S0.out
      clear hc1 hc2 hb1 hx
      go_wp2_with fail
      go_quiet (fail)
      go_wp2_with fail
      go_roundw
      case rel => exact ⟨k + 1, by omega, by go_num, K.out.drewN _, S1.out⟩
      case measure => simp [intOf]; omega
    · obtain rfl : k = b := by omega
      have hq : (k < ps.length ∧ ∃ x b1 o1, a3 = some ⟨b1, o1, none⟩ ∧ wr.cell? ⟨b1, o1 + k * 2, none⟩ = some (.int .i64 x) ∧ pv < x) ∨ k = ps.length := by
        by_cases hkn : k < ps.length
        · refine .inl ⟨hkn, ?_⟩
          obtain ⟨b1, o1, ha, hb1, hc1, -⟩ := HCC.out k hkn
          refine ⟨ps[k].1, b1, o1, ha, by rw [K.out.below.cell (p := ⟨b1, o1 + k * 2, none⟩) (Nat.lt_of_lt_of_le hb1 hB)]; exact hc1, ?_⟩
          have := HB2.out (by rw [← HBE.out]; exact hkn)
          simp only [← HBE.out] at this
          exact this
        · exact .inr (by omega)
      rcases hq with ⟨hkn, x, b1, o1, rfl, e1, hxv⟩ | hkn
      · have t1 : decide (k < ps.length) = true := by simp; omega
        have t2 : decide (x ≤ pv) = false := by simp; omega
        have t3 : (k : Int) < (ps.length : Int) := by omega
        go_wp2_with fail
        go_quiet (fail)
        go_wp2_with fail
        clear e1 t1 t2 t3 hxv hkn
        go_at_call 103
        have K0 := hide (K.out.drewN nq)
        have hS0 : w1.heap.size ≤ (wr.drewN nq).heap.size := S0.out
        refine (C0.out _ K0.out.below).mono ?_
        rintro e w2 ⟨x, y, z, lo, hi, n1, h1, n2, h2, n3, h3, rfl, q1, q2, O, hb⟩
        obtain ⟨x1, k1, rfl⟩ := O.x.form
        obtain ⟨x2, k2, rfl⟩ := O.y.form
        obtain ⟨x3, k3, rfl⟩ := O.z.own.form
        have Q1 := hide (show w.heap.size + 1 + 1 + 1 ≤ lo by have := hz1.out; omega)
        have X2 := hide (K0.out.up hb)
        have X3 := hide (X2.out.alloc #[.slice x1 l.length k1, .slice x2 r.length k2, .slice x3 ps.length k3] 25)
        have O3 := hide (O.below (below1 w2 (.cells #[.slice x1 l.length k1, .slice x2 r.length k2, .slice x3 ps.length k3] 25)))
        obtain ⟨m, hm⟩ : ∃ m, m = w2.heap.size := ⟨_, rfl⟩
        obtain ⟨w3, hw3⟩ : ∃ w3, w3 = w2.alloc (.cells #[.slice x1 l.length k1, .slice x2 r.length k2, .slice x3 ps.length k3] 25) := ⟨_, rfl⟩
        have S3 := hide (show w3.heap.size = m + 1 by rw [hw3, hm]; simp)
        rw [← hw3] at X3 O3
        rw [← hm] at X3 q2
        have Q2 := hide q2
        simp only [List.cons_append, List.nil_append] at X3
        have X4 := hide (X3.out.alloc #[.int .i64 pv, .int .i64 pa] 147)
        have O4 := hide (O3.out.below (below1 w3 (.cells #[.int .i64 pv, .int .i64 pa] 147)))
        obtain ⟨w4, hw4⟩ : ∃ w4, w4 = w3.alloc (.cells #[.int .i64 pv, .int .i64 pa] 147) := ⟨_, rfl⟩
        have S4 := hide (show w4.heap.size = m + 2 by rw [hw4]; have := S3.out; simp; omega)
        have b2 : w3.cell? ⟨m, 2, none⟩ = some (.slice x3 ps.length k3) := X3.out.cell 3 2 rfl rfl
        have p0 : w3.cell? ⟨w.heap.size + 1, 0, none⟩ = some (.int .i64 pv) := X3.out.cell 1 0 rfl rfl
        have p1 : w3.cell? ⟨w.heap.size + 1, 1, none⟩ = some (.int .i64 pa) := X3.out.cell 1 1 rfl rfl
        rw [← hw4] at X4 O4
        rw [S3.out] at X4
        simp only [List.cons_append, List.nil_append] at X4
        rw [hw3] at b2 p0 p1
        rw [hm] at b2
        clear O hb X2 X3 O3 q1 q2 d0 d1 d2 f0 f1 K K0 S0 hS0
        go_wp2_with fail
        rw [← hw3]
        try rw [← hw4]
        try rw [← hm]
        clear b2 p0 p1 hw3 hw4 hm
        go_at_call 184
        refine (ins_any x3 k3 k (m + 1) 1 pv pa ps n3 h3 w4 O4.out.z hble (X4.out.mem 4 rfl) (by have := O4.out.high; have := Q2.out; omega) hp).mono ?_
        rintro e w5 ⟨z', rfl, hz, s⟩
        obtain ⟨L5a, L5b, L5c⟩ := O4.out.low
        obtain ⟨G5a, G5b, G5c⟩ := O4.out.high
        have hq1 := Q1.out
        have hq2 := Q2.out
        have hs4 := S4.out
        have hle := O4.out.z.le
        have K5 := hide (X4.out.seg s (by omega) (by simp; omega))
        obtain ⟨n3', h3', O5, hd⟩ := O4.out.ins s hz
        rw [HNN.out] at O5
        obtain ⟨y3, j3, rfl⟩ := O5.z.own.form
        have O6 := hide (O5.seg' (Seg.setCell w5 m 2 (.slice y3 NN.length j3)) (by omega) (by omega) (by omega))
        clear L5a L5b L5c G5a G5b G5c hq1 hq2 hs4 hle hd
        have K6 := hide (K5.out.set 3 2 rfl (.slice y3 NN.length j3))
        have b2 : w5.cell? ⟨m, 2, none⟩ = some (.slice x3 ps.length k3) := K5.out.cell 3 2 rfl rfl
        have bf := K5.out.free 3 2 rfl
        obtain ⟨w6, hw6⟩ : ∃ w6, w6 = w5.setCell ⟨m, 2, none⟩ (.slice y3 NN.length j3) := ⟨_, rfl⟩
        rw [← hw6] at O6 K6
        have b0 : w6.cell? ⟨m, 0, none⟩ = some (.slice x1 l.length k1) := K6.out.cell 3 0 rfl rfl
        have b1 : w6.cell? ⟨m, 1, none⟩ = some (.slice x2 r.length k2) := K6.out.cell 3 1 rfl rfl
        have b3 : w6.cell? ⟨m, 2, none⟩ = some (.slice y3 NN.length j3) := K6.out.cell 3 2 rfl rfl
        rw [hw6] at b0 b1 b3
        clear s hz O5 X4 O4 K5
        go_wp2_with fail
        rw [← hw6]
        clear b0 b1 b2 b3 bf hw6
        go_at_call 82
        refine (CI.out _ _ _ _ _ _ _ _ _ _ _ _ O6.out).mono ?_
        rintro e w7 ⟨rfl, hb⟩
        have K7 := hide (K6.out.up hb)
        have O7 := hide (O6.out.below hb)
        clear hb K6 O6
        have g0 : w7.cell? ⟨w.heap.size + 1 + 1, 0, none⟩ = some (.slice none 0 0) := K7.out.cell 2 0 rfl rfl
        have g1 : w7.cell? ⟨w.heap.size + 1 + 1, 1, none⟩ = some (.slice none 0 0) := K7.out.cell 2 1 rfl rfl
        have g2 : w7.cell? ⟨w.heap.size + 1 + 1, 2, none⟩ = some (.slice none 0 0) := K7.out.cell 2 2 rfl rfl
        have f0 := K7.out.free 2 0 rfl
        have f1 := K7.out.free 2 1 rfl
        have f2 := K7.out.free 2 2 rfl
        cases t with
        | true =>
          obtain rfl : PP = NN := by simpa [Hid] using HP
          have b0 : w7.cell? ⟨m, 0, none⟩ = some (.slice x1 l.length k1) := K7.out.cell 3 0 rfl rfl
          have b1 : w7.cell? ⟨m, 1, none⟩ = some (.slice x2 r.length k2) := K7.out.cell 3 1 rfl rfl
          have b3 : w7.cell? ⟨m, 2, none⟩ = some (.slice y3 PP.length j3) := K7.out.cell 3 2 rfl rfl
          go_wp2_with fail
          have Z := ((K7.out.set 2 0 rfl (.slice x1 l.length k1)).set 2 1 rfl (.slice x2 r.length k2)).set 2 2 rfl (.slice y3 PP.length j3)
          have z0 := Z.cell 2 0 rfl rfl
          have z1 := Z.cell 2 1 rfl rfl
          have z2 := Z.cell 2 2 rfl rfl
          have hq1 := Q1.out
          have O8 := O7.out.seg (seg3 _ (w.heap.size + 1 + 1) (.slice x1 l.length k1) (.slice x2 r.length k2) (.slice y3 PP.length j3)) (.inr (by omega))
          exact bodyPost_ret (v := .tuple #[.agg #[.slice x1 l.length k1, .slice x2 r.length k2, .slice y3 PP.length j3], .bool true]) (by simp [results, Try.results176, go_sem, z0, z1, z2]) rfl
            ⟨_, _, _, lo, w5.heap.size, n1, h1, n2, h2, n3', h3', rfl, by omega, O8.top.2, O8, Z.below⟩
        | false =>
          obtain rfl : PP = ps := by simpa [Hid] using HP
          have d0 : w7.cell? ⟨w.heap.size, 0, none⟩ = some (.slice a1 l.length c1) := K7.out.cell 0 0 rfl rfl
          have d1 : w7.cell? ⟨w.heap.size, 1, none⟩ = some (.slice a2 r.length c2) := K7.out.cell 0 1 rfl rfl
          have d2 : w7.cell? ⟨w.heap.size, 2, none⟩ = some (.slice (some ⟨b1, o1, none⟩) PP.length c3) := K7.out.cell 0 2 rfl rfl
          clear g0 g1 g2 f0 f1 f2
          go_wp2_with fail
          go_at_call 103
          refine (C0.out _ K7.out.below).mono ?_
          rintro e w8 ⟨x', y', z', lo', hi', n1', h1', n2', h2', n4, h4, rfl, q1, q2, O8, hb⟩
          obtain ⟨v1, j1, rfl⟩ := O8.x.form
          obtain ⟨v2, j2, rfl⟩ := O8.y.form
          obtain ⟨v3, j4, rfl⟩ := O8.z.own.form
          have K8 := hide (K7.out.up hb)
          have P3 := hide (Nat.le_trans K7.out.below.size q1)
          have P5 := hide (Nat.lt_of_lt_of_le (K7.out.lt 2 rfl) q1)
          have O8 := hide O8
          clear d0 d1 d2 hb q1 q2 K7 O7
          have g0 : w8.cell? ⟨w.heap.size + 1 + 1, 0, none⟩ = some (.slice none 0 0) := K8.out.cell 2 0 rfl rfl
          have g1 : w8.cell? ⟨w.heap.size + 1 + 1, 1, none⟩ = some (.slice none 0 0) := K8.out.cell 2 1 rfl rfl
          have g2 : w8.cell? ⟨w.heap.size + 1 + 1, 2, none⟩ = some (.slice none 0 0) := K8.out.cell 2 2 rfl rfl
          have f0 := K8.out.free 2 0 rfl
          have f1 := K8.out.free 2 1 rfl
          have f2 := K8.out.free 2 2 rfl
          go_wp2_with fail
          have Z := ((K8.out.set 2 0 rfl (.slice v1 l.length j1)).set 2 1 rfl (.slice v2 r.length j2)).set 2 2 rfl (.slice v3 PP.length j4)
          have z0 := Z.cell 2 0 rfl rfl
          have z1 := Z.cell 2 1 rfl rfl
          have z2 := Z.cell 2 2 rfl rfl
          have O9 := O8.out.seg (seg3 _ (w.heap.size + 1 + 1) (.slice v1 l.length j1) (.slice v2 r.length j2) (.slice v3 PP.length j4)) (.inr P5.out)
          exact bodyPost_ret (v := .tuple #[.agg #[.slice v1 l.length j1, .slice v2 r.length j2, .slice v3 PP.length j4], .bool false]) (by simp [results, Try.results176, go_sem, z0, z1, z2]) rfl
            ⟨_, _, _, lo', hi', n1', h1', n2', h2', n4, h4, rfl, P3.out, O9.top.2, O9, Z.below⟩
      · have t1 : decide (k < ps.length) = false := by simp; omega
        go_wp2_with fail
        go_quiet (fail)
        go_wp2_with fail
        clear t1 hkn
        go_at_call 103
        have K0 := hide (K.out.drewN nq)
        have hS0 : w1.heap.size ≤ (wr.drewN nq).heap.size := S0.out
        refine (C0.out _ K0.out.below).mono ?_
        rintro e w2 ⟨x, y, z, lo, hi, n1, h1, n2, h2, n3, h3, rfl, q1, q2, O, hb⟩
        obtain ⟨x1, k1, rfl⟩ := O.x.form
        obtain ⟨x2, k2, rfl⟩ := O.y.form
        obtain ⟨x3, k3, rfl⟩ := O.z.own.form
        have Q1 := hide (show w.heap.size + 1 + 1 + 1 ≤ lo by have := hz1.out; omega)
        have X2 := hide (K0.out.up hb)
        have X3 := hide (X2.out.alloc #[.slice x1 l.length k1, .slice x2 r.length k2, .slice x3 ps.length k3] 25)
        have O3 := hide (O.below (below1 w2 (.cells #[.slice x1 l.length k1, .slice x2 r.length k2, .slice x3 ps.length k3] 25)))
        obtain ⟨m, hm⟩ : ∃ m, m = w2.heap.size := ⟨_, rfl⟩
        obtain ⟨w3, hw3⟩ : ∃ w3, w3 = w2.alloc (.cells #[.slice x1 l.length k1, .slice x2 r.length k2, .slice x3 ps.length k3] 25) := ⟨_, rfl⟩
        have S3 := hide (show w3.heap.size = m + 1 by rw [hw3, hm]; simp)
        rw [← hw3] at X3 O3
        rw [← hm] at X3 q2
        have Q2 := hide q2
        simp only [List.cons_append, List.nil_append] at X3
        have X4 := hide (X3.out.alloc #[.int .i64 pv, .int .i64 pa] 147)
        have O4 := hide (O3.out.below (below1 w3 (.cells #[.int .i64 pv, .int .i64 pa] 147)))
        obtain ⟨w4, hw4⟩ : ∃ w4, w4 = w3.alloc (.cells #[.int .i64 pv, .int .i64 pa] 147) := ⟨_, rfl⟩
        have S4 := hide (show w4.heap.size = m + 2 by rw [hw4]; have := S3.out; simp; omega)
        have b2 : w3.cell? ⟨m, 2, none⟩ = some (.slice x3 ps.length k3) := X3.out.cell 3 2 rfl rfl
        have p0 : w3.cell? ⟨w.heap.size + 1, 0, none⟩ = some (.int .i64 pv) := X3.out.cell 1 0 rfl rfl
        have p1 : w3.cell? ⟨w.heap.size + 1, 1, none⟩ = some (.int .i64 pa) := X3.out.cell 1 1 rfl rfl
        rw [← hw4] at X4 O4
        rw [S3.out] at X4
        simp only [List.cons_append, List.nil_append] at X4
        rw [hw3] at b2 p0 p1
        rw [hm] at b2
        clear O hb X2 X3 O3 q1 q2 d0 d1 d2 f0 f1 K K0 S0 hS0
        go_wp2_with fail
        rw [← hw3]
        try rw [← hw4]
        try rw [← hm]
        clear b2 p0 p1 hw3 hw4 hm
        go_at_call 184
        refine (ins_any x3 k3 k (m + 1) 1 pv pa ps n3 h3 w4 O4.out.z hble (X4.out.mem 4 rfl) (by have := O4.out.high; have := Q2.out; omega) hp).mono ?_
        rintro e w5 ⟨z', rfl, hz, s⟩
        obtain ⟨L5a, L5b, L5c⟩ := O4.out.low
        obtain ⟨G5a, G5b, G5c⟩ := O4.out.high
        have hq1 := Q1.out
        have hq2 := Q2.out
        have hs4 := S4.out
        have hle := O4.out.z.le
        have K5 := hide (X4.out.seg s (by omega) (by simp; omega))
        obtain ⟨n3', h3', O5, hd⟩ := O4.out.ins s hz
        rw [HNN.out] at O5
        obtain ⟨y3, j3, rfl⟩ := O5.z.own.form
        have O6 := hide (O5.seg' (Seg.setCell w5 m 2 (.slice y3 NN.length j3)) (by omega) (by omega) (by omega))
        clear L5a L5b L5c G5a G5b G5c hq1 hq2 hs4 hle hd
        have K6 := hide (K5.out.set 3 2 rfl (.slice y3 NN.length j3))
        have b2 : w5.cell? ⟨m, 2, none⟩ = some (.slice x3 ps.length k3) := K5.out.cell 3 2 rfl rfl
        have bf := K5.out.free 3 2 rfl
        obtain ⟨w6, hw6⟩ : ∃ w6, w6 = w5.setCell ⟨m, 2, none⟩ (.slice y3 NN.length j3) := ⟨_, rfl⟩
        rw [← hw6] at O6 K6
        have b0 : w6.cell? ⟨m, 0, none⟩ = some (.slice x1 l.length k1) := K6.out.cell 3 0 rfl rfl
        have b1 : w6.cell? ⟨m, 1, none⟩ = some (.slice x2 r.length k2) := K6.out.cell 3 1 rfl rfl
        have b3 : w6.cell? ⟨m, 2, none⟩ = some (.slice y3 NN.length j3) := K6.out.cell 3 2 rfl rfl
        rw [hw6] at b0 b1 b3
        clear s hz O5 X4 O4 K5
        go_wp2_with fail
        rw [← hw6]
        clear b0 b1 b2 b3 bf hw6
        go_at_call 82
        refine (CI.out _ _ _ _ _ _ _ _ _ _ _ _ O6.out).mono ?_
        rintro e w7 ⟨rfl, hb⟩
        have K7 := hide (K6.out.up hb)
        have O7 := hide (O6.out.below hb)
        clear hb K6 O6
        have g0 : w7.cell? ⟨w.heap.size + 1 + 1, 0, none⟩ = some (.slice none 0 0) := K7.out.cell 2 0 rfl rfl
        have g1 : w7.cell? ⟨w.heap.size + 1 + 1, 1, none⟩ = some (.slice none 0 0) := K7.out.cell 2 1 rfl rfl
        have g2 : w7.cell? ⟨w.heap.size + 1 + 1, 2, none⟩ = some (.slice none 0 0) := K7.out.cell 2 2 rfl rfl
        have f0 := K7.out.free 2 0 rfl
        have f1 := K7.out.free 2 1 rfl
        have f2 := K7.out.free 2 2 rfl
        cases t with
        | true =>
          obtain rfl : PP = NN := by simpa [Hid] using HP
          have b0 : w7.cell? ⟨m, 0, none⟩ = some (.slice x1 l.length k1) := K7.out.cell 3 0 rfl rfl
          have b1 : w7.cell? ⟨m, 1, none⟩ = some (.slice x2 r.length k2) := K7.out.cell 3 1 rfl rfl
          have b3 : w7.cell? ⟨m, 2, none⟩ = some (.slice y3 PP.length j3) := K7.out.cell 3 2 rfl rfl
          go_wp2_with fail
          have Z := ((K7.out.set 2 0 rfl (.slice x1 l.length k1)).set 2 1 rfl (.slice x2 r.length k2)).set 2 2 rfl (.slice y3 PP.length j3)
          have z0 := Z.cell 2 0 rfl rfl
          have z1 := Z.cell 2 1 rfl rfl
          have z2 := Z.cell 2 2 rfl rfl
          have hq1 := Q1.out
          have O8 := O7.out.seg (seg3 _ (w.heap.size + 1 + 1) (.slice x1 l.length k1) (.slice x2 r.length k2) (.slice y3 PP.length j3)) (.inr (by omega))
          exact bodyPost_ret (v := .tuple #[.agg #[.slice x1 l.length k1, .slice x2 r.length k2, .slice y3 PP.length j3], .bool true]) (by simp [results, Try.results176, go_sem, z0, z1, z2]) rfl
            ⟨_, _, _, lo, w5.heap.size, n1, h1, n2, h2, n3', h3', rfl, by omega, O8.top.2, O8, Z.below⟩
        | false =>
          obtain rfl : PP = ps := by simpa [Hid] using HP
          have d0 : w7.cell? ⟨w.heap.size, 0, none⟩ = some (.slice a1 l.length c1) := K7.out.cell 0 0 rfl rfl
          have d1 : w7.cell? ⟨w.heap.size, 1, none⟩ = some (.slice a2 r.length c2) := K7.out.cell 0 1 rfl rfl
          have d2 : w7.cell? ⟨w.heap.size, 2, none⟩ = some (.slice a3 PP.length c3) := K7.out.cell 0 2 rfl rfl
          clear g0 g1 g2 f0 f1 f2
          go_wp2_with fail
          go_at_call 103
          refine (C0.out _ K7.out.below).mono ?_
          rintro e w8 ⟨x', y', z', lo', hi', n1', h1', n2', h2', n4, h4, rfl, q1, q2, O8, hb⟩
          obtain ⟨v1, j1, rfl⟩ := O8.x.form
          obtain ⟨v2, j2, rfl⟩ := O8.y.form
          obtain ⟨v3, j4, rfl⟩ := O8.z.own.form
          have K8 := hide (K7.out.up hb)
          have P3 := hide (Nat.le_trans K7.out.below.size q1)
          have P5 := hide (Nat.lt_of_lt_of_le (K7.out.lt 2 rfl) q1)
          have O8 := hide O8
          clear d0 d1 d2 hb q1 q2 K7 O7
          have g0 : w8.cell? ⟨w.heap.size + 1 + 1, 0, none⟩ = some (.slice none 0 0) := K8.out.cell 2 0 rfl rfl
          have g1 : w8.cell? ⟨w.heap.size + 1 + 1, 1, none⟩ = some (.slice none 0 0) := K8.out.cell 2 1 rfl rfl
          have g2 : w8.cell? ⟨w.heap.size + 1 + 1, 2, none⟩ = some (.slice none 0 0) := K8.out.cell 2 2 rfl rfl
          have f0 := K8.out.free 2 0 rfl
          have f1 := K8.out.free 2 1 rfl
          have f2 := K8.out.free 2 2 rfl
          go_wp2_with fail
          have Z := ((K8.out.set 2 0 rfl (.slice v1 l.length j1)).set 2 1 rfl (.slice v2 r.length j2)).set 2 2 rfl (.slice v3 PP.length j4)
          have z0 := Z.cell 2 0 rfl rfl
          have z1 := Z.cell 2 1 rfl rfl
          have z2 := Z.cell 2 2 rfl rfl
          have O9 := O8.out.seg (seg3 _ (w.heap.size + 1 + 1) (.slice v1 l.length j1) (.slice v2 r.length j2) (.slice v3 PP.length j4)) (.inr P5.out)
          exact bodyPost_ret (v := .tuple #[.agg #[.slice v1 l.length j1, .slice v2 r.length j2, .slice v3 PP.length j4], .bool false]) (by simp [results, Try.results176, go_sem, z0, z1, z2]) rfl
            ⟨_, _, _, lo', hi', n1', h1', n2', h2', n4, h4, rfl, P3.out, O9.top.2, O9, Z.below⟩

end Go.Proofs.Ytepkkeclkdlheaa

/- exchange of the program: two elements of an owned slice change places (promise 3). -/
namespace Go.Proofs.Ytepkkeclkdlheaa
open Go.RowKit Go.ChangeShapes
set_option linter.unusedSimpArgs false
set_option linter.unusedVariables false
set_option maxRecDepth 100000

set_option maxHeartbeats 4000000 in
theorem iExch_ow (v : Value) (l : List Int) (lo hi i j : Nat) (w : World) (h : Ow w v l lo hi) (hi' : i < l.length) (hj' : j < l.length) :
    Calls Try.prog 183 #[v, .agg #[.int .i64 i, .int .i64 j]] w fun e w' => (∃ u, e = .returned u) ∧ Ow w' v (swapAt l i j) lo hi ∧ Seg lo hi w w' := by
  have X := hide (Kn.one w #[.int .i64 i, .int .i64 j] 111)
  obtain ⟨w1, hw1⟩ : ∃ w1, w1 = w.alloc (.cells #[.int .i64 i, .int .i64 j] 111) := ⟨_, rfl⟩
  rw [← hw1] at X
  have S0 := hide (Seg.of_below (lo := lo) (hi := hi) X.out.below (Nat.le_trans h.le h.top))
  have hT := hide h.top
  have h := h.below X.out.below
  obtain ⟨⟨F, ⟨o, rfl⟩, hF⟩, hle, htop⟩ := h
  obtain ⟨a, cap, rfl⟩ := Is.form o
  have HS := o.2
  rcases HS with ⟨e, hn⟩ | ⟨g, cap', cur, e, -⟩
  · exfalso
    injection e with e1 e2 e3
    omega
  injection e with e1 e2 e3
  subst e1 e3
  have hg := hF g (by simp [Value.ownBlock])
  have O := hide o
  have O1 := hide (O.out.store rfl i (l[j]'hj'))
  have O2 := hide (O1.out.store (by simp) j (l[i]'hi'))
  obtain ⟨ci, fi, gi, -⟩ := O.out.cell i hi'
  obtain ⟨cj, fj, gj, -⟩ := O.out.cell j hj'
  obtain ⟨cj1, fj1, gj1, -⟩ := O1.out.cell j (by simp; exact hj')
  have E1 := hide (show swapAt l i j = (l.set i (l[j]'hj')).set j (l[i]'hi') by simp [swapAt, List.getD, hi', hj'])
  obtain ⟨y2, hy2⟩ : ∃ y2, y2 = (l.set i (l[j]'hj'))[j]'(by simp; exact hj') := ⟨_, rfl⟩
  rw [← hy2] at cj1
  obtain ⟨x, hx⟩ : ∃ x, x = l[i]'hi' := ⟨_, rfl⟩
  obtain ⟨y, hy⟩ : ∃ y, y = l[j]'hj' := ⟨_, rfl⟩
  rw [← hx] at ci E1 O2
  rw [← hy] at cj E1 O1 O2 cj1 fj1
  clear hx hy hy2
  have d0 : w1.cell? ⟨w.heap.size, 0, none⟩ = some (.int .i64 i) := X.out.cell 0 0 rfl rfl
  have d1 : w1.cell? ⟨w.heap.size, 1, none⟩ = some (.int .i64 j) := X.out.cell 0 1 rfl rfl
  have hne : w.heap.size ≠ g := by have := hT.out; omega
  have d2 : (w1.setCell ⟨g, i, none⟩ (.int .i64 y)).cell? ⟨w.heap.size, 0, none⟩ = some (.int .i64 i) := by rw [World.cell?_setCell_other _ _ _ _ (by simp [hne])]; exact d0
  have d3 : (w1.setCell ⟨g, i, none⟩ (.int .i64 y)).cell? ⟨w.heap.size, 1, none⟩ = some (.int .i64 j) := by rw [World.cell?_setCell_other _ _ _ _ (by simp [hne])]; exact d1
  have HF := hide hF
  have hne := hide hne
  clear hF o
  go_enter Try.func183, Try.ntmps183
  go_wp2_with fail
  rw [← hw1]
  clear hw1
  go_region
  all_goals have sg := (Seg.setCell w1 g i (.int .i64 y)).trans (Seg.setCell _ g j (.int .i64 x))
  all_goals refine bodyPost_end (v := .tuple #[]) (by simp [results, Try.results183]) rfl ⟨⟨_, rfl⟩, ?_, ?_⟩
  · rw [E1.out]
    exact ⟨⟨_, ⟨O2.out.below (Below.refl _ _).drew, rfl⟩, HF.out⟩, hle, Nat.le_trans htop sg.below.size⟩
  · have s2 := S0.out.trans (sg.mono hg.1 (by omega))
    exact ⟨s2.below.drew, s2.over⟩

end Go.Proofs.Ytepkkeclkdlheaa

/- havePlaces of the program: whether all places of the swaps lie in a row (promise 3). -/
namespace Go.Proofs.Ytepkkeclkdlheaa
open Go.RowKit Go.ChangeShapes
set_option linter.unusedSimpArgs false
set_option linter.unusedVariables false
set_option maxRecDepth 100000

set_option maxHeartbeats 4000000 in
theorem iHave_any (v : Value) (sw : List Pv) (n : Nat) (w : World) (B : Nat) (hv : Pvs w B v sw) (hB : B ≤ w.heap.size) :
    Calls Try.prog 182 #[v, .int .i64 n] w (RetB1 w (sw.all (swOk n))) := by
  obtain ⟨a, cap, rfl, hlen, hwf, hcell⟩ := hv
  have HC := hide hcell
  have HW := hide hwf
  clear hcell hwf
  obtain ⟨t, ht⟩ : ∃ t, t = sw.all (swOk n) := ⟨_, rfl⟩
  rw [← ht]
  have HT := hide ht
  clear ht
  go_enter Try.func182, Try.ntmps182
  go_wp2
  go_loopw [9] (fun u wr => ∃ (k : Nat), k ≤ sw.length ∧ u = .int .i64 k ∧ Hid ((sw.take k).all (swOk n) = true) ∧ Hid (Below w.heap.size w wr)) (fun u _ => sw.length - (intOf u).toNat)
  case atStart => exact ⟨0, by omega, rfl, by simp [Hid], Below.refl _ _⟩
  case round =>
    obtain ⟨k, hk, rfl, hall, hb⟩ := hrel
    by_cases hlt : k < sw.length
    · have hat := hide (all_take (swOk n) sw k hlt)
      obtain ⟨b1, o1, rfl, hb1, hc1, hc2⟩ := HC.out k hlt
      obtain ⟨x, hx⟩ : ∃ x, x = sw[k].1 := ⟨_, rfl⟩
      obtain ⟨y, hy⟩ : ∃ y, y = sw[k].2 := ⟨_, rfl⟩
      rw [← hx] at hc1
      rw [← hy] at hc2
      have d1 : wr.cell? ⟨b1, o1 + k * 2, none⟩ = some (.int .i64 x) := by rw [hb.out.cell (p := ⟨b1, o1 + k * 2, none⟩) (Nat.lt_of_lt_of_le hb1 hB)]; exact hc1
      have d2 : wr.cell? ⟨b1, o1 + k * 2 + 1, none⟩ = some (.int .i64 y) := by rw [hb.out.cell (p := ⟨b1, o1 + k * 2 + 1, none⟩) (Nat.lt_of_lt_of_le hb1 hB)]; exact hc2
      have HX := hide hx
      have HY := hide hy
      have hq := hide (show (swOk n sw[k]) = (decide (0 ≤ x ∧ x ≤ (n : Int) - 1) && decide (0 ≤ y ∧ y ≤ (n : Int) - 1)) by rw [hx, hy]; rfl)
      clear hc1 hc2 hx hy hb1
      rcases Int.lt_trichotomy x y with hc | hc | hc
      · have o1 : decide (x < y) = true := by simp; omega
        have o2 : decide (x ≤ y) = true := by simp; omega
        by_cases p1 : x < 0
        · have r1 : decide (x < 0) = true := by simp; omega
          have tf : t = false := by
            rw [HT.out]
            exact List.all_eq_false.2 ⟨sw[k], List.getElem_mem hlt, by rw [hq.out]; simp; omega⟩
          subst tf
          go_wp2
          go_ret
          exact ⟨rfl, hb.out.alloc hb.out.size _⟩
        · have r1 : decide (x < 0) = false := by simp; omega
          by_cases p2 : (n : Int) ≤ y
          · have r2 : decide (y ≥ (n : Int)) = true := by simp; omega
            have r3 : decide ((n : Int) ≤ y) = true := by simp; omega
            have tf : t = false := by
              rw [HT.out]
              exact List.all_eq_false.2 ⟨sw[k], List.getElem_mem hlt, by rw [hq.out]; simp; omega⟩
            subst tf
            go_wp2
            go_ret
            exact ⟨rfl, hb.out.alloc hb.out.size _⟩
          · have r2 : decide (y ≥ (n : Int)) = false := by simp; omega
            have r3 : decide ((n : Int) ≤ y) = false := by simp; omega
            have hall2 := hide (show (sw.take (k + 1)).all (swOk n) = true by rw [hat.out, hall.out, hq.out]; simp; omega)
            go_wp2
            go_roundw
            all_goals first
              | exact ⟨k + 1, by omega, by go_num, hall2.out, hb.out.alloc hb.out.size _⟩
              | (simp [intOf]; omega)
      · subst hc
        have o1 : decide (x < x) = false := by simp
        have o2 : decide (x ≤ x) = true := by simp
        by_cases p1 : x < 0
        · have r1 : decide (x < 0) = true := by simp; omega
          have tf : t = false := by
            rw [HT.out]
            exact List.all_eq_false.2 ⟨sw[k], List.getElem_mem hlt, by rw [hq.out]; simp; omega⟩
          subst tf
          go_wp2
          go_ret
          exact ⟨rfl, hb.out.alloc hb.out.size _⟩
        · have r1 : decide (x < 0) = false := by simp; omega
          by_cases p2 : (n : Int) ≤ x
          · have r2 : decide (x ≥ (n : Int)) = true := by simp; omega
            have r3 : decide ((n : Int) ≤ x) = true := by simp; omega
            have tf : t = false := by
              rw [HT.out]
              exact List.all_eq_false.2 ⟨sw[k], List.getElem_mem hlt, by rw [hq.out]; simp; omega⟩
            subst tf
            go_wp2
            go_ret
            exact ⟨rfl, hb.out.alloc hb.out.size _⟩
          · have r2 : decide (x ≥ (n : Int)) = false := by simp; omega
            have r3 : decide ((n : Int) ≤ x) = false := by simp; omega
            have hall2 := hide (show (sw.take (k + 1)).all (swOk n) = true by rw [hat.out, hall.out, hq.out]; simp; omega)
            go_wp2
            go_roundw
            all_goals first
              | exact ⟨k + 1, by omega, by go_num, hall2.out, hb.out.alloc hb.out.size _⟩
              | (simp [intOf]; omega)
      · have o1 : decide (x < y) = false := by simp; omega
        have o2 : decide (x ≤ y) = false := by simp; omega
        by_cases p1 : y < 0
        · have r1 : decide (y < 0) = true := by simp; omega
          have tf : t = false := by
            rw [HT.out]
            exact List.all_eq_false.2 ⟨sw[k], List.getElem_mem hlt, by rw [hq.out]; simp; omega⟩
          subst tf
          go_wp2
          go_ret
          exact ⟨rfl, hb.out.alloc hb.out.size _⟩
        · have r1 : decide (y < 0) = false := by simp; omega
          by_cases p2 : (n : Int) ≤ x
          · have r2 : decide (x ≥ (n : Int)) = true := by simp; omega
            have r3 : decide ((n : Int) ≤ x) = true := by simp; omega
            have tf : t = false := by
              rw [HT.out]
              exact List.all_eq_false.2 ⟨sw[k], List.getElem_mem hlt, by rw [hq.out]; simp; omega⟩
            subst tf
            go_wp2
            go_ret
            exact ⟨rfl, hb.out.alloc hb.out.size _⟩
          · have r2 : decide (x ≥ (n : Int)) = false := by simp; omega
            have r3 : decide ((n : Int) ≤ x) = false := by simp; omega
            have hall2 := hide (show (sw.take (k + 1)).all (swOk n) = true by rw [hat.out, hall.out, hq.out]; simp; omega)
            go_wp2
            go_roundw
            all_goals first
              | exact ⟨k + 1, by omega, by go_num, hall2.out, hb.out.alloc hb.out.size _⟩
              | (simp [intOf]; omega)
    · have hke : k = sw.length := by omega
      subst hke
      have tt : t = true := by rw [HT.out, ← hall.out, List.take_length]
      subst tt
      go_wp2
      go_ret
      exact ⟨rfl, hb.out⟩

end Go.Proofs.Ytepkkeclkdlheaa

/- What ApplySwaps of the program returns (promise 3). -/
namespace Go.Proofs.Ytepkkeclkdlheaa
open Go.RowKit Go.ChangeShapes
set_option linter.unusedSimpArgs false
set_option linter.unusedVariables false
set_option maxRecDepth 100000

set_option maxHeartbeats 4000000 in
theorem iApply_eq (a1 a2 a3 : Option Addr) (c1 c2 c3 : Nat) (sv : Value) (l r : List Int) (ps sw : List Pv) (w : World) (B : Nat) (V : Hid (Ck w B (.agg #[.slice a1 l.length c1, .slice a2 l.length c2, .slice a3 ps.length c3]) l r ps)) (HR : Hid (r.length = l.length)) (hs : Pvs w B sv sw) (hB : B ≤ w.heap.size) (hl : l.length ≤ 1048576) (hp : ps.length ≤ 1048576) (t : Bool) (HT : Hid (t = sw.all (swOk l.length))) (LL RR : List Int) (HLL : Hid (LL = if t = true then swaps l sw else l)) (HRR : Hid (RR = if t = true then swaps r sw else r)) :
    Calls Try.prog 175 #[.agg #[.slice a1 l.length c1, .slice a2 l.length c2, .slice a3 ps.length c3], sv] w (RetOCB w LL RR ps t) := by
  have HC := hide hs
  obtain ⟨ad, cap, rfl, hlen, hwf, hcell⟩ := hs
  have HCC := hide hcell
  clear hcell hwf
  have X := hide (Kn.two w #[.slice a1 l.length c1, .slice a2 l.length c2, .slice a3 ps.length c3] #[.slice none 0 0, .slice none 0 0, .slice none 0 0] 25 25)
  obtain ⟨w1, hw1⟩ : ∃ w1, w1 = (w.alloc (.cells #[.slice a1 l.length c1, .slice a2 l.length c2, .slice a3 ps.length c3] 25)).alloc (.cells #[.slice none 0 0, .slice none 0 0, .slice none 0 0] 25) := ⟨_, rfl⟩
  have hz1 := hide (show w1.heap.size = w.heap.size + 1 + 1 by rw [hw1]; simp)
  rw [← hw1] at X
  have hq0 : ((l.length : Int) != (l.length : Int)) = false := by simp
  have C0 := hide (fun (W : World) (h : Below w.heap.size w W) => iCopy_any _ l r ps W B (V.out.below h hB) (Nat.le_trans hB h.size) hl (by rw [HR.out]; exact hl) hp)
  have CH := hide (fun (W : World) (h : Below w.heap.size w W) => show Calls Try.prog 182 #[.slice ad sw.length cap, .int .i64 l.length] W (RetB1 W t) by rw [HT.out]; exact iHave_any _ sw l.length W B (HC.out.below h hB) (Nat.le_trans hB h.size))
  go_enter Try.func175, Try.ntmps175
  go_wp2_with fail
  rw [← hw1]
  clear hw1
  have c0 : w1.cell? ⟨w.heap.size, 0, none⟩ = some (.slice a1 l.length c1) := X.out.cell 0 0 rfl rfl
  have c1' : w1.cell? ⟨w.heap.size, 1, none⟩ = some (.slice a2 l.length c2) := X.out.cell 0 1 rfl rfl
  have c2' : w1.cell? ⟨w.heap.size, 2, none⟩ = some (.slice a3 ps.length c3) := X.out.cell 0 2 rfl rfl
  go_wp2_with fail
  go_at_call 103
  refine (C0.out _ X.out.below).mono ?_
  rintro e w2 ⟨x, y, z, lo, hi, n1, h1, n2, h2, n3, h3, rfl, q1, q2, O, hb⟩
  obtain ⟨x1, k1, rfl⟩ := O.x.form
  obtain ⟨x2, k2, hx2⟩ := O.y.form
  rw [HR.out] at hx2
  subst hx2
  obtain ⟨x3, k3, rfl⟩ := O.z.own.form
  have X2 := hide (X.out.up hb)
  have X3 := hide (X2.out.alloc #[.slice x1 l.length k1, .slice x2 l.length k2, .slice x3 ps.length k3] 25)
  have O3 := hide (O.below ((Below.refl w2.heap.size w2).alloc (Nat.le_refl _) (.cells #[.slice x1 l.length k1, .slice x2 l.length k2, .slice x3 ps.length k3] 25)))
  clear c0 c1' c2' O hb X X2
  obtain ⟨m, hm⟩ : ∃ m, m = w2.heap.size := ⟨_, rfl⟩
  obtain ⟨w3, hw3⟩ : ∃ w3, w3 = w2.alloc (.cells #[.slice x1 l.length k1, .slice x2 l.length k2, .slice x3 ps.length k3] 25) := ⟨_, rfl⟩
  rw [← hw3] at X3 O3
  rw [← hm] at X3 q2
  simp only [List.cons_append, List.nil_append] at X3
  have b0 : w3.cell? ⟨w.heap.size, 0, none⟩ = some (.slice a1 l.length c1) := X3.out.cell 0 0 rfl rfl
  have b1 : w3.cell? ⟨w.heap.size, 1, none⟩ = some (.slice a2 l.length c2) := X3.out.cell 0 1 rfl rfl
  have Q1 := hide q1
  have Q2 := hide q2
  rw [hw3] at b0 b1
  go_wp2_with fail
  rw [← hw3]
  try rw [← hm]
  clear b0 b1 hw3 hm q1 q2
  go_at_call 182
  refine (CH.out _ X3.out.below).mono ?_
  rintro e w4 ⟨rfl, hb⟩
  have K3 := hide (X3.out.up hb)
  have O3 := hide (O3.out.below hb)
  clear X3 hb
  cases t with
  | false =>
    obtain rfl : LL = l := HLL.out
    obtain rfl : RR = r := HRR.out
    have e0 : w4.cell? ⟨m, 0, none⟩ = some (.slice x1 LL.length k1) := K3.out.cell 2 0 rfl rfl
    have e1 : w4.cell? ⟨m, 1, none⟩ = some (.slice x2 LL.length k2) := K3.out.cell 2 1 rfl rfl
    have e2 : w4.cell? ⟨m, 2, none⟩ = some (.slice x3 ps.length k3) := K3.out.cell 2 2 rfl rfl
    have g0 : w4.cell? ⟨w.heap.size + 1, 0, none⟩ = some (.slice none 0 0) := K3.out.cell 1 0 rfl rfl
    have g1 : w4.cell? ⟨w.heap.size + 1, 1, none⟩ = some (.slice none 0 0) := K3.out.cell 1 1 rfl rfl
    have g2 : w4.cell? ⟨w.heap.size + 1, 2, none⟩ = some (.slice none 0 0) := K3.out.cell 1 2 rfl rfl
    have f0 := K3.out.free 1 0 rfl
    have f1 := K3.out.free 1 1 rfl
    have f2 := K3.out.free 1 2 rfl
    go_wp2_with fail
    have Z := ((K3.out.set 1 0 rfl (.slice x1 LL.length k1)).set 1 1 rfl (.slice x2 LL.length k2)).set 1 2 rfl (.slice x3 ps.length k3)
    have z0 := Z.cell 1 0 rfl rfl
    have z1 := Z.cell 1 1 rfl rfl
    have z2 := Z.cell 1 2 rfl rfl
    have q1 := Q1.out
    have hz := hz1.out
    have O6 := O3.out.seg (seg3 _ (w.heap.size + 1) (.slice x1 LL.length k1) (.slice x2 LL.length k2) (.slice x3 ps.length k3)) (.inr (by omega))
    exact bodyPost_ret (v := .tuple #[.agg #[.slice x1 LL.length k1, .slice x2 LL.length k2, .slice x3 ps.length k3], .bool false]) (by simp [results, Try.results175, go_sem, z0, z1, z2]) rfl
      ⟨_, _, _, lo, hi, n1, h1, n2, h2, n3, h3, rfl, by omega, O6.top.2, O6, Z.below⟩
  | true =>
    have EL : Hid (LL = swaps l sw) := HLL.out
    have ER : Hid (RR = swaps r sw) := HRR.out
    clear HLL HRR
    go_wp2_with fail
    go_loopw [29] (fun u wr => ∃ (k : Nat), k ≤ sw.length ∧ u = .int .i64 k ∧ Hid (Kn w wr [(w.heap.size, #[.slice a1 l.length c1, .slice a2 l.length c2, .slice a3 ps.length c3], 25), (w.heap.size + 1, #[.slice none 0 0, .slice none 0 0, .slice none 0 0], 25), (m, #[.slice x1 l.length k1, .slice x2 l.length k2, .slice x3 ps.length k3], 25)]) ∧ Hid (OC wr (.slice x1 l.length k1) (.slice x2 l.length k2) (.slice x3 ps.length k3) (swaps l (sw.take k)) (swaps r (sw.take k)) ps lo hi n1 h1 n2 h2 n3 h3)) (fun u _ => sw.length - (intOf u).toNat)
    case atStart => exact ⟨0, by omega, rfl, K3.out, by simpa [Hid, swaps] using O3.out⟩
    case round =>
      clear K3 O3
      obtain ⟨k, hk, rfl, K, O⟩ := hrel
      by_cases hlt : k < sw.length
      · have es1 := swaps_take l sw k hlt
        have es2 := swaps_take r sw k hlt
        obtain ⟨b1, o1, rfl, hb1, hc1, hc2⟩ := HCC.out k hlt
        have hok := List.all_eq_true.1 HT.out.symm _ (List.getElem_mem hlt)
        unfold swOk at hok
        simp only [Bool.and_eq_true, decide_eq_true_eq] at hok
        obtain ⟨⟨p1, p2⟩, p3, p4⟩ := hok
        obtain ⟨i, hi⟩ := Int.eq_ofNat_of_zero_le p1
        obtain ⟨j, hj⟩ := Int.eq_ofNat_of_zero_le p3
        rw [hi] at hc1 p2 es1 es2
        rw [hj] at hc2 p4 es1 es2
        rw [Int.toNat_natCast, Int.toNat_natCast] at es1 es2
        have d1 : wr.cell? ⟨b1, o1 + k * 2, none⟩ = some (.int .i64 i) := by rw [K.out.below.cell (p := ⟨b1, o1 + k * 2, none⟩) (Nat.lt_of_lt_of_le hb1 hB)]; exact hc1
        have d2 : wr.cell? ⟨b1, o1 + k * 2 + 1, none⟩ = some (.int .i64 j) := by rw [K.out.below.cell (p := ⟨b1, o1 + k * 2 + 1, none⟩) (Nat.lt_of_lt_of_le hb1 hB)]; exact hc2
        have H1 := hide (show i < (swaps l (sw.take k)).length by rw [swaps_length]; omega)
        have H2 := hide (show j < (swaps l (sw.take k)).length by rw [swaps_length]; omega)
        have H3 := hide (show i < (swaps r (sw.take k)).length by rw [swaps_length, HR.out]; omega)
        have H4 := hide (show j < (swaps r (sw.take k)).length by rw [swaps_length, HR.out]; omega)
        have ES1 := hide es1
        have ES2 := hide es2
        clear hc1 hc2 hb1 p1 p2 p3 p4 hi hj es1 es2
        have hbl := below1 wr (.cells #[.int .i64 i, .int .i64 j] 111)
        have K2 := hide (K.out.alloc #[.int .i64 i, .int .i64 j] 111)
        have O2 := hide (O.out.below hbl)
        clear hbl
        obtain ⟨w5, hw5⟩ : ∃ w5, w5 = wr.alloc (.cells #[.int .i64 i, .int .i64 j] 111) := ⟨_, rfl⟩
        rw [← hw5] at K2 O2
        simp only [List.cons_append, List.nil_append] at K2
        have e0 : w5.cell? ⟨m, 0, none⟩ = some (.slice x1 l.length k1) := K2.out.cell 2 0 rfl rfl
        rw [hw5] at e0
        have N5 := hide (show wr.heap.size < w5.heap.size by rw [hw5]; simp)
        have N6 := hide (Nat.le_trans O.out.top.2 (Nat.le_refl wr.heap.size))
        go_wp2_with fail
        rw [← hw5]
        clear e0 d1 d2
        go_at_call 183
        refine (iExch_ow _ (swaps l (sw.take k)) n1 h1 i j w5 O2.out.x H1.out H2.out).mono ?_
        rintro e' w6 ⟨⟨u, rfl⟩, Ox, s1⟩
        obtain ⟨l1, l2, l3⟩ := O.out.low
        obtain ⟨g1, g2, g3⟩ := O.out.high
        obtain ⟨r1, r2, r3⟩ := O.out.apart
        have hz := hz1.out
        have hq1 := Q1.out
        have hq2 := Q2.out
        have hn6 := N6.out
        have hm := K.out.lt 2 rfl
        have hlo := O.out.x.le
        have K3 := hide (K2.out.seg s1 (by omega) (by intro e he; simp at he; rcases he with rfl | rfl | rfl | rfl <;> simp <;> omega))
        have Oy := hide (O2.out.y.seg s1 (by omega))
        have Oz := hide (O2.out.z.seg s1 (by omega))
        have Ox := hide Ox
        have s1 := hide s1
        have e1 : w6.cell? ⟨m, 1, none⟩ = some (.slice x2 l.length k2) := K3.out.cell 2 1 rfl rfl
        have d1 : w6.cell? ⟨wr.heap.size, 0, none⟩ = some (.int .i64 i) := K3.out.cell 3 0 rfl rfl
        have d2 : w6.cell? ⟨wr.heap.size, 1, none⟩ = some (.int .i64 j) := K3.out.cell 3 1 rfl rfl
        have L := hide (And.intro l1 (And.intro l2 l3))
        have G := hide (And.intro g1 (And.intro g2 g3))
        have A := hide (And.intro r1 (And.intro r2 r3))
        clear l1 l2 l3 g1 g2 g3 r1 r2 r3 hz hq1 hq2 hn6 hm hlo K2 O2 hw5
        go_wp2_with fail
        go_at_call 183
        refine (iExch_ow _ (swaps r (sw.take k)) n2 h2 i j w6 Oy.out H3.out H4.out).mono ?_
        rintro e' w7 ⟨⟨u', rfl⟩, Oy7, s2⟩
        obtain ⟨l1, l2, l3⟩ := L.out
        obtain ⟨g1, g2, g3⟩ := G.out
        obtain ⟨r1, r2, r3⟩ := A.out
        have hz := hz1.out
        have hq1 := Q1.out
        have hq2 := Q2.out
        have hn6 := N6.out
        have hm := K.out.lt 2 rfl
        have hlo := O.out.y.le
        have K4 := hide ((K3.out.seg s2 (by omega) (by intro e he; simp at he; rcases he with rfl | rfl | rfl | rfl <;> simp <;> omega)).sub (M := [(w.heap.size, #[.slice a1 l.length c1, .slice a2 l.length c2, .slice a3 ps.length c3], 25), (w.heap.size + 1, #[.slice none 0 0, .slice none 0 0, .slice none 0 0], 25), (m, #[.slice x1 l.length k1, .slice x2 l.length k2, .slice x3 ps.length k3], 25)]) (List.sublist_append_left _ [_]))
        have Ox7 := hide (Ox.out.seg s2 (by omega))
        have Oz7 := hide (Oz.out.seg s2 (by omega))
        have hsz := hide (Nat.le_trans O.out.top.2 (Nat.le_trans (Nat.le_of_lt N5.out) (Nat.le_trans s1.out.below.size s2.below.size)))
        have Oy7 := hide Oy7
        clear l1 l2 l3 g1 g2 g3 r1 r2 r3 hz hq1 hq2 hn6 hm hlo K3 s2 d1 d2 e1
        go_wp2_with fail
        go_roundw
        case rel =>
          refine ⟨k + 1, by omega, by go_num, K4.out, ?_⟩
          show OC _ _ _ _ _ _ _ _ _ _ _ _ _ _ _
          rw [ES1.out, ES2.out]
          exact ⟨Ox7.out, Oy7.out, Oz7.out, L.out, G.out, A.out, O.out.top.1, hsz.out⟩
        case measure => simp [intOf]; omega
      · have hke : k = sw.length := by omega
        subst hke
        rw [List.take_length] at O
        rw [← EL.out, ← ER.out] at O
        have e0 : wr.cell? ⟨m, 0, none⟩ = some (.slice x1 l.length k1) := K.out.cell 2 0 rfl rfl
        have e1 : wr.cell? ⟨m, 1, none⟩ = some (.slice x2 l.length k2) := K.out.cell 2 1 rfl rfl
        have e2 : wr.cell? ⟨m, 2, none⟩ = some (.slice x3 ps.length k3) := K.out.cell 2 2 rfl rfl
        have g0 : wr.cell? ⟨w.heap.size + 1, 0, none⟩ = some (.slice none 0 0) := K.out.cell 1 0 rfl rfl
        have g1 : wr.cell? ⟨w.heap.size + 1, 1, none⟩ = some (.slice none 0 0) := K.out.cell 1 1 rfl rfl
        have g2 : wr.cell? ⟨w.heap.size + 1, 2, none⟩ = some (.slice none 0 0) := K.out.cell 1 2 rfl rfl
        have f0 := K.out.free 1 0 rfl
        have f1 := K.out.free 1 1 rfl
        have f2 := K.out.free 1 2 rfl
        go_wp2_with fail
        have Z := ((K.out.set 1 0 rfl (.slice x1 l.length k1)).set 1 1 rfl (.slice x2 l.length k2)).set 1 2 rfl (.slice x3 ps.length k3)
        have z0 := Z.cell 1 0 rfl rfl
        have z1 := Z.cell 1 1 rfl rfl
        have z2 := Z.cell 1 2 rfl rfl
        have q1 := Q1.out
        have hz := hz1.out
        have O6 := O.out.seg (seg3 _ (w.heap.size + 1) (.slice x1 l.length k1) (.slice x2 l.length k2) (.slice x3 ps.length k3)) (.inr (by omega))
        exact bodyPost_ret (v := .tuple #[.agg #[.slice x1 l.length k1, .slice x2 l.length k2, .slice x3 ps.length k3], .bool true]) (by simp [results, Try.results175, go_sem, z0, z1, z2]) rfl
          ⟨_, _, _, lo, hi, n1, h1, n2, h2, n3, h3, rfl, by omega, O6.top.2, O6, Z.below⟩

end Go.Proofs.Ytepkkeclkdlheaa

/- What ApplySwaps of the program returns, whole (promise 3). Written by gen_aps.py. -/
namespace Go.Proofs.Ytepkkeclkdlheaa
open Go.RowKit Go.ChangeShapes
set_option linter.unusedSimpArgs false
set_option linter.unusedVariables false
set_option maxRecDepth 100000

set_option maxHeartbeats 4000000 in
theorem iApply_ne (a1 a2 a3 : Option Addr) (c1 c2 c3 : Nat) (sv : Value) (l r : List Int) (ps sw : List Pv) (w : World) (B : Nat) (V : Hid (Ck w B (.agg #[.slice a1 l.length c1, .slice a2 r.length c2, .slice a3 ps.length c3]) l r ps)) (HR : ¬ (r.length = l.length)) (hs : Pvs w B sv sw) (hB : B ≤ w.heap.size) (hl : l.length ≤ 1048576) (hr : r.length ≤ 1048576) (hp : ps.length ≤ 1048576) :
    Calls Try.prog 175 #[.agg #[.slice a1 l.length c1, .slice a2 r.length c2, .slice a3 ps.length c3], sv] w (RetOCB w l r ps false) := by
  obtain ⟨ad, cap, rfl, -⟩ := hs
  have hq0 : ((r.length : Int) != (l.length : Int)) = true := by simp; omega
  have hq1 : (r.length == l.length) = false := by simp; omega
  have hq2 : decide (r.length = l.length) = false := by simp; omega
  clear HR
  have X := hide (Kn.two w #[.slice a1 l.length c1, .slice a2 r.length c2, .slice a3 ps.length c3] #[.slice none 0 0, .slice none 0 0, .slice none 0 0] 25 25)
  obtain ⟨w1, hw1⟩ : ∃ w1, w1 = (w.alloc (.cells #[.slice a1 l.length c1, .slice a2 r.length c2, .slice a3 ps.length c3] 25)).alloc (.cells #[.slice none 0 0, .slice none 0 0, .slice none 0 0] 25) := ⟨_, rfl⟩
  have hz1 := hide (show w1.heap.size = w.heap.size + 1 + 1 by rw [hw1]; simp)
  rw [← hw1] at X
  have C0 := hide (fun (W : World) (h : Below w.heap.size w W) => iCopy_any _ l r ps W B (V.out.below h hB) (Nat.le_trans hB h.size) hl hr hp)
  go_enter Try.func175, Try.ntmps175
  go_wp2_with fail
  rw [← hw1]
  clear hw1
  have c0 : w1.cell? ⟨w.heap.size, 0, none⟩ = some (.slice a1 l.length c1) := X.out.cell 0 0 rfl rfl
  have c1' : w1.cell? ⟨w.heap.size, 1, none⟩ = some (.slice a2 r.length c2) := X.out.cell 0 1 rfl rfl
  have c2' : w1.cell? ⟨w.heap.size, 2, none⟩ = some (.slice a3 ps.length c3) := X.out.cell 0 2 rfl rfl
  go_wp2_with fail
  go_at_call 103
  refine (C0.out _ X.out.below).mono ?_
  rintro e w2 ⟨x, y, z, lo, hi, n1, h1, n2, h2, n3, h3, rfl, q1, q2, O, hb⟩
  obtain ⟨x1, k1, rfl⟩ := O.x.form
  obtain ⟨x2, k2, rfl⟩ := O.y.form
  obtain ⟨x3, k3, rfl⟩ := O.z.own.form
  have X2 := hide (X.out.up hb)
  have X3 := hide (X2.out.alloc #[.slice x1 l.length k1, .slice x2 r.length k2, .slice x3 ps.length k3] 25)
  have O3 := hide (O.below ((Below.refl w2.heap.size w2).alloc (Nat.le_refl _) (.cells #[.slice x1 l.length k1, .slice x2 r.length k2, .slice x3 ps.length k3] 25)))
  clear c0 c1' c2' O hb X X2
  obtain ⟨m, hm⟩ : ∃ m, m = w2.heap.size := ⟨_, rfl⟩
  obtain ⟨w3, hw3⟩ : ∃ w3, w3 = w2.alloc (.cells #[.slice x1 l.length k1, .slice x2 r.length k2, .slice x3 ps.length k3] 25) := ⟨_, rfl⟩
  rw [← hw3] at X3 O3
  rw [← hm] at X3 q2
  simp only [List.cons_append, List.nil_append] at X3
  have b0 : w3.cell? ⟨w.heap.size, 0, none⟩ = some (.slice a1 l.length c1) := X3.out.cell 0 0 rfl rfl
  have b1 : w3.cell? ⟨w.heap.size, 1, none⟩ = some (.slice a2 r.length c2) := X3.out.cell 0 1 rfl rfl
  have g0 : w3.cell? ⟨w.heap.size + 1, 0, none⟩ = some (.slice none 0 0) := X3.out.cell 1 0 rfl rfl
  have g1 : w3.cell? ⟨w.heap.size + 1, 1, none⟩ = some (.slice none 0 0) := X3.out.cell 1 1 rfl rfl
  have g2 : w3.cell? ⟨w.heap.size + 1, 2, none⟩ = some (.slice none 0 0) := X3.out.cell 1 2 rfl rfl
  have f0 := X3.out.free 1 0 rfl
  have f1 := X3.out.free 1 1 rfl
  have f2 := X3.out.free 1 2 rfl
  have Q1 := hide q1
  have Q2 := hide q2
  rw [hw3] at b0 b1 g0 g1 g2 f0 f1 f2
  go_wp2_with fail
  have Z := ((X3.out.set 1 0 rfl (.slice x1 l.length k1)).set 1 1 rfl (.slice x2 r.length k2)).set 1 2 rfl (.slice x3 ps.length k3)
  have q1 := Q1.out
  have hz := hz1.out
  have O6 := O3.out.seg (seg3 _ (w.heap.size + 1) (.slice x1 l.length k1) (.slice x2 r.length k2) (.slice x3 ps.length k3)) (.inr (by omega))
  rw [hw3] at Z O6
  have z0 := Z.cell 1 0 rfl rfl
  have z1 := Z.cell 1 1 rfl rfl
  have z2 := Z.cell 1 2 rfl rfl
  exact bodyPost_ret (v := .tuple #[.agg #[.slice x1 l.length k1, .slice x2 r.length k2, .slice x3 ps.length k3], .bool false]) (by simp [results, Try.results175, go_sem, z0, z1, z2]) rfl
    ⟨_, _, _, lo, hi, n1, h1, n2, h2, n3, h3, rfl, by omega, O6.top.2, O6, Z.below⟩

theorem iApply_any (v sv : Value) (l r : List Int) (ps sw : List Pv) (w : World) (B : Nat) (hv : Ck w B v l r ps) (hs : Pvs w B sv sw) (hB : B ≤ w.heap.size) (hl : l.length ≤ 1048576) (hr : r.length ≤ 1048576) (hp : ps.length ≤ 1048576) :
    Calls Try.prog 175 #[v, sv] w (RetOCB w (apL l r sw) (apR l r sw) ps (canSwap l r sw)) := by
  obtain ⟨a1, c1, a2, c2, a3, c3, rfl, -⟩ := hv.form
  by_cases h : r.length = l.length
  · rw [h] at hv ⊢
    have e : canSwap l r sw = sw.all (swOk l.length) := by unfold canSwap; rw [decide_eq_true h]; rfl
    exact iApply_eq a1 a2 a3 c1 c2 c3 sv l r ps sw w B hv h hs hB hl hp _ e _ _ rfl rfl
  · have e : canSwap l r sw = false := by unfold canSwap; rw [decide_eq_false h]; rfl
    have e1 : apL l r sw = l := by unfold apL; rw [e]; rfl
    have e2 : apR l r sw = r := by unfold apR; rw [e]; rfl
    rw [e, e1, e2]
    exact iApply_ne a1 a2 a3 c1 c2 c3 sv l r ps sw w B hv h hs hB hl hr hp

end Go.Proofs.Ytepkkeclkdlheaa

/- A scope in which the run jumps to two labels, 0 and 1: what holds at every jump, and a measure that every pass lowers. Any program. -/
namespace Go.Proofs.Ytepkkeclkdlheaa
open Go.RowKit

/-- As Q; by a goto to label 0: J; to label 1: K; by any other goto: no way out. -/
def exitJ (J K : Act → World → Prop) (Q : Exit → Act → World → Prop) : Exit → Act → World → Prop
  | .goto l, a, w => (l = 0 ∧ J a w) ∨ (l = 1 ∧ K a w)
  | e, a, w => Q e a w

theorem exitJ_ret (J K : Act → World → Prop) (Q : Exit → Act → World → Prop) (a : Act) (w : World) : exitJ J K Q .ret a w = Q .ret a w := rfl

theorem exitJ_mono {J K J' K' : Act → World → Prop} {Q : Exit → Act → World → Prop} (hJ : ∀ a w, J a w → J' a w) (hK : ∀ a w, K a w → K' a w) (e : Exit) (a : Act) (w : World) (h : exitJ J K Q e a w) : exitJ J' K' Q e a w := by
  cases e with
  | goto l =>
    rcases h with h | h
    · exact .inl ⟨h.1, hJ _ _ h.2⟩
    · exact .inr ⟨h.1, hK _ _ h.2⟩
  | normal => exact h
  | exit id => exact h
  | ret => exact h
  | panic ch => exact h
  | outgrown => exact h

theorem code_mono {P : Program} {c : Code} {a : Act} {w : World} {Q Q' : Exit → Act → World → Prop} (h : ∀ e a w, Q e a w → Q' e a w) (H : c.wp P Q a w) : c.wp P Q' a w := by
  intro b k cs
  obtain ⟨e, a', w', hq, hr⟩ := H b k cs
  exact ⟨e, a', w', h _ _ _ hq, hr⟩

/-- What a pass has to show of its ends: at a goto to 0 and 1 (the measure below n), and at a return. -/
structure Ends (J K : Act → World → Prop) (μ ν : Act → World → Nat) (Q : Exit → Act → World → Prop) (n : Nat) (E : Exit → Act → World → Prop) : Prop where
  zero : ∀ a w, J a w → μ a w < n → E (.goto 0) a w
  one : ∀ a w, K a w → ν a w < n → E (.goto 1) a w
  ret : ∀ a w, Q .ret a w → E .ret a w

theorem wp_scope_two {P : Program} {a : Act} {w : World} {Q : Exit → Act → World → Prop} {c r0 r1 : Code} (J K : Act → World → Prop) (μ ν : Act → World → Nat) (h0 : findLabel c 0 = some (Code.skip.seq r0)) (h1 : findLabel c 1 = some (Code.skip.seq r1))
    (pass1 : ∀ n E, Hid (Ends J K μ ν Q n E) → ∀ a w, K a w → ν a w ≤ n → r1.wp P E a w)
    (pass0 : ∀ n E, Hid (Ends J K μ ν Q n E) → Hid (∀ a w, K a w → ν a w ≤ n → r1.wp P E a w) → ∀ a w, J a w → μ a w ≤ n → r0.wp P E a w)
    (first : ∀ E, (∀ a w, J a w → r0.wp P E a w) → Hid (∀ a w, Q .ret a w → E .ret a w) → c.wp P E a w) : (Code.scope c).wp P Q a w := by
  have en : ∀ n, Ends J K μ ν Q n (exitJ (fun a' w' => J a' w' ∧ μ a' w' < n) (fun a' w' => K a' w' ∧ ν a' w' < n) Q) := fun n =>
    ⟨fun a w h1 h2 => .inl ⟨rfl, h1, h2⟩, fun a w h1 h2 => .inr ⟨rfl, h1, h2⟩, fun a w h => h⟩
  have P1 : ∀ n a w, K a w → ν a w ≤ n → (Code.skip.seq r1).wp P (exitJ (fun a' w' => J a' w' ∧ μ a' w' < n) (fun a' w' => K a' w' ∧ ν a' w' < n) Q) a w :=
    fun n a w h h2 => wp_seq (wp_skip (pass1 n _ (en n) a w h h2))
  have P0 : ∀ n a w, J a w → μ a w ≤ n → (Code.skip.seq r0).wp P (exitJ (fun a' w' => J a' w' ∧ μ a' w' < n) (fun a' w' => K a' w' ∧ ν a' w' < n) Q) a w :=
    fun n a w h h2 => wp_seq (wp_skip (pass0 n _ (en n) (pass1 n _ (en n)) a w h h2))
  intro b k cs
  have g0 : gotoIn 0 (.inScope c :: k) = some (.code (Code.skip.seq r0) :: .inScope c :: k) := by simp [gotoIn, h0]
  have g1 : gotoIn 1 (.inScope c :: k) = some (.code (Code.skip.seq r1) :: .inScope c :: k) := by simp [gotoIn, h1]
  have key : ∀ n, (∀ a w, μ a w = n → J a w → ∃ e a' w', Q e a' w' ∧ Arrives P (lone (b.at a (.code (Code.skip.seq r0) :: .inScope c :: k)) cs w) b k cs e a' w') ∧ (∀ a w, ν a w = n → K a w → ∃ e a' w', Q e a' w' ∧ Arrives P (lone (b.at a (.code (Code.skip.seq r1) :: .inScope c :: k)) cs w) b k cs e a' w') := by
    intro n
    induction n using Nat.strongRecOn with
    | _ n ih =>
      refine ⟨fun a w hn hJ => ?_, fun a w hn hJ => ?_⟩
      · obtain ⟨e, a₁, w₁, hq, harr⟩ := P0 n a w hJ (by omega) b (.inScope c :: k) cs
        cases e with
        | normal => exact ⟨.normal, a₁, w₁, hq, Steps.trans harr (.one step_inScope)⟩
        | exit id => exact ⟨.exit id, a₁, w₁, hq, fun k' hk => harr k' (by simp [exitTo, hk])⟩
        | goto l' =>
          rcases hq with ⟨rfl, hJ', hlt⟩ | ⟨rfl, hJ', hlt⟩
          · obtain ⟨e₂, a₂, w₂, hq₂, harr₂⟩ := (ih _ hlt).1 a₁ w₁ rfl hJ'
            exact ⟨e₂, a₂, w₂, hq₂, .of_steps (harr _ g0) harr₂⟩
          · obtain ⟨e₂, a₂, w₂, hq₂, harr₂⟩ := (ih _ hlt).2 a₁ w₁ rfl hJ'
            exact ⟨e₂, a₂, w₂, hq₂, .of_steps (harr _ g1) harr₂⟩
        | ret => exact ⟨_, a₁, w₁, hq, harr⟩
        | panic ch => exact ⟨_, a₁, w₁, hq, harr⟩
        | outgrown => exact ⟨_, a₁, w₁, hq, harr⟩
      · obtain ⟨e, a₁, w₁, hq, harr⟩ := P1 n a w hJ (by omega) b (.inScope c :: k) cs
        cases e with
        | normal => exact ⟨.normal, a₁, w₁, hq, Steps.trans harr (.one step_inScope)⟩
        | exit id => exact ⟨.exit id, a₁, w₁, hq, fun k' hk => harr k' (by simp [exitTo, hk])⟩
        | goto l' =>
          rcases hq with ⟨rfl, hJ', hlt⟩ | ⟨rfl, hJ', hlt⟩
          · obtain ⟨e₂, a₂, w₂, hq₂, harr₂⟩ := (ih _ hlt).1 a₁ w₁ rfl hJ'
            exact ⟨e₂, a₂, w₂, hq₂, .of_steps (harr _ g0) harr₂⟩
          · obtain ⟨e₂, a₂, w₂, hq₂, harr₂⟩ := (ih _ hlt).2 a₁ w₁ rfl hJ'
            exact ⟨e₂, a₂, w₂, hq₂, .of_steps (harr _ g1) harr₂⟩
        | ret => exact ⟨_, a₁, w₁, hq, harr⟩
        | panic ch => exact ⟨_, a₁, w₁, hq, harr⟩
        | outgrown => exact ⟨_, a₁, w₁, hq, harr⟩
  have F := first (exitJ J K Q) (fun a w h => code_mono (fun e a' w' hq => exitJ_mono (fun _ _ h => h.1) (fun _ _ h => h.1) e a' w' hq) (pass0 _ _ (en _) (pass1 _ _ (en _)) a w h (Nat.le_refl _))) (fun a w h => h)
  obtain ⟨e, a₁, w₁, hq, harr⟩ := F b (.inScope c :: k) cs
  cases e with
  | normal => exact ⟨.normal, a₁, w₁, hq, .head step_scope (Steps.trans harr (.one step_inScope))⟩
  | exit id => exact ⟨.exit id, a₁, w₁, hq, fun k' hk => .head step_scope (harr k' (by simp [exitTo, hk]))⟩
  | goto l' =>
    rcases hq with ⟨rfl, hJ'⟩ | ⟨rfl, hJ'⟩
    · obtain ⟨e₂, a₂, w₂, hq₂, harr₂⟩ := (key _).1 a₁ w₁ rfl hJ'
      exact ⟨e₂, a₂, w₂, hq₂, .of_steps (.head step_scope (harr _ g0)) harr₂⟩
    · obtain ⟨e₂, a₂, w₂, hq₂, harr₂⟩ := (key _).2 a₁ w₁ rfl hJ'
      exact ⟨e₂, a₂, w₂, hq₂, .of_steps (.head step_scope (harr _ g1)) harr₂⟩
  | ret => exact ⟨_, a₁, w₁, hq, .of_steps (.one step_scope) harr⟩
  | panic ch => exact ⟨_, a₁, w₁, hq, .of_steps (.one step_scope) harr⟩
  | outgrown => exact ⟨_, a₁, w₁, hq, .of_steps (.one step_scope) harr⟩

end Go.Proofs.Ytepkkeclkdlheaa

/- What Partition of the program returns: two labels (promise 3). Written by gen_pti.py. -/
namespace Go.Proofs.Ytepkkeclkdlheaa
open Go.RowKit Go.ChangeShapes
set_option linter.unusedSimpArgs false
set_option linter.unusedVariables false
set_option maxRecDepth 100000

theorem part_stay (l : List Int) (p : Int) (f i e : Nat) (h : i < e) (hx : l.getD i 0 < p) : part l p (f + 1) i e = part l p f (i + 1) e := by rw [part_step l p f i e h, if_pos hx]
theorem part_back (l : List Int) (p : Int) (f i q : Nat) (h : i < q + 1) (hx : p ≤ l.getD i 0) (hy : p ≤ l.getD q 0) : part l p (f + 1) i (q + 1) = part l p f i q := by rw [part_step l p f i _ h, if_neg (by omega), Nat.add_sub_cancel, if_pos hy]
theorem part_swap (l : List Int) (p : Int) (f i q : Nat) (h : i < q + 1) (hx : p ≤ l.getD i 0) (hy : ¬ (p ≤ l.getD q 0)) : part l p (f + 1) i (q + 1) = (((i : Int), (q : Int)) :: (part l p f (i + 1) q).1, (part l p f (i + 1) q).2) := by
  rw [part_step l p f i _ h, if_neg (by omega), Nat.add_sub_cancel, if_neg hy]
  simp

/-- At the first label. -/
def AtL (w : World) (l : List Int) (p : Int) (ad : Option Addr) (cap n e : Nat) (R : List Pv × Int) (a' : Act) (w' : World) : Prop := ∃ (f i j : Nat) (x z : Int) (out : List Pv) (sv u4 u5 u6 u7 u8 u9 u13 u14 u15 u16 u17 u18 u19 u20 u21 u22 u23 u24 u25 u26 u27 u28 u29 u30 u31 u32 u33 u34 u35 u36 u37 u38 u39 u40 u41 u42 u43 u44 u45 u46 u47 u48 u49 u50 u51 u52 u53 u54 u55 u56 u57 u58 u59 u60 u61 u62 u63 u64 : Value), a' = { tmps := #[.slice ad l.length cap, .int .i64 n, .int .i64 e, .int .i64 p, u4, u5, u6, u7, u8, u9, sv, .int .i64 x, .int .i64 z, u13, u14, u15, u16, u17, u18, u19, u20, u21, u22, u23, u24, u25, u26, u27, u28, u29, u30, u31, u32, u33, u34, u35, u36, u37, u38, u39, u40, u41, u42, u43, u44, u45, u46, u47, u48, u49, u50, u51, u52, u53, u54, u55, u56, u57, u58, u59, u60, u61, u62, u63, u64], defers := [] } ∧ x = (i : Int) ∧ z = (j : Int) - 1 ∧ j ≤ e ∧ i ≤ e ∧ i ≤ j + 1 ∧ Hid (j - i ≤ f) ∧ Hid (R = (out ++ (part l p f i j).1, ((part l p f i j).2 : Int))) ∧ Hid (OwS w' w.heap.size sv out) ∧ Hid (out.length + j ≤ 2097152) ∧ Hid (Below w.heap.size w w')

/-- At the second label: the element at i is not less. -/
def AtR (w : World) (l : List Int) (p : Int) (ad : Option Addr) (cap n e : Nat) (R : List Pv × Int) (a' : Act) (w' : World) : Prop := ∃ (f i j : Nat) (x z : Int) (out : List Pv) (sv u4 u5 u6 u7 u8 u9 u13 u14 u15 u16 u17 u18 u19 u20 u21 u22 u23 u24 u25 u26 u27 u28 u29 u30 u31 u32 u33 u34 u35 u36 u37 u38 u39 u40 u41 u42 u43 u44 u45 u46 u47 u48 u49 u50 u51 u52 u53 u54 u55 u56 u57 u58 u59 u60 u61 u62 u63 u64 : Value), a' = { tmps := #[.slice ad l.length cap, .int .i64 n, .int .i64 e, .int .i64 p, u4, u5, u6, u7, u8, u9, sv, .int .i64 x, .int .i64 z, u13, u14, u15, u16, u17, u18, u19, u20, u21, u22, u23, u24, u25, u26, u27, u28, u29, u30, u31, u32, u33, u34, u35, u36, u37, u38, u39, u40, u41, u42, u43, u44, u45, u46, u47, u48, u49, u50, u51, u52, u53, u54, u55, u56, u57, u58, u59, u60, u61, u62, u63, u64], defers := [] } ∧ x = (i : Int) ∧ z = (j : Int) - 1 ∧ j ≤ e ∧ i ≤ e ∧ i ≤ j + 1 ∧ Hid (j - i ≤ f) ∧ Hid (R = (out ++ (part l p f i j).1, ((part l p f i j).2 : Int))) ∧ Hid (OwS w' w.heap.size sv out) ∧ Hid (out.length + j ≤ 2097152) ∧ Hid (Below w.heap.size w w') ∧ Hid (p ≤ l.getD i 0) ∧ Hid (i < l.length)

def muL (a' : Act) (_ : World) : Nat := 2 * (intOf (a'.tmps.getD 12 undef) + 2 - intOf (a'.tmps.getD 11 undef)).toNat + 1
def muR (a' : Act) (_ : World) : Nat := 2 * (intOf (a'.tmps.getD 12 undef) + 2 - intOf (a'.tmps.getD 11 undef)).toNat

set_option maxHeartbeats 4000000 in
theorem iPart_in (l : List Int) (n e : Nat) (p : Int) (ad : Option Addr) (cap : Nat) (w : World) (B : Nat) (HC : Hid (∀ j (h : j < l.length), ∃ b o, ad = some ⟨b, o, none⟩ ∧ b < B ∧ w.cell? ⟨b, o + j, none⟩ = some (.int .i64 l[j]))) (hB : B ≤ w.heap.size) (hl : l.length ≤ 1048576) (hne : n ≤ e) (hel : e ≤ l.length) (R : List Pv × Int) (HR : Hid (R = ((part l p (e - n) n e).1, ((part l p (e - n) n e).2 : Int)))) :
    Calls Try.prog 174 #[.slice ad l.length cap, .int .i64 n, .int .i64 e, .int .i64 p] w (RetSI w R) := by
  have t1 : decide ((n : Int) < 0) = false := by simp
  have t2 : decide (e < n) = false := by simp; omega
  have t3 : decide (l.length < e) = false := by simp; omega
  go_enter Try.func174, Try.ntmps174
  go_wp2_with fail
  refine wp_scope_two (AtL w l p ad cap n e R) (AtR w l p ad cap n e R) muL muR rfl rfl ?_ ?_ ?_
  · intro m E hE a' w' hK hm
    obtain ⟨f, i, j, x, z, out, sv, u4, u5, u6, u7, u8, u9, u13, u14, u15, u16, u17, u18, u19, u20, u21, u22, u23, u24, u25, u26, u27, u28, u29, u30, u31, u32, u33, u34, u35, u36, u37, u38, u39, u40, u41, u42, u43, u44, u45, u46, u47, u48, u49, u50, u51, u52, u53, u54, u55, u56, u57, u58, u59, u60, u61, u62, u63, u64, rfl, rfl, hz, hje, hie, hij, hf, hR, O, hol, hb, hx, hil⟩ := hK
    have hm2 := hide (show 2 * (z + 2 - (i : Int)).toNat ≤ m by simpa [muR, intOf] using hm)
    clear hm
    by_cases hlt : i < j
    · obtain ⟨q, rfl⟩ : ∃ q, j = q + 1 := ⟨j - 1, by omega⟩
      obtain rfl : z = (q : Int) := by omega
      obtain ⟨f', rfl⟩ : ∃ f', f = f' + 1 := ⟨f - 1, by have := hf.out; omega⟩
      have hql : q < l.length := by omega
      obtain ⟨b1, o1, rfl, hb1, hc1⟩ := HC.out q hql
      obtain ⟨y, hy⟩ : ∃ y, y = l[q] := ⟨_, rfl⟩
      have hyd := hide (show l.getD q 0 = y by rw [hy, List.getD_eq_getElem?_getD, List.getElem?_eq_getElem hql]; rfl)
      rw [← hy] at hc1
      have d1 : w'.cell? ⟨b1, o1 + q, none⟩ = some (.int .i64 y) := by rw [hb.out.cell (p := ⟨b1, o1 + q, none⟩) (Nat.lt_of_lt_of_le hb1 hB)]; exact hc1
      have s1n : decide (q < i) = false := by simp; omega
      have hfo := hf.out
      clear hb1 hc1 hy hf hz
      by_cases e2 : p ≤ y
      · have hn2 := hide (show R = (out ++ (part l p f' i q).1, ((part l p f' i q).2 : Int)) by rw [hR.out, part_back l p f' i q hlt hx.out (by rw [hyd.out]; exact e2)])
        have t4 : decide (y ≥ p) = true := by simp; omega
        have t5 : decide (p ≤ y) = true := by simp; omega
        have hol2 := hide (show out.length + q ≤ 2097152 by have := hol.out; omega)
        go_wp2_with fail
        go_step3
        refine hE.out.one _ _ ⟨f', i, q, _, _, out, _, _, _, _, _, _, _, _, _, _, _, _, _, _, _, _, _, _, _, _, _, _, _, _, _, _, _, _, _, _, _, _, _, _, _, _, _, _, _, _, _, _, _, _, _, _, _, _, _, _, _, _, _, _, _, _, _, _, _, rfl, rfl, by go_num, by omega, by omega, by omega, by show _ ≤ _; omega, hn2, O.out, hol2.out, hb.out, hx.out, hil.out⟩ ?_
        have := hm2.out
        simp [muR, intOf]; omega
      · have hn2 := hide (show R = ((out ++ [((i : Int), (q : Int))]) ++ (part l p f' (i + 1) q).1, ((part l p f' (i + 1) q).2 : Int)) by rw [hR.out, part_swap l p f' i q hlt hx.out (by rw [hyd.out]; exact e2)]; simp)
        have t4 : decide (y ≥ p) = false := by simp; omega
        have t5 : decide (p ≤ y) = false := by simp; omega
        have hol2 := hide (show (out ++ [((i : Int), (q : Int))]).length + q ≤ 2097152 by have := hol.out; simp; omega)
        have hbs := hide hb.out.size
        obtain ⟨uv, ucap, huf⟩ := O.out.form
        subst huf
        go_wp2_with (first | (at_builtin; refine os_append _ rfl _ _ rfl w.heap.size _ _ O.out rfl _ _ _ _ rfl rfl (by have := hol.out; omega) hbs.out ?_; intro v5 w5 hown5 hb5 hq5) | fail)
        have O := hide hown5
        have hb := hide (hb.out.trans hb5)
        clear hown5 hb5 hq5
        go_step3
        refine hE.out.zero _ _ ⟨f', i + 1, q, _, _, out ++ [((i : Int), (q : Int))], _, _, _, _, _, _, _, _, _, _, _, _, _, _, _, _, _, _, _, _, _, _, _, _, _, _, _, _, _, _, _, _, _, _, _, _, _, _, _, _, _, _, _, _, _, _, _, _, _, _, _, _, _, _, _, _, _, _, _, rfl, by go_num, by go_num, by omega, by omega, by omega, by show _ ≤ _; omega, hn2, O.out, hol2.out, hb.out⟩ ?_
        have := hm2.out
        simp [muL, intOf]; omega
    · have hst := part_stop l p f i j hlt
      have hn2 := hide (show R = (out, (i : Int)) by rw [hR.out, hst]; simp)
      have s1' : decide (z < (i : Int)) = true := by simp; omega
      clear hst
      go_wp2_with fail
      refine hE.out.ret _ _ ?_
      go_ret2
      exact ⟨_, by rw [hn2.out]; rfl, by rw [hn2.out]; exact O.out, hb.out⟩
  · intro m E hE HP a' w' hJ hm
    obtain ⟨f, i, j, x, z, out, sv, u4, u5, u6, u7, u8, u9, u13, u14, u15, u16, u17, u18, u19, u20, u21, u22, u23, u24, u25, u26, u27, u28, u29, u30, u31, u32, u33, u34, u35, u36, u37, u38, u39, u40, u41, u42, u43, u44, u45, u46, u47, u48, u49, u50, u51, u52, u53, u54, u55, u56, u57, u58, u59, u60, u61, u62, u63, u64, rfl, rfl, hz, hje, hie, hij, hf, hR, O, hol, hb⟩ := hJ
    have hm2 := hide (show 2 * (z + 2 - (i : Int)).toNat + 1 ≤ m by simpa [muL, intOf] using hm)
    clear hm
    by_cases hlt : i < j
    · obtain ⟨q, rfl⟩ : ∃ q, j = q + 1 := ⟨j - 1, by omega⟩
      obtain rfl : z = (q : Int) := by omega
      have hil : i < l.length := by omega
      obtain ⟨b1, o1, rfl, hb1, hc1⟩ := HC.out i hil
      obtain ⟨y, hy⟩ : ∃ y, y = l[i] := ⟨_, rfl⟩
      have hyd := hide (show l.getD i 0 = y by rw [hy, List.getD_eq_getElem?_getD, List.getElem?_eq_getElem hil]; rfl)
      rw [← hy] at hc1
      have d1 : w'.cell? ⟨b1, o1 + i, none⟩ = some (.int .i64 y) := by rw [hb.out.cell (p := ⟨b1, o1 + i, none⟩) (Nat.lt_of_lt_of_le hb1 hB)]; exact hc1
      have s1n : decide (q < i) = false := by simp; omega
      clear hb1 hc1 hy hz
      by_cases e2 : y < p
      · obtain ⟨f', rfl⟩ : ∃ f', f = f' + 1 := ⟨f - 1, by have := hf.out; omega⟩
        have hn2 := hide (show R = (out ++ (part l p f' (i + 1) (q + 1)).1, ((part l p f' (i + 1) (q + 1)).2 : Int)) by rw [hR.out, part_stay l p f' i (q + 1) hlt (by rw [hyd.out]; exact e2)])
        have hfo := hf.out
        have t4 : decide (y < p) = true := by simp; omega
        clear hf
        go_wp2_with fail
        go_step3
        refine hE.out.zero _ _ ⟨f', i + 1, q + 1, _, _, out, _, _, _, _, _, _, _, _, _, _, _, _, _, _, _, _, _, _, _, _, _, _, _, _, _, _, _, _, _, _, _, _, _, _, _, _, _, _, _, _, _, _, _, _, _, _, _, _, _, _, _, _, _, _, _, _, _, _, _, rfl, by go_num, by go_num, by omega, by omega, by omega, by show _ ≤ _; omega, hn2, O.out, hol.out, hb.out⟩ ?_
        have := hm2.out
        simp [muL, intOf]; omega
      · have t4 : decide (y < p) = false := by simp; omega
        have hx := hide (show p ≤ l.getD i 0 by rw [hyd.out]; omega)
        go_wp2_with fail
        go_step3
        rename_i hK
        refine hK _ _ (HP.out _ _ ⟨f, i, q + 1, _, _, out, _, _, _, _, _, _, _, _, _, _, _, _, _, _, _, _, _, _, _, _, _, _, _, _, _, _, _, _, _, _, _, _, _, _, _, _, _, _, _, _, _, _, _, _, _, _, _, _, _, _, _, _, _, _, _, _, _, _, _, rfl, rfl, by go_num, hje, hie, hij, hf.out, hR.out, O.out, hol.out, hb.out, hx.out, hil⟩ ?_)
        have := hm2.out
        simp [muR, intOf]; omega
    · have hst := part_stop l p f i j hlt
      have hn2 := hide (show R = (out, (i : Int)) by rw [hR.out, hst]; simp)
      have s1' : decide (z < (i : Int)) = true := by simp; omega
      clear hst
      go_wp2_with fail
      refine hE.out.ret _ _ ?_
      go_ret2
      exact ⟨_, by rw [hn2.out]; rfl, by rw [hn2.out]; exact O.out, hb.out⟩
  · intro E HP HQ
    have HP := hide HP
    go_wp2_with fail
    go_step3
    rename_i hK
    refine hK _ _ (HP.out _ _ ⟨e - n, n, e, _, _, [], _, _, _, _, _, _, _, _, _, _, _, _, _, _, _, _, _, _, _, _, _, _, _, _, _, _, _, _, _, _, _, _, _, _, _, _, _, _, _, _, _, _, _, _, _, _, _, _, _, _, _, _, _, _, _, _, _, _, _, rfl, by go_num, by go_num, by omega, by omega, by omega, Nat.le_refl _, by simpa [Hid] using HR.out, OwS.nil _ _, by simp [Hid]; omega, Below.refl _ _⟩)

end Go.Proofs.Ytepkkeclkdlheaa

/- What Partition of the program returns, whole (promise 3). -/
namespace Go.Proofs.Ytepkkeclkdlheaa
open Go.RowKit Go.ChangeShapes
set_option linter.unusedSimpArgs false
set_option linter.unusedVariables false
set_option maxRecDepth 100000

set_option maxHeartbeats 4000000 in
theorem iPart_no (l : List Int) (a b p : Int) (ad : Option Addr) (cap : Nat) (w : World) (hl : l.length ≤ 1048576) (h1 : ¬ (0 ≤ a ∧ a ≤ b ∧ b ≤ (l.length : Int))) :
    Calls Try.prog 174 #[.slice ad l.length cap, .int .i64 a, .int .i64 b, .int .i64 p] w (RetSI w ([], 0)) := by
  by_cases q1 : a < 0
  · have t1 : decide (a < 0) = true := by simp; omega
    clear h1
    go_enter Try.func174, Try.ntmps174
    go_wp2_with fail
    go_step3
    go_wp2_with fail
    rw [Exit.noGoto_ret]
    go_ret2
    exact ⟨_, rfl, OwS.nil _ _, Below.refl _ _⟩
  · have t1 : decide (a < 0) = false := by simp; omega
    by_cases q2 : b < a
    · have t2 : decide (b < a) = true := by simp; omega
      have t2' : decide (a > b) = true := by simp; omega
      clear h1
      go_enter Try.func174, Try.ntmps174
      go_wp2_with fail
      go_step3
      go_wp2_with fail
      rw [Exit.noGoto_ret]
      go_ret2
      exact ⟨_, rfl, OwS.nil _ _, Below.refl _ _⟩
    · have t2 : decide (b < a) = false := by simp; omega
      have t2' : decide (a > b) = false := by simp; omega
      have t3 : decide ((l.length : Int) < b) = true := by simp; omega
      have t3' : decide (b > (l.length : Int)) = true := by simp; omega
      clear h1
      go_enter Try.func174, Try.ntmps174
      go_wp2_with fail
      go_step3
      go_wp2_with fail
      rw [Exit.noGoto_ret]
      go_ret2
      exact ⟨_, rfl, OwS.nil _ _, Below.refl _ _⟩

theorem iPart_any (v : Value) (l : List Int) (a b p : Int) (w : World) (B : Nat) (hv : Ints w B v l) (hB : B ≤ w.heap.size) (hl : l.length ≤ 1048576) :
    Calls Try.prog 174 #[v, .int .i64 a, .int .i64 b, .int .i64 p] w (RetSI w (partP l a b p)) := by
  obtain ⟨ad, cap, rfl, hlen, -, hcell⟩ := hv
  by_cases h1 : 0 ≤ a ∧ a ≤ b ∧ b ≤ (l.length : Int)
  · obtain ⟨g1, g2, g3⟩ := h1
    obtain ⟨n, rfl⟩ := Int.eq_ofNat_of_zero_le g1
    obtain ⟨e, rfl⟩ := Int.eq_ofNat_of_zero_le (show 0 ≤ b by omega)
    refine iPart_in l n e p ad cap w B hcell hB hl (by omega) (by omega) _ ?_
    show _ = _
    unfold partP
    rw [if_pos ⟨g1, g2, g3⟩]
    simp only [Int.toNat_natCast]
    rw [show ((e : Int) - (n : Int)).toNat = e - n by omega]
  · have : partP l a b p = ([], 0) := by unfold partP; rw [if_neg h1]
    rw [this]
    exact iPart_no l a b p ad cap w hl h1

end Go.Proofs.Ytepkkeclkdlheaa
