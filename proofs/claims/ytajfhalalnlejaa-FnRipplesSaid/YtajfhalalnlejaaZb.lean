/- Several texts in one: FpD, DrE, DrF, DrH, DrR, RpN, RpW, Prs, Rf. -/
import Derived.Test.YtajfhalalnlejaaZa
import Derived.Test.YtajfhalalnlejaaAdS
import Derived.Deep.RegionLaw
import Derived.Test.YtajfhalalnlejaaRpM
import Derived.Test.YtajfhalalnlejaaRpB
import Derived.BigQuiet
import Derived.Test.YtajfhalalnlejaaAny
import Derived.Test.YtajfhalalnlejaaCkO
/- FnPartitions: its drawn arguments, and its words in numbers (promise 3). -/
namespace Go.Proofs.Ytajfhalalnlejaa
open Go.RowKit Go.ChangeShapes
set_option linter.unusedSimpArgs false
set_option linter.unusedVariables false
set_option maxRecDepth 100000

theorem bigN (a : Option Addr) (len cap : Nat) (w : World) (h : len ≤ 1048576) : Calls Try.prog 26 #[.slice a len cap] w fun e w' => e = .returned (.bool false) ∧ w = w' := by
  have h2 : decide ((1048576 : Int) < (len : Int)) = false := by simp; omega
  go_enter Try.func26, Try.ntmps26
  go_wp2
  go_ret
  exact ⟨rfl, rfl⟩

theorem bigY (a : Option Addr) (len cap : Nat) (w : World) (h : 1048576 < len) : Calls Try.prog 26 #[.slice a len cap] w fun e w' => e = .returned (.bool true) ∧ w = w' := by
  have h2 : decide ((1048576 : Int) < (len : Int)) = true := by simp; omega
  go_enter Try.func26, Try.ntmps26
  go_wp2
  go_ret
  exact ⟨rfl, rfl⟩

/-- What is only read, below the world's own size. -/
def IU (w : World) (v : Value) (l : List Int) : Prop := Ints w w.heap.size v l
def PU (w : World) (v : Value) (l : List Pv) : Prop := Pvs w w.heap.size v l
def CU (w : World) (v : Value) (l r : List Int) (ps : List Pv) : Prop := Ck w w.heap.size v l r ps

theorem Ints.mono' {w : World} {B C : Nat} {v : Value} {l : List Int} (h : Ints w B v l) (hC : B ≤ C) : Ints w C v l := by
  obtain ⟨a, cap, e, h1, h2, h3⟩ := h
  refine ⟨a, cap, e, h1, h2, fun j hj => ?_⟩
  obtain ⟨b, o, e1, e2, e3⟩ := h3 j hj
  exact ⟨b, o, e1, Nat.lt_of_lt_of_le e2 hC, e3⟩
theorem Pvs.mono' {w : World} {B C : Nat} {v : Value} {l : List Pv} (h : Pvs w B v l) (hC : B ≤ C) : Pvs w C v l := by
  obtain ⟨a, cap, e, h1, h2, h3⟩ := h
  refine ⟨a, cap, e, h1, h2, fun j hj => ?_⟩
  obtain ⟨b, o, e1, e2, e3, e4⟩ := h3 j hj
  exact ⟨b, o, e1, Nat.lt_of_lt_of_le e2 hC, e3, e4⟩

theorem IU.below {w w' : World} {v : Value} {l : List Int} (h : IU w v l) (hb : Below w.heap.size w w') : IU w' v l := (Ints.below h hb (Nat.le_refl _)).mono' hb.size
theorem PU.below {w w' : World} {v : Value} {l : List Pv} (h : PU w v l) (hb : Below w.heap.size w w') : PU w' v l := (Pvs.below h hb (Nat.le_refl _)).mono' hb.size
theorem CU.below {w w' : World} {v : Value} {l r : List Int} {ps : List Pv} (h : CU w v l r ps) (hb : Below w.heap.size w w') : CU w' v l r ps := Ck.up h hb

/-- The cells of a column's values and rows, and of pivots, that are only read. -/
theorem CU.left {w : World} {a : Option Addr} {n c : Nat} {y z : Value} {l r : List Int} {ps : List Pv} (h : CU w (.agg #[.slice a n c, y, z]) l r ps) (j : Nat) (hj : j < l.length) :
    ∃ b o, a = some ⟨b, o, none⟩ ∧ w.cell? ⟨b, o + j, none⟩ = some (.int .i64 (l.getD j 0)) := by
  obtain ⟨x', y', z', e, ⟨a', c', e1, -, -, h1⟩, -⟩ := h
  simp only [Value.agg.injEq, Array.mk.injEq, List.cons.injEq, and_true] at e
  obtain ⟨rfl, rfl, rfl⟩ := e
  injection e1 with e1 e2 e3
  subst e1
  obtain ⟨b, o, rfl, -, hc⟩ := h1 j hj
  exact ⟨b, o, rfl, by rw [hc]; simp [List.getD_eq_getElem?_getD, List.getElem?_eq_getElem hj]⟩
theorem CU.right {w : World} {a : Option Addr} {n c : Nat} {x z : Value} {l r : List Int} {ps : List Pv} (h : CU w (.agg #[x, .slice a n c, z]) l r ps) (j : Nat) (hj : j < r.length) :
    ∃ b o, a = some ⟨b, o, none⟩ ∧ w.cell? ⟨b, o + j, none⟩ = some (.int .i64 (r.getD j 0)) := by
  obtain ⟨x', y', z', e, -, ⟨a', c', e1, -, -, h1⟩, -⟩ := h
  simp only [Value.agg.injEq, Array.mk.injEq, List.cons.injEq, and_true] at e
  obtain ⟨rfl, rfl, rfl⟩ := e
  injection e1 with e1 e2 e3
  subst e1
  obtain ⟨b, o, rfl, -, hc⟩ := h1 j hj
  exact ⟨b, o, rfl, by rw [hc]; simp [List.getD_eq_getElem?_getD, List.getElem?_eq_getElem hj]⟩
theorem PU.cells {w : World} {a : Option Addr} {n c : Nat} {ps : List Pv} (h : PU w (.slice a n c) ps) (j : Nat) (hj : j < ps.length) :
    ∃ b o, a = some ⟨b, o, none⟩ ∧ w.cell? ⟨b, o + j * 2, none⟩ = some (.int .i64 ps[j].1) ∧ w.cell? ⟨b, o + j * 2 + 1, none⟩ = some (.int .i64 ps[j].2) := by
  obtain ⟨a', c', e1, -, -, h1⟩ := h
  injection e1 with e1 e2 e3
  subst e1
  obtain ⟨b, o, rfl, -, hc, hc2⟩ := h1 j hj
  exact ⟨b, o, rfl, hc, hc2⟩

/-- Drawn values, places and a pivot. -/
def DrPt (w : World) (e : Ending) (w' : World) : Prop := ∃ gl capl l, ∃ a b p : Int, l.length ≤ 12 ∧ (∀ x ∈ l, -1000 ≤ x ∧ x ≤ 1000) ∧ (-20 ≤ a ∧ a ≤ 20) ∧ (-20 ≤ b ∧ b ≤ 20) ∧ (-20 ≤ p ∧ p ≤ 20) ∧
  e = .returned (.tuple #[.slice (some ⟨gl, 0, none⟩) l.length capl, .int .i64 a, .int .i64 b, .int .i64 p]) ∧ Is w' w.heap.size 3 (.slice (some ⟨gl, 0, none⟩) l.length capl) l ∧ Below w.heap.size w w'

end Go.Proofs.Ytajfhalalnlejaa

/- Columns that are only read, their blocks from lo on (RcL): what a drawn column is handed on as (promises 3 and 4). -/
namespace Go.Proofs.Ytajfhalalnlejaa
open Go.RowKit Go.ChangeShapes
set_option linter.unusedSimpArgs false
set_option linter.unusedVariables false
set_option maxRecDepth 100000

/-- A column reads as l, r, ps in every world in which the blocks from lo on are as they are here. -/
def RcL (lo : Nat) (w : World) (v : Value) (l r : List Int) (ps : List Pv) : Prop :=
  ∀ w' : World, (∀ b, lo ≤ b → b < w.heap.size → w'.heap[b]? = w.heap[b]?) → w.heap.size ≤ w'.heap.size → CU w' v l r ps

theorem RcL.cu {lo : Nat} {w : World} {v : Value} {l r : List Int} {ps : List Pv} (h : RcL lo w v l r ps) : CU w v l r ps := h w (fun _ _ _ => rfl) (Nat.le_refl _)
theorem RcL.up {lo : Nat} {w w' : World} {v : Value} {l r : List Int} {ps : List Pv} (h : RcL lo w v l r ps) (h1 : ∀ b, lo ≤ b → b < w.heap.size → w'.heap[b]? = w.heap[b]?) (h2 : w.heap.size ≤ w'.heap.size) : RcL lo w' v l r ps :=
  fun w'' k1 k2 => h w'' (fun b hb hlt => (k1 b hb (Nat.lt_of_lt_of_le hlt h2)).trans (h1 b hb hlt)) (Nat.le_trans h2 k2)
theorem RcL.below {lo : Nat} {w w' : World} {v : Value} {l r : List Int} {ps : List Pv} (h : RcL lo w v l r ps) (hb : Below w.heap.size w w') : RcL lo w' v l r ps := h.up (fun b _ hlt => hb.block b hlt) hb.size
theorem RcL.only {lo g : Nat} {w w' : World} {v : Value} {l r : List Int} {ps : List Pv} (h : RcL lo w v l r ps) (ho : Only [g] w w') (hg : g < lo) : RcL lo w' v l r ps :=
  h.up (fun b hb hlt => ho.block b hlt (by simp; omega)) ho.below.size
theorem RcL.seg {lo a b : Nat} {w w' : World} {v : Value} {l r : List Int} {ps : List Pv} (h : RcL lo w v l r ps) (s : Seg a b w w') (hb : b ≤ lo) : RcL lo w' v l r ps :=
  h.up (fun x hx hlt => s.over x (by omega) hlt) s.below.size

theorem Ow.reads {w : World} {v : Value} {l : List Int} {lo hi : Nat} (h : Ow w v l lo hi) (hw : ∀ x ∈ l, I64 x) {w' : World} (hs : ∀ b, lo ≤ b → b < w.heap.size → w'.heap[b]? = w.heap[b]?) : Ints w' w'.heap.size v l := by
  obtain ⟨⟨F, h, hF⟩, hle, ht⟩ := h
  obtain ⟨_, _, _, hl⟩ := h.form
  exact (h.eq fun b hb => hs b (hF b hb).1 (by have := (hF b hb).2; omega)).1.ints (Nat.le_refl _) hl hw

theorem Op.reads {w : World} {base : Nat} {v : Value} {ps : List Pv} (h : Op w base v ps) (hl : ps.length ≤ 9223372036854775807) (hw : ∀ p ∈ ps, I64 p.1 ∧ I64 p.2) {w' : World} (hs : ∀ b, base ≤ b → b < w.heap.size → w'.heap[b]? = w.heap[b]?) : Pvs w' w'.heap.size v ps := by
  have h2 : Op w' base v ps := owns_eq h fun g hg => hs g (World.ownsRow.lt h g hg).1 (World.ownsRow.lt h g hg).2
  exact h2.pvs (Nat.le_refl _) hl hw

theorem OC.reads {w : World} {x y z : Value} {l r : List Int} {ps : List Pv} {lo hi n1 h1 n2 h2 n3 h3 : Nat} (h : OC w x y z l r ps lo hi n1 h1 n2 h2 n3 h3) (hl : ∀ x ∈ l, I64 x) (hr : ∀ x ∈ r, I64 x) (hp : ps.length ≤ 9223372036854775807) (hw : ∀ p ∈ ps, I64 p.1 ∧ I64 p.2) : RcL lo w (.agg #[x, y, z]) l r ps := by
  intro w' hs hsz
  have q := h.low
  exact ⟨x, y, z, rfl, h.x.reads hl (fun b hb hlt => hs b (by omega) hlt), h.y.reads hr (fun b hb hlt => hs b (by omega) hlt), h.z.own.reads hp hw (fun b hb hlt => hs b (by omega) hlt), h.x.cap, h.y.cap, h.z.cap⟩

theorem RcL.at {lo : Nat} {w : World} {g o n c : Nat} {y z : Value} {l r : List Int} {ps : List Pv} (h : RcL lo w (.agg #[.slice (some ⟨g, o, none⟩) n c, y, z]) l r ps) (j : Nat) (hj : j < l.length) : w.cell? ⟨g, o + j, none⟩ = some (.int .i64 l[j]) := by
  obtain ⟨b, o', e, hc⟩ := h.cu.left j hj
  obtain ⟨rfl, rfl⟩ : g = b ∧ o = o' := by simpa using e
  rw [hc]
  simp [List.getD_eq_getElem?_getD, List.getElem?_eq_getElem hj]

set_option maxHeartbeats 4000000 in
theorem value_r (B : Nat) (a : Option Addr) (len cap g : Nat) (w : World) (h : Rd B a len cap w g) (a1 a2 a3 : Option Addr) (c1 c2 c3 : Nat) (l r : List Int) (ps : List Pv) (lo : Nat)
    (o : RcL lo w (.agg #[.slice a1 l.length c1, .slice a2 r.length c2, .slice a3 ps.length c3]) l r ps) (hg : g < lo) (hl : l.length ≤ 1000) (hv : ∀ x ∈ l, -1000 ≤ x ∧ x ≤ 1000) :
    Calls Try.prog 110 #[.pointer (some ⟨g, 0, none⟩), .agg #[.slice a1 l.length c1, .slice a2 r.length c2, .slice a3 ps.length c3]] w (RetD B a len cap g w VP) := by
  have hlt := h.lt
  have R := hide (h.alloc (.cells #[.slice a1 l.length c1, .slice a2 r.length c2, .slice a3 ps.length c3] 27))
  have X := hide (Kd.one [g] w #[.slice a1 l.length c1, .slice a2 r.length c2, .slice a3 ps.length c3] 27)
  have O := hide (o.below (below1 w (.cells #[.slice a1 l.length c1, .slice a2 r.length c2, .slice a3 ps.length c3] 27)))
  have HV := hide hv
  clear hv o
  obtain ⟨w1, hw1⟩ : ∃ w1, w1 = w.alloc (.cells #[.slice a1 l.length c1, .slice a2 r.length c2, .slice a3 ps.length c3] 27) := ⟨_, rfl⟩
  have hz := hide (show w1.heap.size = w.heap.size + 1 by rw [hw1]; simp)
  rw [← hw1] at R X O
  clear h
  have PK := fun (W : World) (hr : Rd B a len cap W g) => pickI_d B a len cap g _ (hr.alloc (.cells ([(0 : Int), 3, -2, -1000, 1000, 50].map (Value.int .i64)).toArray 3)) [0, 3, -2, -1000, 1000, 50] W.heap.size 6 6 rfl (by omega) (by omega) (by have := hr.lt; omega) (by simp) (litsI W [0, 3, -2, -1000, 1000, 50] 3)
  have PK := hide PK
  have P1 := hide (show Calls Try.prog 109 #[.pointer (some ⟨g, 0, none⟩), .slice (some ⟨w.heap.size + 1, 0, none⟩) 6 6] (w1.alloc (.cells #[.int .i64 0, .int .i64 3, .int .i64 (-2), .int .i64 (-1000), .int .i64 1000, .int .i64 50] 3)) (RetD B a len cap g (w1.alloc (.cells #[.int .i64 0, .int .i64 3, .int .i64 (-2), .int .i64 (-1000), .int .i64 1000, .int .i64 50] 3)) (· ∈ [(0 : Int), 3, -2, -1000, 1000, 50])) by
    have := PK.out w1 R.out
    rw [hz.out] at this
    exact this)
  have c00 : w1.cell? ⟨w.heap.size, 0, none⟩ = some (.slice a1 l.length c1) := X.out.cell 0 0 rfl rfl
  by_cases h0 : l.length = 0
  · have t0 : decide (0 < l.length) = false := decide_eq_false (by omega)
    clear h0
    go_enter Try.func110, Try.ntmps110
    rw [hw1] at c00
    go_wp2_with fail
    rw [← hw1]
    clear hw1 c00
    refine P1.out.mono ?_
    rintro e wa ⟨x, hx, rfl, hr, ho⟩
    have hx := hide (pick6 hx)
    have R := hide hr
    have X := hide (X.out.only.trans ((Only.of_below (below1 _ _)).trans ho))
    clear hr ho
    go_wp2_with fail
    go_ret
    exact ⟨x, hx.out, rfl, R.out, X.out⟩
  · have t0 : decide (0 < l.length) = true := decide_eq_true (by omega)
    have HZ := hide h0
    clear h0
    go_enter Try.func110, Try.ntmps110
    rw [hw1] at c00
    go_wp2_with fail
    rw [← hw1]
    clear hw1 c00
    go_at_call 124
    refine (once_d B a len cap g _ R.out 4 (by omega) (by omega)).mono ?_
    rintro e w2 ⟨b, rfl, hr, ho⟩
    have R := hide hr
    have X := hide (X.out.drawn ho (by simp; exact hlt))
    have O := hide (O.out.only ho hg)
    clear hr ho
    cases b
    · have c00 : w2.cell? ⟨w.heap.size, 0, none⟩ = some (.slice a1 l.length c1) := X.out.cell 0 0 rfl rfl
      have hcu := O.out.cu.left 0 (by have := HZ.out; omega)
      obtain ⟨gv, ov, hgv, -⟩ := hcu
      subst hgv
      have HL := hide (show (1 : Int) ≤ (l.length : Int) by have := HZ.out; omega)
      have hGm := hide (show ∀ b ∈ [g], b < w.heap.size from by intro b hb; rw [List.mem_singleton.1 hb]; exact hlt)
      have HL2 := hide (show (l.length : Int) ≤ 4294967296 by omega)
      go_wp2_with fail
      have R := hide (R.out.step (Below.refl _ _).drew rfl)
      have X := hide X.out.drew
      have O := hide (O.out.below (Below.refl _ _).drew)
      go_region_with (first
        | (go_at_call 81; (with_reducible refine (below_d B a len cap g _ R.out (l.length : Int) HL.out HL2.out).mono ?_); rintro e wq ⟨k, ⟨k0, k1⟩, rfl, hr, ho⟩; obtain ⟨k, rfl⟩ := Int.eq_ofNat_of_zero_le k0; have hkl : k < l.length := (by omega); replace R := hide hr; replace X := hide (X.out.drawn ho hGm.out); replace O := hide (O.out.only ho hg); clear c00; have c00 : wq.cell? ⟨w.heap.size, 0, none⟩ = some (.slice (some ⟨gv, ov, none⟩) l.length c1) := X.out.cell 0 0 rfl rfl; obtain ⟨y, hy⟩ : ∃ y, y = l[k] := ⟨_, rfl⟩; have ec := O.out.at k hkl; rw [← hy] at ec; have HY := HV.out _ (List.getElem_mem hkl); rw [← hy] at HY; replace HY := hide HY; have HYY := hide hy; clear hy hr ho k0)
        | (go_at_call 81; (with_reducible refine (below_d B a len cap g _ R.out 3 (by omega) (by omega)).mono ?_); rintro e wq ⟨j, ⟨j0, j1⟩, rfl, hr, ho⟩; replace R := hide hr; replace X := hide (X.out.drawn ho hGm.out); replace O := hide (O.out.only ho hg); clear c00; have c00 : wq.cell? ⟨w.heap.size, 0, none⟩ = some (.slice (some ⟨gv, ov, none⟩) l.length c1) := X.out.cell 0 0 rfl rfl; clear ec; have ec := O.out.at k hkl; rw [← HYY.out] at ec; have hyb := HY.out))
      all_goals go_wp2_with fail
      all_goals
        have w1' : IntKind.i64.wrap (y + j) = y + j := by rw [IntWalk.i64_left, IntWalk.wrap64_in _ (by omega)]
        have w2' : IntKind.i64.wrap (y + j - 1) = y + j - 1 := by rw [IntWalk.i64_left, IntWalk.wrap64_in _ (by omega)]
        have w3' : RowKit.wrap64 (y + j) = y + j := IntWalk.wrap64_in _ (by omega)
        have w4' : RowKit.wrap64 (y + j - 1) = y + j - 1 := IntWalk.wrap64_in _ (by omega)
        exact bodyPost_ret (v := .int .i64 (y + j - 1)) (by simp [results, Try.results110, go_sem, Act.put, w1', w2', w3', w4']) rfl ⟨y + j - 1, by unfold VP; omega, rfl, R.out, X.out.only⟩
    · go_wp2_with fail
      refine (PK.out _ R.out).mono ?_
      rintro e wa ⟨x, hx, rfl, hr, ho⟩
      have hx := hide (pick6 hx)
      have R := hide hr
      have X := hide (X.out.only.trans ((Only.of_below (below1 _ _)).trans ho))
      clear hr ho
      go_wp2_with fail
      go_ret
      exact ⟨x, hx.out, rfl, R.out, X.out⟩

end Go.Proofs.Ytajfhalalnlejaa

/- Drawn columns, some of them spoilt: l4Any (promises 3 and 4). Written by gen_drf.py. -/
namespace Go.Proofs.Ytajfhalalnlejaa
open Go.RowKit Go.ChangeShapes
set_option linter.unusedSimpArgs false
set_option linter.unusedVariables false
set_option maxRecDepth 100000

theorem Kd.ne' {G : List Nat} {w W : World} {L : List (Nat × Array Value × TypeId)} (h : Kd G w W L) (i j : Nat) {g g' : Nat} {c c' : Array Value} {t t' : TypeId} (ho : L[i]? = some (g, c, t)) (ho' : L[j]? = some (g', c', t')) (hij : i < j) : g ≠ g' := by
  intro e
  obtain ⟨hi, e1⟩ := List.getElem?_eq_some_iff.1 ho
  obtain ⟨hj, e2⟩ := List.getElem?_eq_some_iff.1 ho'
  have hl : (L.map (·.1)).length = L.length := List.length_map _
  have h2 := List.pairwise_iff_getElem.1 h.nodup i j (by omega) (by omega) hij
  simp [e1, e2, e] at h2

/-- A small column that may be spoilt. -/
structure CPA (l r : List Int) (ps : List Pv) : Prop where
  nl : l.length ≤ 64
  nr : r.length ≤ 66
  np : ps.length ≤ 10
  vl : ∀ x ∈ l, -1000 ≤ x ∧ x ≤ 1000
  vr : ∀ x ∈ r, I64 x
  vp : ∀ p ∈ ps, I64 p.1 ∧ I64 p.2

theorem CPA.i64 {l r : List Int} {ps : List Pv} (h : CPA l r ps) : ∀ x ∈ l, I64 x := fun x hx => ⟨by have := h.vl x hx; omega, by have := h.vl x hx; omega⟩

theorem CP.a {l r : List Int} {ps : List Pv} (h : CP l r ps 9) : CPA l r ps := ⟨h.nl, by have := h.nr; omega, by have := h.np; omega, h.vl, h.vr, h.vp⟩

/-- Integers of the call's own, by the stretch, as a row from its first block on. -/
theorem Ow.is {w : World} {v : Value} {l : List Int} {lo hi : Nat} (h : Ow w v l lo hi) : Is w lo 3 v l := by
  obtain ⟨⟨F, ⟨o', rfl⟩, hF⟩, hle, ht⟩ := h
  refine ⟨o'.1, ?_⟩
  rcases o'.2 with h2 | ⟨g, cap, cur, hv, hg, r⟩
  · exact .inl h2
  · exact .inr ⟨g, cap, cur, hv, (hF g (by subst hv; simp [Value.ownBlock])).1, r⟩

theorem Ow.block {w : World} {v : Value} {l : List Int} {lo hi : Nat} (h : Ow w v l lo hi) : ∀ k, v.ownBlock = some k → lo ≤ k ∧ k < hi := by
  obtain ⟨⟨F, ⟨o', rfl⟩, hF⟩, hle, ht⟩ := h
  exact fun k hk => hF k (by rw [hk]; simp)

/-- append(s, i) in a plain region, with what is said of the other blocks. -/
theorem appI_list (W : World) {ops : Array Oper} {rest : List Oper} {o : Oper} {a : Act} {Q : Exit → Act → World → Prop} (hgd : o.guard = none) (s x : Operand)
    (ho : o.op = .call { callee := .builtin .append, args := #[s, x], argTypes := #[22, 22] })
    (base : Nat) (v : Value) (l : List Int) (hown : Is W base 3 v l) (hs : a.eval s = v) (i : Int) (c g : Nat)
    (hx : a.eval x = .slice (some ⟨g, 0, none⟩) 1 c) (hg : W.heap[g]? = some (.cells #[.int .i64 i] 3 (0, 0))) (hlen : l.length < 1099511627776) (hbase : base ≤ W.heap.size)
    (h : ∀ v' w', Is w' base 3 v' (l ++ [i]) → Below base W w' → (∀ k, k < W.heap.size → some k ≠ v.ownBlock → w'.heap[k]? = W.heap[k]?) → wpList Try.prog ops Q rest (a.put o.dst v') w') :
    wpList Try.prog ops Q (o :: rest) a W := by
  refine wpList_plain hgd fun K hK => ?_
  obtain ⟨i0, hi0, hi1, hi2, hi3⟩ := info_parts infoI
  obtain ⟨v', w', hr, hown', hgrow, -, -⟩ := run_append_own_at (P := Try.prog) (w := W) base 22 o.type 3 i0 _ 1 8 Try.underlying22 hi0 hi1 hi2 hi3 rfl (by decide) v l.length (intVs l) hown ⟨g, 0, none⟩ 1 c [.int .i64 i] rfl
    (by intro k u hk
        rw [addr_add, cell_of_row W g (0 + k) _ _ (0, 0) hg, Nat.zero_add]
        simpa using hk)
    (by intro u hu; simp at hu; subst hu; rfl) (by unfold maxLen; omega) (by omega) hbase
  unfold Oper.wp execOp
  simp only [ho, resolve, invoke, builtin, Sem.run_bind, Sem.run_pure, Result.andThen_ok, List.map_toArray, List.map_cons, List.map_nil, hs, hx, hr]
  refine hK _ _ (h v' w' ?_ ((Below.refl base W).grown hgrow hbase (fun k hk => (World.ownsRow.lt hown k hk).1)) (fun k hk hne => hgrow.block k hk hne))
  unfold Is
  rw [show intVs (l ++ [i]) = intVs l ++ [.int .i64 i] by simp [intVs], List.length_append]
  exact hown'

theorem Ow.reads2 {w : World} {v : Value} {l : List Int} {lo hi : Nat} (h : Ow w v l lo hi) (hw : ∀ x ∈ l, I64 x) {w' : World} (hs : ∀ b, lo ≤ b → b < hi → w'.heap[b]? = w.heap[b]?) : Ints w' w'.heap.size v l := by
  obtain ⟨⟨F, h, hF⟩, hle, ht⟩ := h
  obtain ⟨_, _, _, hl⟩ := h.form
  exact (h.eq fun b hb => hs b (hF b hb).1 (hF b hb).2).1.ints (Nat.le_refl _) hl hw

theorem Owp.reads2 {w : World} {v : Value} {ps : List Pv} {lo hi : Nat} (h : Owp w v ps lo hi) (hl : ps.length ≤ 9223372036854775807) (hw : ∀ p ∈ ps, I64 p.1 ∧ I64 p.2) {w' : World} (hs : ∀ b, lo ≤ b → b < hi → w'.heap[b]? = w.heap[b]?) : Pvs w' w'.heap.size v ps := by
  have h2 : Op w' lo v ps := owns_eq h.own fun g hg => hs g (World.ownsRow.lt h.own g hg).1 (h.lt g hg)
  exact h2.pvs (Nat.le_refl _) hl hw

theorem Kd.keep {G : List Nat} {w W W' : World} {L : List (Nat × Array Value × TypeId)} {n : Nat} (h : Kd G w W L) (hb : Below n W W') (hn : w.heap.size ≤ n) (hq : ∀ e ∈ L, W'.heap[e.1]? = W.heap[e.1]?) : Kd G w W' L :=
  ⟨⟨h.only.below.trans (hb.mono (Nat.zero_le _)), fun b h1 h2 => (hb.block b (by omega)).trans (h.only.block b h1 h2)⟩, fun e he => (hq e he).trans (h.hold e he), h.high, h.nodup⟩

/-- A row of integers does not lie in a block of another type. -/
theorem Is.apart {w : World} {base : Nat} {v : Value} {l : List Int} {m : Nat} {cs : Array Value} {t : TypeId} (h : Is w base 3 v l) (hm : w.heap[m]? = some (.cells cs t (0, 0))) (ht : t ≠ 3) : ∀ g, v.ownBlock = some g → g ≠ m := by
  intro g hg e
  subst e
  rcases h.2 with ⟨hv, _⟩ | ⟨g', cap, cur, hv, _, hh, _⟩
  · subst hv; simp [Value.ownBlock] at hg
  · subst hv
    simp only [Value.ownBlock, Option.some.injEq] at hg
    subst hg
    rw [hm] at hh
    simp only [Option.some.injEq, Obj.cells.injEq] at hh
    exact ht hh.2.1

/-- A column whose values, rows or pivots were replaced. -/
theorem RcL.with {lo : Nat} {w w' : World} {x y z x' y' z' : Value} {l r l' r' : List Int} {ps ps' : List Pv} (hw : w.heap.size ≤ w'.heap.size)
    (hx : ∀ W : World, (∀ b, lo ≤ b → b < w'.heap.size → W.heap[b]? = w'.heap[b]?) → w'.heap.size ≤ W.heap.size → Ints W W.heap.size x' l')
    (hy : ∀ W : World, (∀ b, lo ≤ b → b < w'.heap.size → W.heap[b]? = w'.heap[b]?) → w'.heap.size ≤ W.heap.size → Ints W W.heap.size y' r')
    (hz : ∀ W : World, (∀ b, lo ≤ b → b < w'.heap.size → W.heap[b]? = w'.heap[b]?) → w'.heap.size ≤ W.heap.size → Pvs W W.heap.size z' ps')
    (cx : Cap x') (cy : Cap y') (cz : Cap z') : RcL lo w' (.agg #[x', y', z']) l' r' ps' :=
  fun W h1 h2 => ⟨x', y', z', rfl, hx W h1 h2, hy W h1 h2, hz W h1 h2, cx, cy, cz⟩

theorem Ow.free {w : World} {g n c lo hi : Nat} {l : List Int} (h : Ow w (.slice (some ⟨g, 0, none⟩) n c) l lo hi) (j : Nat) (hj : j < l.length) : w.frozen? ⟨g, j, none⟩ = false := by
  obtain ⟨⟨F, ⟨o, rfl⟩, hF⟩, hle, htop⟩ := h
  exact (o.cell j hj).2.1

theorem Ow.putD {w : World} {g c lo hi : Nat} {l : List Int} (h : Ow w (.slice (some ⟨g, 0, none⟩) l.length c) l lo hi) (j : Nat) (x : Int) : Ow (w.setCell ⟨g, j, none⟩ (.int .i64 x)) (.slice (some ⟨g, 0, none⟩) l.length c) (l.set j x) lo hi := by
  obtain ⟨⟨F, ⟨o, rfl⟩, hF⟩, hle, htop⟩ := h
  exact ⟨⟨_, ⟨o.store rfl j x, rfl⟩, hF⟩, hle, by simpa using htop⟩

theorem Is.own {w : World} {v : Value} {l : List Int} {lo hi : Nat} (h : Ow w v l lo hi) : Is w lo 3 v l := h.is

theorem Owp.block {w : World} {v : Value} {ps : List Pv} {lo hi : Nat} (h : Owp w v ps lo hi) : ∀ k, v.ownBlock = some k → lo ≤ k ∧ k < hi := fun k hk => ⟨(World.ownsRow.lt h.own k hk).1, h.lt k hk⟩

theorem Kd.keep2 {G : List Nat} {w W W' : World} {g0 m n n3 h3 : Nat} {c0 c1 : Array Value} {t0 t1 : TypeId} {v : Value} (h : Kd G w W [(g0, c0, t0), (m, c1, t1)]) (hb : Below n W W') (hn : w.heap.size ≤ n)
    (hq : ∀ k, k < W.heap.size → some k ≠ v.ownBlock → W'.heap[k]? = W.heap[k]?) (ho : ∀ k, v.ownBlock = some k → n3 ≤ k ∧ k < h3) (h0 : g0 < n3) (h1 : h3 ≤ m) : Kd G w W' [(g0, c0, t0), (m, c1, t1)] := by
  refine h.keep hb hn fun e he => ?_
  simp only [List.mem_cons, List.not_mem_nil, or_false] at he
  rcases he with rfl | rfl
  · exact hq g0 (h.lt 0 rfl) (fun e => by have := ho g0 e.symm; omega)
  · exact hq m (h.lt 1 rfl) (fun e => by have := ho m e.symm; omega)

theorem Kd.poke2 {G : List Nat} {w W : World} {g0 m gv j : Nat} {c0 c1 : Array Value} {t0 t1 : TypeId} {u : Value} (h : Kd G w W [(g0, c0, t0), (m, c1, t1)]) (hn : w.heap.size ≤ gv) (h0 : g0 < gv) (h1 : gv < m) : Kd G w (W.setCell ⟨gv, j, none⟩ u) [(g0, c0, t0), (m, c1, t1)] := by
  have s := Seg.setCell W gv j u
  refine h.keep s.below hn fun e he => ?_
  simp only [List.mem_cons, List.not_mem_nil, or_false] at he
  rcases he with rfl | rfl
  · exact s.below.block g0 h0
  · exact s.over m (by omega) (h.lt 1 rfl)

theorem Rd.keep2 {B : Nat} {a : Option Addr} {len cap g n n3 h3 : Nat} {W W' : World} {v : Value} (h : Rd B a len cap W g) (hb : Below n W W') (hn : g < n)
    (hq : ∀ k, k < W.heap.size → some k ≠ v.ownBlock → W'.heap[k]? = W.heap[k]?) (ho : ∀ k, v.ownBlock = some k → n3 ≤ k ∧ k < h3) (h0 : g < n3) : Rd B a len cap W' g :=
  h.step (hb.mono (by have := h.high; omega)) (hq g h.lt (fun e => by have := ho g e.symm; omega))

theorem Rd.poke {B : Nat} {a : Option Addr} {len cap g m j : Nat} {w : World} {x : Value} (h : Rd B a len cap w g) (hy : g < m) : Rd B a len cap (w.setCell ⟨m, j, none⟩ x) g :=
  h.step ((Seg.setCell w m j x).below.mono (by have := h.high; omega)) ((Seg.setCell w m j x).below.block g hy)

theorem Op.apart {w : World} {base : Nat} {v : Value} {l : List Pv} {m : Nat} {cs : Array Value} {t : TypeId} (h : Op w base v l) (hm : w.heap[m]? = some (.cells cs t (0, 0))) (ht : t ≠ 60) : ∀ g, v.ownBlock = some g → g ≠ m := by
  intro g hg e
  subst e
  rcases h.2 with ⟨hv, _⟩ | ⟨g', cap, cur, hv, _, hh, _⟩
  · subst hv; simp [Value.ownBlock] at hg
  · subst hv
    simp only [Value.ownBlock, Option.some.injEq] at hg
    subst hg
    rw [hm] at hh
    simp only [Option.some.injEq, Obj.cells.injEq] at hh
    exact ht hh.2.1

theorem poke_heap {w : World} {m j g : Nat} {u : Value} (h : g ≠ m) (hg : g < w.heap.size) : (w.setCell ⟨m, j, none⟩ u).heap[g]? = w.heap[g]? := by
  have s := Seg.setCell w m j u
  by_cases hb : g < m
  · exact s.below.block g hb
  · exact s.over g (by omega) hg

theorem Is.poke {w : World} {base m j : Nat} {v u : Value} {l : List Int} (h : Is w base 3 v l) (hm : ∀ g, v.ownBlock = some g → g ≠ m) : Is (w.setCell ⟨m, j, none⟩ u) base 3 v l :=
  owns_eq h fun g hg => poke_heap (hm g hg) (World.ownsRow.lt h g hg).2

theorem Op.pokeOther {w : World} {base m j : Nat} {v u : Value} {l : List Pv} (h : Op w base v l) (hm : ∀ g, v.ownBlock = some g → g ≠ m) : Op (w.setCell ⟨m, j, none⟩ u) base v l :=
  owns_eq h fun g hg => poke_heap (hm g hg) (World.ownsRow.lt h g hg).2

/-- A drawn column whose values were replaced .. -/
theorem OC.partX {w w' : World} {x y z x' : Value} {l r l' : List Int} {ps : List Pv} {lo hi n1 h1 n2 h2 n3 h3 hx' : Nat} (h : OC w x y z l r ps lo hi n1 h1 n2 h2 n3 h3) (hx : Ow w' x' l' n1 hx') (wl : ∀ x ∈ l', I64 x)
    (hs : ∀ b, lo ≤ b → b < hi → ¬(n1 ≤ b ∧ b < h1) → w'.heap[b]? = w.heap[b]?) (hsz : w.heap.size ≤ w'.heap.size) (wr : ∀ x ∈ r, I64 x) (hl : ps.length ≤ 9223372036854775807) (wp : ∀ p ∈ ps, I64 p.1 ∧ I64 p.2) : RcL lo w' (.agg #[x', y, z]) l' r ps := by
  have q1 := h.low; have q2 := h.high; have q3 := h.apart; have q4 := h.top; have q5 := hx.top
  refine RcL.with (w := w') (x := x) (y := y) (z := z) (l := l) (r := r) (ps := ps) (Nat.le_refl _) (fun W e1 e2 => ?_) (fun W e1 e2 => ?_) (fun W e1 e2 => ?_) hx.cap h.y.cap h.z.cap
  · exact hx.reads2 wl fun b b1 b2 => e1 b (by omega) (by omega)
  · exact h.y.reads2 wr fun b b1 b2 => (e1 b (by omega) (by omega)).trans (hs b (by omega) (by omega) (by omega))
  · exact h.z.reads2 hl wp fun b b1 b2 => (e1 b (by omega) (by omega)).trans (hs b (by omega) (by omega) (by omega))

/-- .. or its rows .. -/
theorem OC.partY {w w' : World} {x y z y' : Value} {l r r' : List Int} {ps : List Pv} {lo hi n1 h1 n2 h2 n3 h3 hx' : Nat} (h : OC w x y z l r ps lo hi n1 h1 n2 h2 n3 h3) (hx : Ow w' y' r' n2 hx') (wr : ∀ x ∈ r', I64 x)
    (hs : ∀ b, lo ≤ b → b < hi → ¬(n2 ≤ b ∧ b < h2) → w'.heap[b]? = w.heap[b]?) (hsz : w.heap.size ≤ w'.heap.size) (wl : ∀ x ∈ l, I64 x) (hl : ps.length ≤ 9223372036854775807) (wp : ∀ p ∈ ps, I64 p.1 ∧ I64 p.2) : RcL lo w' (.agg #[x, y', z]) l r' ps := by
  have q1 := h.low; have q2 := h.high; have q3 := h.apart; have q4 := h.top; have q5 := hx.top
  refine RcL.with (w := w') (x := x) (y := y) (z := z) (l := l) (r := r) (ps := ps) (Nat.le_refl _) (fun W e1 e2 => ?_) (fun W e1 e2 => ?_) (fun W e1 e2 => ?_) h.x.cap hx.cap h.z.cap
  · exact h.x.reads2 wl fun b b1 b2 => (e1 b (by omega) (by omega)).trans (hs b (by omega) (by omega) (by omega))
  · exact hx.reads2 wr fun b b1 b2 => e1 b (by omega) (by omega)
  · exact h.z.reads2 hl wp fun b b1 b2 => (e1 b (by omega) (by omega)).trans (hs b (by omega) (by omega) (by omega))

/-- .. or its pivots. -/
theorem OC.partZ {w w' : World} {x y z z' : Value} {l r : List Int} {ps ps' : List Pv} {lo hi n1 h1 n2 h2 n3 h3 hx' : Nat} (h : OC w x y z l r ps lo hi n1 h1 n2 h2 n3 h3) (hx : Owp w' z' ps' n3 hx') (hht : hx' ≤ w'.heap.size) (hl : ps'.length ≤ 9223372036854775807) (wp : ∀ p ∈ ps', I64 p.1 ∧ I64 p.2)
    (hs : ∀ b, lo ≤ b → b < hi → ¬(n3 ≤ b ∧ b < h3) → w'.heap[b]? = w.heap[b]?) (hsz : w.heap.size ≤ w'.heap.size) (wl : ∀ x ∈ l, I64 x) (wr : ∀ x ∈ r, I64 x) : RcL lo w' (.agg #[x, y, z']) l r ps' := by
  have q1 := h.low; have q2 := h.high; have q3 := h.apart; have q4 := h.top
  refine RcL.with (w := w') (x := x) (y := y) (z := z) (l := l) (r := r) (ps := ps) (Nat.le_refl _) (fun W e1 e2 => ?_) (fun W e1 e2 => ?_) (fun W e1 e2 => ?_) h.x.cap h.y.cap hx.cap
  · exact h.x.reads2 wl fun b b1 b2 => (e1 b (by omega) (by omega)).trans (hs b (by omega) (by omega) (by omega))
  · exact h.y.reads2 wr fun b b1 b2 => (e1 b (by omega) (by omega)).trans (hs b (by omega) (by omega) (by omega))
  · exact hx.reads2 hl wp fun b b1 b2 => e1 b (by omega) (by omega)

/-- A drawn column is returned, to be read; the reader stands, of what was there only its block may have turned. -/
def RetDA (B : Nat) (a : Option Addr) (len cap g : Nat) (w : World) (e : Ending) (w' : World) : Prop := ∃ (a1 a2 a3 : Option Addr) (c1 c2 c3 : Nat) (l r : List Int) (ps : List Pv) (lo : Nat),
  e = .returned (.agg #[.slice a1 l.length c1, .slice a2 r.length c2, .slice a3 ps.length c3]) ∧ RcL lo w' (.agg #[.slice a1 l.length c1, .slice a2 r.length c2, .slice a3 ps.length c3]) l r ps ∧ w.heap.size ≤ lo ∧ CPA l r ps ∧ Rd B a len cap w' g ∧ Only [g] w w'

set_option maxHeartbeats 8000000 in
theorem anyC_d (B : Nat) (a : Option Addr) (len cap g : Nat) (w : World) (h : Rd B a len cap w g) :
    Calls Try.prog 74 #[.pointer (some ⟨g, 0, none⟩)] w (RetDA B a len cap g w) := by
  have hlt := h.lt
  have R := hide (h.alloc (.cells #[.slice none 0 0, .slice none 0 0, .slice none 0 0] 27))
  have X := hide (Kd.one [g] w #[.slice none 0 0, .slice none 0 0, .slice none 0 0] 27)
  obtain ⟨w1, hw1⟩ : ∃ w1, w1 = w.alloc (.cells #[.slice none 0 0, .slice none 0 0, .slice none 0 0] 27) := ⟨_, rfl⟩
  have hz := hide (show w1.heap.size = w.heap.size + 1 by rw [hw1]; simp)
  rw [← hw1] at R X
  clear h
  go_enter Try.func74, Try.ntmps74
  go_wp2_with fail
  rw [← hw1]
  clear hw1
  go_at_call 108
  refine (cracker_d _ a len cap g _ R.out).mono ?_
  rintro e w2 ⟨g1, g2, g3, k1, k2, k3, l, r, ps, lo, hi, n1, h1, n2, h2, n3, h3, rfl, C, hlo, hcp, hr, ho⟩
  have R := hide hr
  have X := hide (X.out.drawn ho (by simp; exact hlt))
  have HLO := hide (show w.heap.size + 1 ≤ lo by have := hz.out; omega)
  have HCP := hide hcp
  have bl := below1 w2 (.cells #[.slice g1 l.length k1, .slice g2 r.length k2, .slice g3 ps.length k3] 27)
  have X := hide (X.out.alloc #[.slice g1 l.length k1, .slice g2 r.length k2, .slice g3 ps.length k3] 27)
  have C := hide (C.below bl)
  have R := hide (R.out.alloc (.cells #[.slice g1 l.length k1, .slice g2 r.length k2, .slice g3 ps.length k3] 27))
  have HT := hide (show hi ≤ w2.heap.size from by have := ho.below.size; have := hr.lt; have := ‹OC w2 _ _ _ _ _ _ _ _ _ _ _ _ _ _›.top; omega)
  clear bl hr ho hlo hcp
  obtain ⟨m, hm⟩ : ∃ q, q = w2.heap.size := ⟨_, rfl⟩
  obtain ⟨w3, hw3⟩ : ∃ q, q = w2.alloc (.cells #[.slice g1 l.length k1, .slice g2 r.length k2, .slice g3 ps.length k3] 27) := ⟨_, rfl⟩
  have hs3 := hide (show w3.heap.size = m + 1 by rw [hw3, hm]; simp)
  rw [← hw3] at X C R
  rw [← hm] at X HT
  simp only [List.cons_append, List.nil_append] at X
  go_wp2_with fail
  rw [← hw3]
  try rw [← hm]
  clear hw3 hm
  refine (below_d B a len cap g _ R.out 12 (by omega) (by omega)).mono ?_
  rintro e w4 ⟨s, ⟨s0, s1⟩, rfl, hr, ho⟩
  have R := hide hr
  have X := hide (X.out.drawn ho (by simp; exact hlt))
  have C := hide (C.out.only ho (by have := HLO.out; omega))
  clear hr ho
  have hmg := hide (show g < m by have := X.out.low 1 rfl; omega)
  have HA := hide HCP.out.a
  by_cases e0 : s = 0
  · subst e0
    by_cases hl0 : l.length = 0
    · have t0 : decide (0 < l.length) = false := decide_eq_false (by omega)
      clear hl0
      have c10 : w4.cell? ⟨m, 0, none⟩ = some (.slice g1 l.length k1) := X.out.cell 1 0 rfl rfl
      have c11 : w4.cell? ⟨m, 1, none⟩ = some (.slice g2 r.length k2) := X.out.cell 1 1 rfl rfl
      have c12 : w4.cell? ⟨m, 2, none⟩ = some (.slice g3 ps.length k3) := X.out.cell 1 2 rfl rfl
      have c00 := X.out.cell 0 0 rfl rfl
      have f00 := X.out.free 0 0 rfl
      have c01 := X.out.cell 0 1 rfl rfl
      have f01 := X.out.free 0 1 rfl
      have c02 := X.out.cell 0 2 rfl rfl
      have f02 := X.out.free 0 2 rfl
      have hne := X.out.ne' 0 1 rfl rfl (by omega)
      go_wp2_with fail
      have Z := ((X.out.set 0 0 rfl (.slice g1 l.length k1)).set 0 1 rfl (.slice g2 r.length k2)).set 0 2 rfl (.slice g3 ps.length k3)
      have z0 := Z.cell 0 0 rfl rfl
      have z1 := Z.cell 0 1 rfl rfl
      have z2 := Z.cell 0 2 rfl rfl
      have R9 := R.out.put3 (x := .slice g1 l.length k1) (y := .slice g2 r.length k2) (z := .slice g3 ps.length k3) (show g < w.heap.size from hlt)
      have Q9 := ((C.out.reads HCP.out.a.i64 HCP.out.vr (by have := HCP.out.np; omega) HCP.out.vp)).seg (seg3 _ w.heap.size (.slice g1 l.length k1) (.slice g2 r.length k2) (.slice g3 ps.length k3)) HLO.out
      exact bodyPost_ret (v := .agg #[.slice g1 l.length k1, .slice g2 r.length k2, .slice g3 ps.length k3]) (by simp [results, Try.results74, go_sem, z0, z1, z2]) rfl
        ⟨_, _, _, _, _, _, l, r, ps, lo, rfl, Q9, by have := HLO.out; omega, HA.out, R9, Z.only⟩
    · have t0 : decide (0 < l.length) = true := decide_eq_true (by omega)
      have HL0 := hide hl0
      clear hl0
      obtain ⟨gv, hgv, -⟩ := C.out.x.atS (by have := HL0.out; omega)
      subst hgv
      have hbv := C.out.x.block gv rfl
      have HGV := hide (show lo ≤ gv ∧ gv < hi by have := C.out.low; have := C.out.high; omega)
      have HNV := hide hbv
      clear hbv
      have PK := hide (fun (W : World) (hr : Rd B a len cap W g) => show Calls Try.prog 109 #[.pointer (some ⟨g, 0, none⟩), .slice (some ⟨W.heap.size, 0, none⟩) 4 4] (W.alloc (.cells #[.int .i64 0, .int .i64 999, .int .i64 1000, .int .i64 (-5)] 3)) (RetD B a len cap g (W.alloc (.cells #[.int .i64 0, .int .i64 999, .int .i64 1000, .int .i64 (-5)] 3)) (· ∈ [(0 : Int), 999, 1000, -5])) from pickI_d B a len cap g _ (hr.alloc (.cells ([(0 : Int), 999, 1000, -5].map (Value.int .i64)).toArray 3)) [0, 999, 1000, -5] W.heap.size 4 4 rfl (by omega) (by omega) (by have := hr.lt; omega) (by simp) (litsI W [0, 999, 1000, -5] 3))
      have PKd := hide (fun (W : World) (hr : Rd B a len cap W g) => show Calls Try.prog 109 #[.pointer (some ⟨g, 0, none⟩), .slice (some ⟨W.heap.size, 0, none⟩) 4 4] (W.alloc (.cells #[.int .i64 0, .int .i64 999, .int .i64 1000, .int .i64 (-5)] 3)).drew (RetD B a len cap g (W.alloc (.cells #[.int .i64 0, .int .i64 999, .int .i64 1000, .int .i64 (-5)] 3)).drew (· ∈ [(0 : Int), 999, 1000, -5])) from pickI_d B a len cap g _ (hr.alloc (.cells ([(0 : Int), 999, 1000, -5].map (Value.int .i64)).toArray 3)).drew' [0, 999, 1000, -5] W.heap.size 4 4 rfl (by omega) (by omega) (by have := hr.lt; omega) (by simp) (litsI W [0, 999, 1000, -5] 3))
      have hGm := hide (show ∀ b ∈ [g], b < w.heap.size from by intro b hb; rw [List.mem_singleton.1 hb]; exact hlt)
      have c10 : w4.cell? ⟨m, 0, none⟩ = some (.slice (some ⟨gv, 0, none⟩) l.length k1) := X.out.cell 1 0 rfl rfl
      have c11 : w4.cell? ⟨m, 1, none⟩ = some (.slice g2 r.length k2) := X.out.cell 1 1 rfl rfl
      have c12 : w4.cell? ⟨m, 2, none⟩ = some (.slice g3 ps.length k3) := X.out.cell 1 2 rfl rfl
      have c00 := X.out.cell 0 0 rfl rfl
      have f00 := X.out.free 0 0 rfl
      have c01 := X.out.cell 0 1 rfl rfl
      have f01 := X.out.free 0 1 rfl
      have c02 := X.out.cell 0 2 rfl rfl
      have f02 := X.out.free 0 2 rfl
      have hne := X.out.ne' 0 1 rfl rfl (by omega)
      have h0L : (0 : Int) < (l.length : Int) := by have := HL0.out; omega
      have h0N : 0 < l.length := by omega
      have h0E : ¬ l = [] := by intro e; rw [e] at h0N; simp at h0N
      go_upto_region 5 with fail
      have R0 := R
      have X0 := X
      have C0 := C
      have R := hide (R.out.drew')
      have X := hide X.out.drew
      have C := hide (C.out.below (Below.refl _ _).drew)
      have KS := hide (fun (W : World) (h : Kd [g] w W [(w.heap.size, #[.slice none 0 0, .slice none 0 0, .slice none 0 0], 27), (m, #[.slice (some ⟨gv, 0, none⟩) l.length k1, .slice g2 r.length k2, .slice g3 ps.length k3], 27)]) => show W.cell? ⟨m, 0, none⟩ = some (.slice (some ⟨gv, 0, none⟩) l.length k1) from h.cell 1 0 rfl rfl)
      have KX := hide (fun (W : World) (u : Value) (h : Kd [g] w W [(w.heap.size, #[.slice none 0 0, .slice none 0 0, .slice none 0 0], 27), (m, #[.slice (some ⟨gv, 0, none⟩) l.length k1, .slice g2 r.length k2, .slice g3 ps.length k3], 27)]) => show Kd [g] w (W.setCell ⟨gv, 0, none⟩ u) [(w.heap.size, #[.slice none 0 0, .slice none 0 0, .slice none 0 0], 27), (m, #[.slice (some ⟨gv, 0, none⟩) l.length k1, .slice g2 r.length k2, .slice g3 ps.length k3], 27)] from h.poke2 (by have := HLO.out; have := HGV.out; omega) (by have := HLO.out; have := HGV.out; omega) (by have := HT.out; have := HGV.out; omega))
      clear c10 c11 c12 c00 f00 c01 f01 c02 f02 hne
      have c10 := KS.out _ X.out
      go_region_held3 (fun W => W.cell? ⟨m, 0, none⟩ = some (.slice (some ⟨gv, 0, none⟩) l.length k1)) (first | with_reducible exact KS.out _ X.out | with_reducible exact KS.out _ (X.out.up (below1 _ _)) | with_reducible exact KS.out _ (X0.out.up (below1 _ _)).drew | with_reducible exact KS.out _ (KX.out _ _ X.out) | go_keep) (first
        | (go_at_call 109; (first | with_reducible refine (PK.out _ R.out).mono ?_ | with_reducible refine (PKd.out _ R0.out).mono ?_); rintro e wq ⟨x, hx, rfl, hr, ho⟩; have hx := hide hx; replace R := hide hr; replace X := hide (by first | with_reducible exact (X.out.up (below1 _ _)).drawn ho hGm.out | with_reducible exact (X0.out.up (below1 _ _)).drew.drawn ho hGm.out); replace C := hide (by first | with_reducible exact (C.out.below (below1 _ _)).only ho (Nat.lt_of_lt_of_le hlt (Nat.le_trans (Nat.le_succ _) HLO.out)) | with_reducible exact (C0.out.below ((below1 _ _).drew)).only ho (Nat.lt_of_lt_of_le hlt (Nat.le_trans (Nat.le_succ _) HLO.out))); clear hr ho c10; have hcv := (C.out.x.at2 0 (by have := HL0.out; omega)); have hfv := (C.out.x.free 0 (by have := HL0.out; omega)); have c10 := KS.out _ X.out))
      all_goals
        have X5 := hide (KX.out _ (.int .i64 x) X.out)
        have R5 := hide (R.out.poke (m := gv) (j := 0) (x := .int .i64 x) (by have := HLO.out; have := HGV.out; omega))
        have O5 := C.out.x.putD 0 x
        have sg := Seg.setCell wq gv 0 (.int .i64 x)
        have hx4 := hx.out
        have hxb : -1000 ≤ x ∧ x ≤ 1000 := by simp at hx4; omega
        have wl5 : ∀ y ∈ l.set 0 x, -1000 ≤ y ∧ y ≤ 1000 := fun y hy => by
          rcases List.mem_or_eq_of_mem_set hy with h | rfl
          · exact HCP.out.a.vl y h
          · exact hxb
        have A5 : CPA (l.set 0 x) r ps := ⟨by simpa using HCP.out.a.nl, HCP.out.a.nr, HCP.out.a.np, wl5, HCP.out.a.vr, HCP.out.a.vp⟩
        have RC := hide (C.out.partX (w' := wq.setCell ⟨gv, 0, none⟩ (.int .i64 x)) O5 A5.i64 (fun b b1 b2 b3 => by
          by_cases hb : b < gv
          · exact sg.below.block b hb
          · exact sg.over b (by have := HNV.out; omega) (by have := C.out.top; omega)) sg.below.size HCP.out.vr (by have := HCP.out.np; omega) HCP.out.vp)
        clear c10 hcv hfv sg hx4 O5
        obtain ⟨w5, hw5⟩ : ∃ q, q = wq.setCell ⟨gv, 0, none⟩ (.int .i64 x) := ⟨_, rfl⟩
        rw [← hw5] at X5 R5 RC
        rw [← hw5]
        clear hw5
        have c10 : w5.cell? ⟨m, 0, none⟩ = some (.slice (some ⟨gv, 0, none⟩) l.length k1) := X5.out.cell 1 0 rfl rfl
        have c11 : w5.cell? ⟨m, 1, none⟩ = some (.slice g2 r.length k2) := X5.out.cell 1 1 rfl rfl
        have c12 : w5.cell? ⟨m, 2, none⟩ = some (.slice g3 ps.length k3) := X5.out.cell 1 2 rfl rfl
        have c00 := X5.out.cell 0 0 rfl rfl
        have f00 := X5.out.free 0 0 rfl
        have c01 := X5.out.cell 0 1 rfl rfl
        have f01 := X5.out.free 0 1 rfl
        have c02 := X5.out.cell 0 2 rfl rfl
        have f02 := X5.out.free 0 2 rfl
        have hne := X5.out.ne' 0 1 rfl rfl (by omega)
        go_wp2_with fail
        have Z := ((X5.out.set 0 0 rfl (.slice (some ⟨gv, 0, none⟩) l.length k1)).set 0 1 rfl (.slice g2 r.length k2)).set 0 2 rfl (.slice g3 ps.length k3)
        have z0 := Z.cell 0 0 rfl rfl
        have z1 := Z.cell 0 1 rfl rfl
        have z2 := Z.cell 0 2 rfl rfl
        have R9 := R5.out.put3 (x := .slice (some ⟨gv, 0, none⟩) l.length k1) (y := .slice g2 r.length k2) (z := .slice g3 ps.length k3) (show g < w.heap.size from hlt)
        have Q9 := (RC.out).seg (seg3 _ w.heap.size (.slice (some ⟨gv, 0, none⟩) l.length k1) (.slice g2 r.length k2) (.slice g3 ps.length k3)) HLO.out
        exact bodyPost_ret (v := .agg #[.slice (some ⟨gv, 0, none⟩) l.length k1, .slice g2 r.length k2, .slice g3 ps.length k3]) (by simp [results, Try.results74, go_sem, z0, z1, z2]) rfl
          ⟨some ⟨gv, 0, none⟩, g2, g3, k1, k2, k3, l.set 0 x, r, ps, lo, by simp, by rw [List.length_set]; exact Q9, by have := HLO.out; omega, A5, R9, Z.only⟩
  by_cases e1 : s = 1
  · subst e1
    have hGm := hide (show ∀ b ∈ [g], b < w.heap.size from by intro b hb; rw [List.mem_singleton.1 hb]; exact hlt)
    have HGL := hide (show g < lo by have := HLO.out; omega)
    have c10 : w4.cell? ⟨m, 0, none⟩ = some (.slice g1 l.length k1) := X.out.cell 1 0 rfl rfl
    have c11 : w4.cell? ⟨m, 1, none⟩ = some (.slice g2 r.length k2) := X.out.cell 1 1 rfl rfl
    have c12 : w4.cell? ⟨m, 2, none⟩ = some (.slice g3 ps.length k3) := X.out.cell 1 2 rfl rfl
    have c00 := X.out.cell 0 0 rfl rfl
    have f00 := X.out.free 0 0 rfl
    have c01 := X.out.cell 0 1 rfl rfl
    have f01 := X.out.free 0 1 rfl
    have c02 := X.out.cell 0 2 rfl rfl
    have f02 := X.out.free 0 2 rfl
    have hne := X.out.ne' 0 1 rfl rfl (by omega)
    go_upto_region 7 with fail
    have KS := hide (fun (W : World) (h : Kd [g] w W [(w.heap.size, #[.slice none 0 0, .slice none 0 0, .slice none 0 0], 27), (m, #[.slice g1 l.length k1, .slice g2 r.length k2, .slice g3 ps.length k3], 27)]) => show W.cell? ⟨m, 2, none⟩ = some (.slice g3 ps.length k3) from h.cell 1 2 rfl rfl)
    have R := hide (R.out.drew')
    have X := hide X.out.drew
    have C := hide (C.out.below (Below.refl _ _).drew)
    clear c10 c11 c12 c00 f00 c01 f01 c02 f02 hne
    have c12 := KS.out _ X.out
    go_region_law (first
      | (have _hh := hI0; go_simp; go_at_call 81; (with_reducible refine (below_d B a len cap g _ R.out 9 (by omega) (by omega)).mono ?_); rintro e wq2 ⟨jj, ⟨j0, j1⟩, rfl, hr, ho⟩; replace R := hide hr; replace X := hide (X.out.drawn ho hGm.out); replace C := hide (C.out.only ho HGL.out); have hJ0 := hide (And.intro j0 j1); clear hr ho j0 j1 c12; have c12 := KS.out _ X.out; have c12a := KS.out _ (X.out.up (below1 wq2 (.cells #[.int .i64 ii, .int .i64 jj] 60))))
      | (go_simp; go_at_call 81; (with_reducible refine (below_d B a len cap g _ R.out 9 (by omega) (by omega)).mono ?_); rintro e wq ⟨ii, ⟨j0, j1⟩, rfl, hr, ho⟩; replace R := hide hr; replace X := hide (X.out.drawn ho hGm.out); replace C := hide (C.out.only ho HGL.out); have hI0 := hide (And.intro j0 j1); clear hr ho j0 j1 c12; have c12 := KS.out _ X.out)
      | (refine op_append_step rfl _ _ rfl n3 (.slice g3 ps.length k3) ps (C.out.z.own.below (below1 _ _)) (by simp [Act.eval, Act.put]) ii jj 1 wq2.heap.size (by simp [Act.eval, Act.put]) (by exact heap_alloc_new _ _) (by have := HCP.out.np; omega) (by have := C.out.z.lt; have := C.out.high; have := C.out.top; have := C.out.z.le; simp; omega) ?_; intro v5 w5 hown hb hq; obtain ⟨q, hqq⟩ : ∃ q, q = ps ++ [(ii, jj)] := ⟨_, rfl⟩; rw [← hqq] at hown; have HQQ := hide hqq; clear hqq; obtain ⟨g5, k5, rfl⟩ := hown.form; have X5 := hide ((X.out.up (below1 _ _)).keep2 hb (by have := HLO.out; have := C.out.low; omega) hq C.out.z.block (by have := HLO.out; have := C.out.low; omega) (by have := HT.out; have := C.out.high; omega)); have R5 := hide ((R.out.alloc _).keep2 hb (by have := HLO.out; have := C.out.low; omega) hq C.out.z.block (by have := HLO.out; have := C.out.low; omega)); have O5 := hide hown; have HB := hide hb; have HQ := hide hq; clear hb hq hown c12 c12a; have c12 := KS.out _ X5.out; have f12 := X5.out.free 1 2 rfl))
    all_goals
      have q1 := C.out.low
      have q2 := C.out.high
      have q3 := C.out.top
      have q4 := HT.out
      have q5 := HLO.out
      have q6 := C.out.z.le
      have hbs := HB.out.size
      have hal : (wq2.alloc (.cells #[.int .i64 ii, .int .i64 jj] 60)).heap.size = wq2.heap.size + 1 := by simp
      have OZ := Owp.of (w' := w5.setCell ⟨m, 2, none⟩ (.slice g5 q.length k5)) (O5.out.pokeOther (m := m) (j := 2) (u := .slice g5 q.length k5) (O5.out.apart (X5.out.mem 1 rfl) (by decide))) (by simp; omega)
      have hin : ∀ x ∈ q, x ∈ ps ∨ x = (ii, jj) := fun x hx => by rw [HQQ.out] at hx; simpa using hx
      have hql : q.length = ps.length + 1 := by rw [HQQ.out]; simp
      have wp5 : ∀ x ∈ q, I64 x.1 ∧ I64 x.2 := fun x hx => by
        rcases hin x hx with h | rfl
        · exact HCP.out.vp x h
        · have := hI0.out
          have := hJ0.out
          exact ⟨⟨by simp only; omega, by simp only; omega⟩, ⟨by simp only; omega, by simp only; omega⟩⟩
      have RC := hide (C.out.partZ OZ (Nat.le_refl _) (by have := HCP.out.np; omega) wp5 (fun b b1 b2 b3 => (poke_heap (by omega) (by omega)).trans ((HQ.out b (by omega) (fun e => b3 (C.out.z.block b e.symm))).trans ((below1 wq2 _).block b (by omega)))) (by simp; omega) HCP.out.a.i64 HCP.out.vr)
      have A5 : CPA l r q := ⟨HCP.out.nl, by have := HCP.out.nr; omega, by have := HCP.out.np; omega, HCP.out.vl, HCP.out.vr, wp5⟩
      have X6 := hide (X5.out.set 1 2 rfl (.slice g5 q.length k5))
      have R6 := hide (R5.out.poke (m := m) (j := 2) (x := .slice g5 q.length k5) hmg.out)
      simp only [List.set_cons_zero, List.set_cons_succ] at X6
      clear c12 f12 q1 q2 q3 q4 q5 q6 hbs hal OZ hin hql wp5
      obtain ⟨w6, hw6⟩ : ∃ q', q' = w5.setCell ⟨m, 2, none⟩ (.slice g5 q.length k5) := ⟨_, rfl⟩
      rw [← hw6] at X6 R6 RC
      rw [← hw6]
      clear hw6
      have c10 : w6.cell? ⟨m, 0, none⟩ = some (.slice g1 l.length k1) := X6.out.cell 1 0 rfl rfl
      have c11 : w6.cell? ⟨m, 1, none⟩ = some (.slice g2 r.length k2) := X6.out.cell 1 1 rfl rfl
      have c12 : w6.cell? ⟨m, 2, none⟩ = some (.slice g5 q.length k5) := X6.out.cell 1 2 rfl rfl
      have c00 := X6.out.cell 0 0 rfl rfl
      have f00 := X6.out.free 0 0 rfl
      have c01 := X6.out.cell 0 1 rfl rfl
      have f01 := X6.out.free 0 1 rfl
      have c02 := X6.out.cell 0 2 rfl rfl
      have f02 := X6.out.free 0 2 rfl
      have hne := X6.out.ne' 0 1 rfl rfl (by omega)
      go_wp2_with fail
      have Z := ((X6.out.set 0 0 rfl (.slice g1 l.length k1)).set 0 1 rfl (.slice g2 r.length k2)).set 0 2 rfl (.slice g5 q.length k5)
      have z0 := Z.cell 0 0 rfl rfl
      have z1 := Z.cell 0 1 rfl rfl
      have z2 := Z.cell 0 2 rfl rfl
      have R9 := R6.out.put3 (x := .slice g1 l.length k1) (y := .slice g2 r.length k2) (z := .slice g5 q.length k5) (show g < w.heap.size from hlt)
      have Q9 := (RC.out).seg (seg3 _ w.heap.size (.slice g1 l.length k1) (.slice g2 r.length k2) (.slice g5 q.length k5)) HLO.out
      exact bodyPost_ret (v := .agg #[.slice g1 l.length k1, .slice g2 r.length k2, .slice g5 q.length k5]) (by simp [results, Try.results74, go_sem, z0, z1, z2]) rfl
        ⟨_, _, _, _, _, _, l, r, q, lo, rfl, Q9, by have := HLO.out; omega, A5, R9, Z.only⟩
  by_cases e2 : s = 2
  · subst e2
    have IY := hide ((C.out.y.below (below1 w4 (.cells #[.int .i64 0] 3))).is)
    have c10 : w4.cell? ⟨m, 0, none⟩ = some (.slice g1 l.length k1) := X.out.cell 1 0 rfl rfl
    have c11 : w4.cell? ⟨m, 1, none⟩ = some (.slice g2 r.length k2) := X.out.cell 1 1 rfl rfl
    have c12 : w4.cell? ⟨m, 2, none⟩ = some (.slice g3 ps.length k3) := X.out.cell 1 2 rfl rfl
    have c00 := X.out.cell 0 0 rfl rfl
    have f00 := X.out.free 0 0 rfl
    have c01 := X.out.cell 0 1 rfl rfl
    have f01 := X.out.free 0 1 rfl
    have c02 := X.out.cell 0 2 rfl rfl
    have f02 := X.out.free 0 2 rfl
    have hne := X.out.ne' 0 1 rfl rfl (by omega)
    go_wp2_with (first | (at_builtin; refine appI_list (w4.alloc (.cells #[.int .i64 0] 3)) rfl _ _ rfl n2 (.slice g2 r.length k2) r IY.out rfl 0 1 w4.heap.size rfl (heap_alloc_new _ _) (by have := HCP.out.nr; omega) (by have := C.out.y.le; have := C.out.y.top; simp; omega) ?_; intro v5 w5 hown hb hq; obtain ⟨q, hqq⟩ : ∃ q, q = r ++ [0] := ⟨_, rfl⟩; rw [← hqq] at hown; have HQQ := hide hqq; clear hqq; obtain ⟨g5, k5, rfl⟩ := hown.form; have X5 := hide ((X.out.up (below1 _ _)).keep2 hb (by have := HLO.out; have := C.out.low; omega) hq C.out.y.block (by have := HLO.out; have := C.out.low; omega) (by have := HT.out; have := C.out.high; omega)); have R5 := hide ((R.out.alloc _).keep2 hb (by have := HLO.out; have := C.out.low; omega) hq C.out.y.block (by have := HLO.out; have := C.out.low; omega)); have O5 := hide hown; have HB := hide hb; have HQ := hide hq; clear hb hq hown c10 c11 c12 c00 f00 c01 f01 c02 f02 hne; have c11 := X5.out.cell 1 1 rfl rfl; have f11 := X5.out.free 1 1 rfl; have c10 := X5.out.cell 1 0 rfl rfl; have c12 := X5.out.cell 1 2 rfl rfl; have c00 := X5.out.cell 0 0 rfl rfl; have c01 := X5.out.cell 0 1 rfl rfl; have c02 := X5.out.cell 0 2 rfl rfl; have f00 := X5.out.free 0 0 rfl; have f01 := X5.out.free 0 1 rfl; have f02 := X5.out.free 0 2 rfl; have hne := X5.out.ne' 0 1 rfl rfl (by omega)) | fail)
    have q1 := C.out.low
    have q2 := C.out.high
    have q3 := C.out.top
    have q4 := HT.out
    have q5 := HLO.out
    have q6 := C.out.y.le
    have hbs := HB.out.size
    have hal : (w4.alloc (.cells #[.int .i64 0] 3)).heap.size = w4.heap.size + 1 := by simp
    have OY := Ow.of (w' := w5.setCell ⟨m, 1, none⟩ (.slice g5 q.length k5)) (O5.out.poke (m := m) (j := 1) (u := .slice g5 q.length k5) (O5.out.apart (X5.out.mem 1 rfl) (by decide))) (by simp; omega)
    have hin : ∀ x ∈ q, x ∈ r ∨ x = 0 := fun x hx => by rw [HQQ.out] at hx; simpa using hx
    have hql : q.length = r.length + 1 := by rw [HQQ.out]; simp
    have wr5 : ∀ x ∈ q, I64 x := fun x hx => by
      rcases hin x hx with h | rfl
      · exact HCP.out.vr x h
      · exact ⟨by omega, by omega⟩
    have RC := hide (C.out.partY OY wr5 (fun b b1 b2 b3 => (poke_heap (by omega) (by omega)).trans ((HQ.out b (by omega) (fun e => b3 (C.out.y.block b e.symm))).trans ((below1 w4 _).block b (by omega)))) (by simp; omega) HCP.out.a.i64 (by have := HCP.out.np; omega) HCP.out.vp)
    have A5 : CPA l q ps := ⟨HCP.out.nl, by have := HCP.out.nr; omega, HCP.out.a.np, HCP.out.vl, wr5, HCP.out.a.vp⟩
    have X6 := hide (X5.out.set 1 1 rfl (.slice g5 q.length k5))
    have R6 := hide (R5.out.poke (m := m) (j := 1) (x := .slice g5 q.length k5) hmg.out)
    simp only [List.set_cons_zero, List.set_cons_succ] at X6
    have Z := ((X6.out.set 0 0 rfl (.slice g1 l.length k1)).set 0 1 rfl (.slice g5 q.length k5)).set 0 2 rfl (.slice g3 ps.length k3)
    have z0 := Z.cell 0 0 rfl rfl
    have z1 := Z.cell 0 1 rfl rfl
    have z2 := Z.cell 0 2 rfl rfl
    have R9 := R6.out.put3 (x := .slice g1 l.length k1) (y := .slice g5 q.length k5) (z := .slice g3 ps.length k3) (show g < w.heap.size from hlt)
    have Q9 := (RC.out).seg (seg3 _ w.heap.size (.slice g1 l.length k1) (.slice g5 q.length k5) (.slice g3 ps.length k3)) HLO.out
    exact bodyPost_ret (v := .agg #[.slice g1 l.length k1, .slice g5 q.length k5, .slice g3 ps.length k3]) (by simp [results, Try.results74, go_sem, z0, z1, z2]) rfl
      ⟨_, _, _, _, _, _, l, q, ps, lo, rfl, Q9, by have := HLO.out; omega, A5, R9, Z.only⟩
  · have t0 : (s == 0) = false := by simp [e0]
    have t1 : (s == 1) = false := by simp [e1]
    have t2 : (s == 2) = false := by simp [e2]
    clear e0 e1 e2
    have c10 : w4.cell? ⟨m, 0, none⟩ = some (.slice g1 l.length k1) := X.out.cell 1 0 rfl rfl
    have c11 : w4.cell? ⟨m, 1, none⟩ = some (.slice g2 r.length k2) := X.out.cell 1 1 rfl rfl
    have c12 : w4.cell? ⟨m, 2, none⟩ = some (.slice g3 ps.length k3) := X.out.cell 1 2 rfl rfl
    have c00 := X.out.cell 0 0 rfl rfl
    have f00 := X.out.free 0 0 rfl
    have c01 := X.out.cell 0 1 rfl rfl
    have f01 := X.out.free 0 1 rfl
    have c02 := X.out.cell 0 2 rfl rfl
    have f02 := X.out.free 0 2 rfl
    have hne := X.out.ne' 0 1 rfl rfl (by omega)
    go_wp2_with fail
    have Z := ((X.out.set 0 0 rfl (.slice g1 l.length k1)).set 0 1 rfl (.slice g2 r.length k2)).set 0 2 rfl (.slice g3 ps.length k3)
    have z0 := Z.cell 0 0 rfl rfl
    have z1 := Z.cell 0 1 rfl rfl
    have z2 := Z.cell 0 2 rfl rfl
    have R9 := R.out.put3 (x := .slice g1 l.length k1) (y := .slice g2 r.length k2) (z := .slice g3 ps.length k3) (show g < w.heap.size from hlt)
    have Q9 := ((C.out.reads HCP.out.a.i64 HCP.out.vr (by have := HCP.out.np; omega) HCP.out.vp)).seg (seg3 _ w.heap.size (.slice g1 l.length k1) (.slice g2 r.length k2) (.slice g3 ps.length k3)) HLO.out
    exact bodyPost_ret (v := .agg #[.slice g1 l.length k1, .slice g2 r.length k2, .slice g3 ps.length k3]) (by simp [results, Try.results74, go_sem, z0, z1, z2]) rfl
      ⟨_, _, _, _, _, _, l, r, ps, lo, rfl, Q9, by have := HLO.out; omega, HA.out, R9, Z.only⟩

end Go.Proofs.Ytajfhalalnlejaa

/- l6Range, DrawSelectRange: a drawn column, some of them spoilt, and a range (promise 4). Written by gen_drh.py. -/
namespace Go.Proofs.Ytajfhalalnlejaa
open Go.RowKit Go.ChangeShapes
set_option linter.unusedSimpArgs false
set_option linter.unusedVariables false
set_option maxRecDepth 100000

theorem Kd.belowZ {w W : World} {L : List (Nat × Array Value × TypeId)} (h : Kd [] w W L) : Below w.heap.size w W := h.only.toBelow (by simp) (Nat.le_refl _)

/-- A draw whose reader is the call's own. -/
theorem Kd.drawZ {w W W' : World} {L : List (Nat × Array Value × TypeId)} {g : Nat} (h : Kd [] w W L) (ho : Only [g] W W') (hg : w.heap.size ≤ g) (hL : ∀ e ∈ L, e.1 ≠ g) : Kd [] w W' L :=
  h.others ho (fun b hb => .inr (by simp at hb; omega)) (fun e he => by simp; exact hL e he)

theorem CPA.wfZ {l r : List Int} {ps : List Pv} (h : CPA l r ps) : Wf l r ps 100 := ⟨by have := h.nl; omega, by have := h.nr; omega, by have := h.np; omega, h.i64, h.vr, h.vp⟩

/-- A drawn column, to be read, and a range. -/
def DrSe (w : World) (e : Ending) (w' : World) : Prop := ∃ (a1 a2 a3 : Option Addr) (c1 c2 c3 : Nat) (l r : List Int) (ps : List Pv) (f t : Int),
  e = .returned (.tuple #[.agg #[.slice a1 l.length c1, .slice a2 r.length c2, .slice a3 ps.length c3], .agg #[.int .i64 f, .int .i64 t]]) ∧ CU w' (.agg #[.slice a1 l.length c1, .slice a2 r.length c2, .slice a3 ps.length c3]) l r ps ∧ Wf l r ps 100 ∧ I64 f ∧ I64 t ∧ Below w.heap.size w w'

end Go.Proofs.Ytajfhalalnlejaa

/- The draws of an item, of a column and an item, of a column and a row (promise 7). Written by gen_drr.py. -/
namespace Go.Proofs.Ytajfhalalnlejaa
open Go.RowKit Go.ChangeShapes
set_option linter.unusedSimpArgs false
set_option linter.unusedVariables false
set_option maxRecDepth 100000

/-- A drawn item. -/
def RetDI (B : Nat) (a : Option Addr) (len cap g : Nat) (w : World) (e : Ending) (w' : World) : Prop := ∃ v x : Int, (-999 ≤ v ∧ v ≤ 999 ∧ 0 ≤ x ∧ x ≤ 999) ∧ e = .returned (.agg #[.int .i64 v, .int .i64 x]) ∧ Rd B a len cap w' g ∧ Only [g] w w'

theorem pick7 {x : Int} (h : x ∈ [(0 : Int), 3, 20, 21, 22, 23, 999]) : 0 ≤ x ∧ x ≤ 999 := by simp at h; omega

set_option maxHeartbeats 8000000 in
theorem item10_d (B : Nat) (a : Option Addr) (len cap g : Nat) (w : World) (h : Rd B a len cap w g) (a1 a2 a3 : Option Addr) (c1 c2 c3 : Nat) (l r : List Int) (ps : List Pv) (lo : Nat)
    (oo : RcL lo w (.agg #[.slice a1 l.length c1, .slice a2 r.length c2, .slice a3 ps.length c3]) l r ps) (hg : g < lo) (hl : l.length ≤ 1000) (hv : ∀ x ∈ l, -1000 ≤ x ∧ x ≤ 1000) :
    Calls Try.prog 75 #[.pointer (some ⟨g, 0, none⟩), .agg #[.slice a1 l.length c1, .slice a2 r.length c2, .slice a3 ps.length c3]] w (RetDI B a len cap g w) := by
  have hlt := h.lt
  have R := hide ((h.alloc (.cells #[.slice a1 l.length c1, .slice a2 r.length c2, .slice a3 ps.length c3] 27)).alloc (.cells #[.int .i64 0, .int .i64 0] 49))
  have X := hide ((Kd.one [g] w #[.slice a1 l.length c1, .slice a2 r.length c2, .slice a3 ps.length c3] 27).alloc #[.int .i64 0, .int .i64 0] 49)
  have O := hide ((oo.below (below1 w (.cells #[.slice a1 l.length c1, .slice a2 r.length c2, .slice a3 ps.length c3] 27))).below (below1 _ (.cells #[.int .i64 0, .int .i64 0] 49)))
  obtain ⟨w1, hw1⟩ : ∃ w1, w1 = (w.alloc (.cells #[.slice a1 l.length c1, .slice a2 r.length c2, .slice a3 ps.length c3] 27)).alloc (.cells #[.int .i64 0, .int .i64 0] 49) := ⟨_, rfl⟩
  rw [← hw1] at R X O
  simp only [List.cons_append, List.nil_append, World.size_alloc] at X
  have HV := hide hv
  have HGm := hide (show ∀ b ∈ [g], b < w.heap.size from by intro b hb; rw [List.mem_singleton.1 hb]; exact hlt)
  clear h oo hv
  have PK := hide (fun (W : World) (hr : Rd B a len cap W g) => show Calls Try.prog 109 #[.pointer (some ⟨g, 0, none⟩), .slice (some ⟨W.heap.size, 0, none⟩) 7 7] (W.alloc (.cells #[.int .i64 0, .int .i64 3, .int .i64 20, .int .i64 21, .int .i64 22, .int .i64 23, .int .i64 999] 3)) (RetD B a len cap g (W.alloc (.cells #[.int .i64 0, .int .i64 3, .int .i64 20, .int .i64 21, .int .i64 22, .int .i64 23, .int .i64 999] 3)) (· ∈ [(0 : Int), 3, 20, 21, 22, 23, 999])) from pickI_d B a len cap g _ (hr.alloc (.cells ([(0 : Int), 3, 20, 21, 22, 23, 999].map (Value.int .i64)).toArray 3)) [(0 : Int), 3, 20, 21, 22, 23, 999] W.heap.size 7 7 rfl (by omega) (by omega) (by have := hr.lt; omega) (by simp) (litsI W [(0 : Int), 3, 20, 21, 22, 23, 999] 3))
  go_enter Try.func75, Try.ntmps75
  have hsz : w1.heap.size = w.heap.size + 1 + 1 := by rw [hw1]; simp
  have PK1 := PK.out _ R.out
  rw [hsz] at PK1
  go_wp2_with fail
  rw [← hw1]
  clear hw1 hsz
  go_at_call 109
  have X := hide (X.out.up (below1 w1 (.cells #[.int .i64 0, .int .i64 3, .int .i64 20, .int .i64 21, .int .i64 22, .int .i64 23, .int .i64 999] 3)))
  have O := hide (O.out.below (below1 w1 (.cells #[.int .i64 0, .int .i64 3, .int .i64 20, .int .i64 21, .int .i64 22, .int .i64 23, .int .i64 999] 3)))
  refine PK1.mono ?_
  rintro e w2 ⟨x, hx, rfl, hr, ho⟩
  have R := hide hr
  have X := hide (X.out.drawn ho HGm.out)
  have O := hide (O.out.only ho hg)
  have hx := hide (pick7 hx)
  clear hr ho PK PK1
  have c00 : w2.cell? ⟨w.heap.size, 0, none⟩ = some (.slice a1 l.length c1) := X.out.cell 0 0 rfl rfl
  have c01 : w2.cell? ⟨w.heap.size, 1, none⟩ = some (.slice a2 r.length c2) := X.out.cell 0 1 rfl rfl
  have c02 : w2.cell? ⟨w.heap.size, 2, none⟩ = some (.slice a3 ps.length c3) := X.out.cell 0 2 rfl rfl
  go_wp2_with fail
  clear c00 c01 c02
  go_at_call 110
  refine (value_r B a len cap g _ R.out a1 a2 a3 c1 c2 c3 l r ps lo O.out hg hl HV.out).mono ?_
  rintro e w3 ⟨y, hy, rfl, hr, ho⟩
  have R := hide hr
  have X := hide (X.out.drawn ho HGm.out)
  have hy := hide hy
  clear hr ho O
  have r0 := X.out.cell 1 0 rfl rfl
  have r1 := X.out.cell 1 1 rfl rfl
  have f0 := X.out.free 1 0 rfl
  have f1 := X.out.free 1 1 rfl
  go_wp2_with fail
  all_goals have hx2 := hx.out
  all_goals have hy2 := hy.out
  all_goals unfold VP at hy2
  all_goals first
    | (have Z := (X.out.set 1 0 rfl (.int .i64 y)).set 1 1 rfl (.int .i64 x); have z0 := Z.cell 1 0 rfl rfl; have z1 := Z.cell 1 1 rfl rfl; have R9 := (R.out.poke (m := w.heap.size + 1) (j := 0) (x := .int .i64 y) (by omega)).poke (m := w.heap.size + 1) (j := 1) (x := .int .i64 x) (by omega); exact bodyPost_ret (v := .agg #[.int .i64 y, .int .i64 x]) (by simp [results, Try.results75, go_sem, z0, z1]) rfl ⟨_, x, ⟨(by omega), (by omega), hx2.1, hx2.2⟩, rfl, R9, Z.only⟩)
    | (have Z := (X.out.set 1 0 rfl (.int .i64 999)).set 1 1 rfl (.int .i64 x); have z0 := Z.cell 1 0 rfl rfl; have z1 := Z.cell 1 1 rfl rfl; have R9 := (R.out.poke (m := w.heap.size + 1) (j := 0) (x := .int .i64 999) (by omega)).poke (m := w.heap.size + 1) (j := 1) (x := .int .i64 x) (by omega); exact bodyPost_ret (v := .agg #[.int .i64 999, .int .i64 x]) (by simp [results, Try.results75, go_sem, z0, z1]) rfl ⟨_, x, ⟨(by omega), (by omega), hx2.1, hx2.2⟩, rfl, R9, Z.only⟩)
    | (have Z := (X.out.set 1 0 rfl (.int .i64 (-999))).set 1 1 rfl (.int .i64 x); have z0 := Z.cell 1 0 rfl rfl; have z1 := Z.cell 1 1 rfl rfl; have R9 := (R.out.poke (m := w.heap.size + 1) (j := 0) (x := .int .i64 (-999)) (by omega)).poke (m := w.heap.size + 1) (j := 1) (x := .int .i64 x) (by omega); exact bodyPost_ret (v := .agg #[.int .i64 (-999), .int .i64 x]) (by simp [results, Try.results75, go_sem, z0, z1]) rfl ⟨_, x, ⟨(by omega), (by omega), hx2.1, hx2.2⟩, rfl, R9, Z.only⟩)
    | (have Z := (X.out.set 1 0 rfl (.int .i64 (max (-999) (min 999 y)))).set 1 1 rfl (.int .i64 x); have z0 := Z.cell 1 0 rfl rfl; have z1 := Z.cell 1 1 rfl rfl; have R9 := (R.out.poke (m := w.heap.size + 1) (j := 0) (x := .int .i64 (max (-999) (min 999 y))) (by omega)).poke (m := w.heap.size + 1) (j := 1) (x := .int .i64 x) (by omega); exact bodyPost_ret (v := .agg #[.int .i64 (max (-999) (min 999 y)), .int .i64 x]) (by simp [results, Try.results75, go_sem, z0, z1]) rfl ⟨_, x, ⟨(by omega), (by omega), hx2.1, hx2.2⟩, rfl, R9, Z.only⟩)

/-- A drawn column, to be read, and an item. -/
def DrRi (w : World) (e : Ending) (w' : World) : Prop := ∃ (a1 a2 a3 : Option Addr) (c1 c2 c3 : Nat) (l r : List Int) (ps : List Pv) (f t : Int),
  e = .returned (.tuple #[.agg #[.slice a1 l.length c1, .slice a2 r.length c2, .slice a3 ps.length c3], .agg #[.int .i64 f, .int .i64 t]]) ∧ CU w' (.agg #[.slice a1 l.length c1, .slice a2 r.length c2, .slice a3 ps.length c3]) l r ps ∧ Wf l r ps 100 ∧ (-999 ≤ f ∧ f ≤ 999 ∧ 0 ≤ t ∧ t ≤ 999) ∧ Below w.heap.size w w'

set_option maxHeartbeats 8000000 in
theorem drRi_any (a : Option Addr) (len cap : Nat) (w : World) (hcode : CodeAt w a len cap) (hlen : len ≤ 1048576) : Calls Try.prog 27 #[.slice a len cap] w (DrRi w) := by
  have X := hide ((Kd.one [] w #[.slice none 0 0, .slice none 0 0, .slice none 0 0] 27).alloc #[.int .i64 0, .int .i64 0] 49)
  obtain ⟨w1, hw1⟩ : ∃ w1, w1 = (w.alloc (.cells #[.slice none 0 0, .slice none 0 0, .slice none 0 0] 27)).alloc (.cells #[.int .i64 0, .int .i64 0] 49) := ⟨_, rfl⟩
  rw [← hw1] at X
  simp only [List.cons_append, List.nil_append, World.size_alloc] at X
  have H := hide (hcode.below X.out.belowZ (Nat.le_refl _))
  have hz := hide (X.out.lt 1 rfl)
  clear hcode
  go_enter Try.func27, Try.ntmps27
  go_wp2_with fail
  rw [← hw1]
  clear hw1
  refine (new_any a len cap _ H.out hlen).mono ?_
  rintro e wa ⟨g, rfl, hr, hb⟩
  have R := hide hr
  have X := hide (X.out.up hb)
  have HG := hide (show w.heap.size + 1 < g from Nat.lt_of_lt_of_le hz.out hr.high)
  clear hr hb H
  go_wp2_with fail
  go_at_call 74
  refine (anyC_d _ a len cap g _ R.out).mono ?_
  rintro e wb ⟨a1, a2, a3, c1, c2, c3, l, r, ps, lo, rfl, hc, hlo, hA, hr, ho⟩
  have HLO := hide (Nat.lt_of_lt_of_le R.out.lt hlo)
  have HG0 := hide hr.lt
  have R := hide hr
  have X := hide (X.out.drawZ ho (by have := HG.out; omega) (by
    intro e he
    have := HG.out
    simp only [List.mem_cons, List.not_mem_nil, or_false] at he
    rcases he with rfl | rfl
    · simp only; omega
    · simp only; omega))
  have O := hide hc
  have HA := hide hA
  clear hr ho hc hlo hA
  have bl := below1 wb (.cells #[.slice a1 l.length c1, .slice a2 r.length c2, .slice a3 ps.length c3] 27)
  have X := hide (X.out.alloc #[.slice a1 l.length c1, .slice a2 r.length c2, .slice a3 ps.length c3] 27)
  have R := hide (R.out.alloc (.cells #[.slice a1 l.length c1, .slice a2 r.length c2, .slice a3 ps.length c3] 27))
  have O := hide (O.out.below bl)
  clear bl
  have HGM := hide (show g < wb.heap.size from HG0.out)
  clear HG0
  obtain ⟨wc, hwc⟩ : ∃ q, q = wb.alloc (.cells #[.slice a1 l.length c1, .slice a2 r.length c2, .slice a3 ps.length c3] 27) := ⟨_, rfl⟩
  obtain ⟨m, hm⟩ : ∃ q, q = wb.heap.size := ⟨_, rfl⟩
  rw [← hwc] at X R O
  rw [← hm] at X HGM
  simp only [List.cons_append, List.nil_append] at X
  go_wp2_with fail
  rw [← hwc]
  try rw [← hm]
  clear hwc hm
  have HNE := hide (show ∀ e ∈ ([(w.heap.size, #[.slice none 0 0, .slice none 0 0, .slice none 0 0], 27), (w.heap.size + 1, #[.int .i64 0, .int .i64 0], 49), (m, #[.slice a1 l.length c1, .slice a2 r.length c2, .slice a3 ps.length c3], 27)] : List (Nat × Array Value × TypeId)), e.1 ≠ g by
    intro e he
    have := HG.out
    have := HGM.out
    simp only [List.mem_cons, List.not_mem_nil, or_false] at he
    rcases he with rfl | rfl | rfl
    · simp only; omega
    · simp only; omega
    · simp only; omega)
  have KS := hide (fun (W : World) (h : Kd [] w W [(w.heap.size, #[.slice none 0 0, .slice none 0 0, .slice none 0 0], 27), (w.heap.size + 1, #[.int .i64 0, .int .i64 0], 49), (m, #[.slice a1 l.length c1, .slice a2 r.length c2, .slice a3 ps.length c3], 27)]) => show W.cell? ⟨m, 0, none⟩ = some (.slice a1 l.length c1) ∧ W.cell? ⟨m, 1, none⟩ = some (.slice a2 r.length c2) ∧ W.cell? ⟨m, 2, none⟩ = some (.slice a3 ps.length c3) ∧ W.cell? ⟨w.heap.size, 0, none⟩ = some (.slice none 0 0) ∧ W.cell? ⟨w.heap.size, 1, none⟩ = some (.slice none 0 0) ∧ W.cell? ⟨w.heap.size, 2, none⟩ = some (.slice none 0 0) ∧ W.frozen? ⟨w.heap.size, 0, none⟩ = false ∧ W.frozen? ⟨w.heap.size, 1, none⟩ = false ∧ W.frozen? ⟨w.heap.size, 2, none⟩ = false ∧ W.cell? ⟨w.heap.size + 1, 0, none⟩ = some (.int .i64 0) ∧ W.cell? ⟨w.heap.size + 1, 1, none⟩ = some (.int .i64 0) ∧ W.frozen? ⟨w.heap.size + 1, 0, none⟩ = false ∧ W.frozen? ⟨w.heap.size + 1, 1, none⟩ = false from ⟨h.cell 2 0 rfl rfl, h.cell 2 1 rfl rfl, h.cell 2 2 rfl rfl, h.cell 0 0 rfl rfl, h.cell 0 1 rfl rfl, h.cell 0 2 rfl rfl, h.free 0 0 rfl, h.free 0 1 rfl, h.free 0 2 rfl, h.cell 1 0 rfl rfl, h.cell 1 1 rfl rfl, h.free 1 0 rfl, h.free 1 1 rfl⟩)
  have hne := X.out.ne' 0 2 rfl rfl (by omega)
  have hne2 := fun e => hne (Eq.symm e)
  have hne3 := X.out.ne' 1 2 rfl rfl (by omega)
  have hne4 := fun e => hne3 (Eq.symm e)
  have hvl := hide HA.out.vl
  have hnl := hide HA.out.nl
  have c10 := (KS.out _ X.out).1
  have c11 := (KS.out _ X.out).2.1
  have c12 := (KS.out _ X.out).2.2.1
  go_upto_region 3 with fail
  have R := hide (R.out.drew')
  have X := hide X.out.drew
  have O := hide (O.out.below (Below.refl _ _).drew)
  clear c10 c11 c12
  obtain ⟨c10, c11, c12, c00, c01, c02, f00, f01, f02, r00, r01, g00, g01⟩ := KS.out _ X.out
  go_region_with (first
    | (go_at_call 75; refine (item10_d _ a len cap g _ R.out a1 a2 a3 c1 c2 c3 l r ps lo O.out HLO.out (by have := hnl.out; omega) hvl.out).mono ?_; rintro e wq ⟨f, t, hft, rfl, hr, ho⟩; have hft := hide hft; replace R := hide hr; replace X := hide (X.out.drawZ ho (by have := HG.out; omega) HNE.out); replace O := hide (O.out.only ho HLO.out); clear hr ho c10 c11 c12 c00 c01 c02 f00 f01 f02 r00 r01 g00 g01; obtain ⟨c10, c11, c12, c00, c01, c02, f00, f01, f02, r00, r01, g00, g01⟩ := KS.out _ X.out))
  all_goals
    obtain ⟨k1, k2, k3, k4⟩ := hft.out
    clear k1 k2 k3 k4
    have Z := ((((X.out.set 0 0 rfl (.slice a1 l.length c1)).set 0 1 rfl (.slice a2 r.length c2)).set 0 2 rfl (.slice a3 ps.length c3)).set 1 0 rfl (.int .i64 f)).set 1 1 rfl (.int .i64 t)
    have z0 := Z.cell 0 0 rfl rfl
    have z1 := Z.cell 0 1 rfl rfl
    have z2 := Z.cell 0 2 rfl rfl
    have z3 := Z.cell 1 0 rfl rfl
    have z4 := Z.cell 1 1 rfl rfl
    have Q9 := ((O.out.seg (seg3 _ w.heap.size (.slice a1 l.length c1) (.slice a2 r.length c2) (.slice a3 ps.length c3)) (by have := HG.out; have := HLO.out; omega)).seg (Seg.setCell _ (w.heap.size + 1) 0 (.int .i64 f)) (by have := HG.out; have := HLO.out; omega)).seg (Seg.setCell _ (w.heap.size + 1) 1 (.int .i64 t)) (by have := HG.out; have := HLO.out; omega)
    go_wp2_with fail
    exact bodyPost_ret (v := .tuple #[.agg #[.slice a1 l.length c1, .slice a2 r.length c2, .slice a3 ps.length c3], .agg #[.int .i64 f, .int .i64 t]]) (by simp [results, Try.results27, go_sem, z0, z1, z2, z3, z4]) rfl ⟨a1, a2, a3, c1, c2, c3, l, r, ps, f, t, rfl, Q9.cu, HA.out.wfZ, hft.out, Z.belowZ⟩


/-- A drawn column, to be read, and a row. -/
def DrRd (w : World) (e : Ending) (w' : World) : Prop := ∃ (a1 a2 a3 : Option Addr) (c1 c2 c3 : Nat) (l r : List Int) (ps : List Pv) (x : Int),
  e = .returned (.tuple #[.agg #[.slice a1 l.length c1, .slice a2 r.length c2, .slice a3 ps.length c3], .int .i64 x]) ∧ CU w' (.agg #[.slice a1 l.length c1, .slice a2 r.length c2, .slice a3 ps.length c3]) l r ps ∧ Wf l r ps 100 ∧ -1 ≤ x ∧ x ≤ 1000 ∧ Below w.heap.size w w'

set_option maxHeartbeats 8000000 in
theorem drRd_any (a : Option Addr) (len cap : Nat) (w : World) (hcode : CodeAt w a len cap) (hlen : len ≤ 1048576) : Calls Try.prog 33 #[.slice a len cap] w (DrRd w) := by
  have X := hide (Kd.one [] w #[.slice none 0 0, .slice none 0 0, .slice none 0 0] 27)
  obtain ⟨w1, hw1⟩ : ∃ w1, w1 = w.alloc (.cells #[.slice none 0 0, .slice none 0 0, .slice none 0 0] 27) := ⟨_, rfl⟩
  rw [← hw1] at X
  have H := hide (hcode.below X.out.belowZ (Nat.le_refl _))
  have hz := hide (X.out.lt 0 rfl)
  clear hcode
  go_enter Try.func33, Try.ntmps33
  go_wp2_with fail
  rw [← hw1]
  clear hw1
  refine (new_any a len cap _ H.out hlen).mono ?_
  rintro e wa ⟨g, rfl, hr, hb⟩
  have R := hide hr
  have X := hide (X.out.up hb)
  have HG := hide (show w.heap.size < g from Nat.lt_of_lt_of_le hz.out hr.high)
  clear hr hb H
  go_wp2_with fail
  go_at_call 74
  refine (anyC_d _ a len cap g _ R.out).mono ?_
  rintro e wb ⟨a1, a2, a3, c1, c2, c3, l, r, ps, lo, rfl, hc, hlo, hA, hr, ho⟩
  have HLO := hide (Nat.lt_of_lt_of_le R.out.lt hlo)
  have HG0 := hide hr.lt
  have R := hide hr
  have X := hide (X.out.drawZ ho (Nat.le_of_lt HG.out) (by intro e he; simp at he; subst he; have := HG.out; simp only; omega))
  have O := hide hc
  have HA := hide hA
  clear hr ho hc hlo hA
  have bl := below1 wb (.cells #[.slice a1 l.length c1, .slice a2 r.length c2, .slice a3 ps.length c3] 27)
  have X := hide (X.out.alloc #[.slice a1 l.length c1, .slice a2 r.length c2, .slice a3 ps.length c3] 27)
  have R := hide (R.out.alloc (.cells #[.slice a1 l.length c1, .slice a2 r.length c2, .slice a3 ps.length c3] 27))
  have O := hide (O.out.below bl)
  clear bl
  have HGM := hide (show g < wb.heap.size from HG0.out)
  clear HG0
  obtain ⟨wc, hwc⟩ : ∃ q, q = wb.alloc (.cells #[.slice a1 l.length c1, .slice a2 r.length c2, .slice a3 ps.length c3] 27) := ⟨_, rfl⟩
  obtain ⟨m, hm⟩ : ∃ q, q = wb.heap.size := ⟨_, rfl⟩
  rw [← hwc] at X R O
  rw [← hm] at X HGM
  simp only [List.cons_append, List.nil_append] at X
  go_wp2_with fail
  rw [← hwc]
  try rw [← hm]
  clear hwc hm
  have HNE := hide (show ∀ e ∈ ([(w.heap.size, #[.slice none 0 0, .slice none 0 0, .slice none 0 0], 27), (m, #[.slice a1 l.length c1, .slice a2 r.length c2, .slice a3 ps.length c3], 27)] : List (Nat × Array Value × TypeId)), e.1 ≠ g by
    intro e he
    have := HG.out
    have := HGM.out
    simp only [List.mem_cons, List.not_mem_nil, or_false] at he
    rcases he with rfl | rfl
    · simp only; omega
    · simp only; omega)
  have KS := hide (fun (W : World) (h : Kd [] w W [(w.heap.size, #[.slice none 0 0, .slice none 0 0, .slice none 0 0], 27), (m, #[.slice a1 l.length c1, .slice a2 r.length c2, .slice a3 ps.length c3], 27)]) => show W.cell? ⟨m, 0, none⟩ = some (.slice a1 l.length c1) ∧ W.cell? ⟨m, 1, none⟩ = some (.slice a2 r.length c2) ∧ W.cell? ⟨m, 2, none⟩ = some (.slice a3 ps.length c3) ∧ W.cell? ⟨w.heap.size, 0, none⟩ = some (.slice none 0 0) ∧ W.cell? ⟨w.heap.size, 1, none⟩ = some (.slice none 0 0) ∧ W.cell? ⟨w.heap.size, 2, none⟩ = some (.slice none 0 0) ∧ W.frozen? ⟨w.heap.size, 0, none⟩ = false ∧ W.frozen? ⟨w.heap.size, 1, none⟩ = false ∧ W.frozen? ⟨w.heap.size, 2, none⟩ = false from ⟨h.cell 1 0 rfl rfl, h.cell 1 1 rfl rfl, h.cell 1 2 rfl rfl, h.cell 0 0 rfl rfl, h.cell 0 1 rfl rfl, h.cell 0 2 rfl rfl, h.free 0 0 rfl, h.free 0 1 rfl, h.free 0 2 rfl⟩)
  have hne := X.out.ne' 0 1 rfl rfl (by omega)
  have hne2 := fun e => hne (Eq.symm e)
  have R0 := R
  have X0 := X
  have O0 := O
  obtain ⟨c10, c11, c12, c00, c01, c02, f00, f01, f02⟩ := KS.out _ X.out
  go_upto_region 3 with fail
  have R := hide (R.out.drew')
  have X := hide X.out.drew
  have O := hide (O.out.below (Below.refl _ _).drew)
  clear c10 c11 c12 c00 c01 c02 f00 f01 f02
  obtain ⟨c10, c11, c12, c00, c01, c02, f00, f01, f02⟩ := KS.out _ X.out
  go_region_with (first
    | (go_at_call 81; refine (below_d _ a len cap g _ R.out 12 (by omega) (by omega)).mono ?_; rintro e wq ⟨x, hx, rfl, hr, ho⟩; have hx0 : 0 ≤ x := hx.1; have hx1 : x < 12 := hx.2; have hx := hide hx; replace R := hide hr; replace X := hide (X.out.drawZ ho (Nat.le_of_lt HG.out) HNE.out); replace O := hide (O.out.only ho HLO.out); clear hr ho c10 c11 c12 c00 c01 c02 f00 f01 f02; obtain ⟨c10, c11, c12, c00, c01, c02, f00, f01, f02⟩ := KS.out _ X.out))
  all_goals
    have Z := ((X.out.set 0 0 rfl (.slice a1 l.length c1)).set 0 1 rfl (.slice a2 r.length c2)).set 0 2 rfl (.slice a3 ps.length c3)
    have z0 := Z.cell 0 0 rfl rfl
    have z1 := Z.cell 0 1 rfl rfl
    have z2 := Z.cell 0 2 rfl rfl
    have Q9 := O.out.seg (seg3 _ w.heap.size (.slice a1 l.length c1) (.slice a2 r.length c2) (.slice a3 ps.length c3)) (by have := HG.out; have := HLO.out; omega)
    go_wp2_with fail
    have hxw : IntKind.i64.wrap (x - 1) = x - 1 := IntWalk.i64_in _ (by omega)
    exact bodyPost_ret (v := .tuple #[.agg #[.slice a1 l.length c1, .slice a2 r.length c2, .slice a3 ps.length c3], .int .i64 (x - 1)]) (by simp [results, Try.results33, go_sem, z0, z1, z2, hxw]) rfl ⟨a1, a2, a3, c1, c2, c3, l, r, ps, x - 1, rfl, Q9.cu, HA.out.wfZ, by have := hx.out; omega, by have := hx.out; omega, Z.belowZ⟩


end Go.Proofs.Ytajfhalalnlejaa

/- Inserting and deleting keep a column valid; the elements and the places of the pivots behind them (promise 7); any program. -/
namespace Go.Proofs.Ytajfhalalnlejaa
open Go.RowKit Go.ChangeShapes
set_option linter.unusedSimpArgs false
set_option linter.unusedVariables false
set_option maxRecDepth 100000

theorem cons_erase {α : Type} : ∀ (L : List α) (i : Nat) (h : i < L.length), (L[i] :: L.eraseIdx i).Perm L
  | x :: L, 0, _ => .refl _
  | x :: L, i + 1, h => by
    have hi : i < L.length := by simpa using h
    have ih := cons_erase L i hi
    show (L[i] :: x :: L.eraseIdx i).Perm (x :: L)
    exact (List.Perm.swap x L[i] _).trans (ih.cons x)

/-- An element moved into a hole: without the holes, the same elements. -/
theorem erase_move {α : Type} (L : List α) (h a : Nat) (hh : h < L.length) (ha : a < L.length) (hne : a ≠ h) : ((L.set h L[a]).eraseIdx a).Perm (L.eraseIdx h) := by
  have p := set_set_perm' L h a hh ha
  have e1 : ((L.set h L[a]).set a L[h]).eraseIdx a = (L.set h L[a]).eraseIdx a := List.eraseIdx_set_eq
  have q1 := cons_erase ((L.set h L[a]).set a L[h]) a (by simpa using ha)
  have q2 := cons_erase L h hh
  rw [e1, List.getElem_set_self] at q1
  exact (List.perm_cons L[h]).1 ((q1.trans p).trans q2.symm)

theorem zip_set (l r : List Int) (h : Nat) (x y : Int) : (l.set h x).zip (r.set h y) = (l.zip r).set h (x, y) := by
  apply List.ext_getElem?
  intro i
  by_cases e : i = h
  · subst e
    by_cases c1 : i < l.length
    · by_cases c2 : i < r.length
      · rw [List.getElem?_set_self (by simp; omega)]
        rw [List.getElem?_eq_getElem (by simp; omega)]
        simp
      · rw [List.getElem?_eq_none (by simp; omega), List.getElem?_eq_none (by simp; omega)]
    · rw [List.getElem?_eq_none (by simp; omega), List.getElem?_eq_none (by simp; omega)]
  · rw [List.getElem?_set_ne (Ne.symm e)]
    simp only [List.zip, List.getElem?_zipWith, List.getElem?_set_ne (Ne.symm e)]

/-- The pairs of a column without the one in the hole. -/
def RP.prs (S : RP) : List (Int × Int) := (S.l.zip S.r).eraseIdx S.h

theorem RP.prs_fill {S : RP} {m a : Nat} (hl : S.l.length = m) (hr : S.r.length = m) (hh : S.h < m) (ha : a < m) : (S.fill a).prs.Perm S.prs := by
  unfold RP.prs RP.fill
  by_cases e : a = S.h
  · rw [if_pos e]
  · rw [if_neg e]
    simp only
    have hz : (S.l.zip S.r).length = m := by simp; omega
    have e2 : (S.l.getD a 0, S.r.getD a 0) = (S.l.zip S.r)[a]'(by omega) := by
      rw [List.getElem_zip, List.getD_eq_getElem?_getD, List.getD_eq_getElem?_getD, List.getElem?_eq_getElem (by omega), List.getElem?_eq_getElem (by omega)]; rfl
    rw [zip_set, e2]
    exact erase_move _ _ _ (by omega) (by omega) e

theorem RP.prs_at (S : RP) (k : Nat) (p : Int) : (S.at k p).prs = S.prs := rfl

theorem RP.prs_put {S : RP} {m : Nat} {v row : Int} (hl : S.l.length = m) (hr : S.r.length = m) (hh : S.h < m) : ((S.put v row).l.zip (S.put v row).r).Perm ((v, row) :: S.prs) := by
  unfold RP.put RP.prs
  simp only
  rw [zip_set]
  have q := cons_erase ((S.l.zip S.r).set S.h (v, row)) S.h (by simp; omega)
  rw [List.getElem_set_self, List.eraseIdx_set_eq] at q
  exact q.symm

/-- The places of the pivots above v, moved by d. -/
def shiftP (d v : Int) (ps : List Pv) : List Pv := ps.map fun p => if v < p.1 then (p.1, p.2 + d) else p

theorem shiftP_length (d v : Int) (ps : List Pv) : (shiftP d v ps).length = ps.length := by simp [shiftP]

/-- Pivot j of a list of pivots. -/
abbrev pvAt (ps : List Pv) (j : Nat) : Pv := ps.getD j (0, 0)

theorem pvAt_set {ps : List Pv} {k j : Nat} {p : Pv} (hk : k < ps.length) : pvAt (ps.set k p) j = if j = k then p else pvAt ps j := by
  unfold pvAt
  rw [List.getD_eq_getElem?_getD, List.getD_eq_getElem?_getD]
  by_cases e : j = k
  · subst e; rw [if_pos rfl, List.getElem?_set_self hk]; rfl
  · rw [if_neg e, List.getElem?_set_ne (Ne.symm e)]

theorem pvAt_shift {d v : Int} {ps : List Pv} {j : Nat} (hj : j < ps.length) : pvAt (shiftP d v ps) j = if v < (pvAt ps j).1 then ((pvAt ps j).1, (pvAt ps j).2 + d) else pvAt ps j := by
  unfold pvAt shiftP
  simp only [List.getD_eq_getElem?_getD, List.getElem?_map, List.getElem?_eq_getElem hj, Option.map_some, Option.getD_some]

theorem pvs_ext {a b : List Pv} (hl : a.length = b.length) (h : ∀ j, j < a.length → pvAt a j = pvAt b j) : a = b := by
  apply List.ext_getElem hl
  intro j h1 h2
  have := h j h1
  unfold pvAt at this
  rw [List.getD_eq_getElem?_getD, List.getD_eq_getElem?_getD, List.getElem?_eq_getElem h1, List.getElem?_eq_getElem h2] at this
  exact this

theorem getD_set {l : List Int} {h i : Nat} {x : Int} (hh : h < l.length) : (l.set h x).getD i 0 = if i = h then x else l.getD i 0 := by
  rw [List.getD_eq_getElem?_getD, List.getD_eq_getElem?_getD]
  by_cases e : i = h
  · subst e; rw [if_pos rfl, List.getElem?_set_self hh]; rfl
  · rw [if_neg e, List.getElem?_set_ne (Ne.symm e)]

/-- The pivots of a valid column, in the words of these texts. -/
structure PvA (l : List Int) (ps : List Pv) : Prop where
  asc : ∀ i j, i < j → j < ps.length → (pvAt ps i).1 < (pvAt ps j).1
  val : ∀ j, j < ps.length → -1001 < (pvAt ps j).1 ∧ (pvAt ps j).1 ≤ 1000
  place : ∀ j, j < ps.length → 0 ≤ (pvAt ps j).2 ∧ (pvAt ps j).2 ≤ l.length
  fit : ∀ j, j < ps.length → ∀ i, i < l.length → (l.getD i 0 < (pvAt ps j).1 ↔ (i : Int) < (pvAt ps j).2)

theorem pvAt_get {ps : List Pv} {j : Nat} (h : j < ps.length) : pvAt ps j = ps[j] := by
  unfold pvAt
  rw [List.getD_eq_getElem?_getD, List.getElem?_eq_getElem h]; rfl

theorem pvA_iff {l : List Int} {ps : List Pv} : PvsOk l ps ↔ PvA l ps := by
  rw [pvsOk_asc]
  constructor
  · rintro ⟨h1, h2⟩
    refine ⟨fun i j hij hj => ?_, fun j hj => ?_, fun j hj => ?_, fun j hj i hi => ?_⟩
    · rw [pvAt_get (show i < ps.length by omega), pvAt_get hj]
      exact List.pairwise_iff_getElem.1 h1 i j (by omega) hj hij
    · rw [pvAt_get hj]; have := h2 _ (List.getElem_mem hj); exact ⟨this.1, this.2.1⟩
    · rw [pvAt_get hj]; have := (h2 _ (List.getElem_mem hj)).2.2; exact ⟨this.1, this.2.1⟩
    · rw [pvAt_get hj, List.getD_eq_getElem?_getD, List.getElem?_eq_getElem hi]
      exact (h2 _ (List.getElem_mem hj)).2.2.2.2 i hi
  · rintro ⟨h1, h2, h3, h4⟩
    refine ⟨List.pairwise_iff_getElem.2 fun i j hi hj hij => ?_, fun q hq => ?_⟩
    · have := h1 i j hij hj
      rwa [pvAt_get hi, pvAt_get hj] at this
    · obtain ⟨j, hj, rfl⟩ := List.getElem_of_mem hq
      have a := h2 j hj
      have b := h3 j hj
      rw [pvAt_get hj] at a b
      refine ⟨a.1, a.2, b.1, b.2, fun i hi => ?_⟩
      have c := h4 j hj i hi
      rwa [pvAt_get hj, List.getD_eq_getElem?_getD, List.getElem?_eq_getElem hi] at c

theorem PvA.mono {l : List Int} {ps : List Pv} (h : PvA l ps) {i j : Nat} (hij : i ≤ j) (hj : j < ps.length) : (pvAt ps i).2 ≤ (pvAt ps j).2 := by
  by_cases e : i = j
  · subst e; exact Int.le_refl _
  · have hv := h.asc i j (by omega) hj
    have pi := h.place i (by omega)
    have pj := h.place j hj
    by_cases c : (pvAt ps i).2 ≤ (pvAt ps j).2
    · exact c
    · exfalso
      have f1 := (h.fit i (by omega) (pvAt ps j).2.toNat (by omega)).2 (by omega)
      have f2 := (h.fit j hj (pvAt ps j).2.toNat (by omega)).1 (by omega)
      omega

/-- While an item of value v is put in: pivots from number k on have moved up. -/
structure InsI (l r : List Int) (ps : List Pv) (v : Int) (k : Nat) (S : RP) : Prop where
  l' : S.l.length = l.length + 1
  r' : S.r.length = l.length + 1
  p' : S.ps.length = ps.length
  h' : S.h ≤ l.length
  kp : k ≤ ps.length
  n' : S.n + k ≤ ps.length
  prs : S.prs.Perm (l.zip r)
  low : ∀ j, j < k → pvAt S.ps j = pvAt ps j ∧ (pvAt ps j).2 ≤ S.h
  high : ∀ j, k ≤ j → j < ps.length → pvAt S.ps j = ((pvAt ps j).1, (pvAt ps j).2 + 1) ∧ (S.h : Int) < (pvAt ps j).2 + 1 ∧ v < (pvAt ps j).1
  fit : ∀ j, j < ps.length → ∀ i, i ≤ l.length → i ≠ S.h → (S.l.getD i 0 < (pvAt S.ps j).1 ↔ (i : Int) < (pvAt S.ps j).2)

theorem fill_len (S : RP) (a : Nat) : (S.fill a).l.length = S.l.length ∧ (S.fill a).r.length = S.r.length := by
  unfold RP.fill
  split <;> simp

theorem fill_get {S : RP} {a i : Nat} (hh : S.h < S.l.length) (hi : i ≠ a) : (S.fill a).l.getD i 0 = if i = S.h then S.l.getD a 0 else S.l.getD i 0 := by
  unfold RP.fill
  by_cases e : a = S.h
  · rw [if_pos e, if_neg (by omega)]
  · rw [if_neg e]
    exact getD_set hh

theorem InsI.start {l r : List Int} {ps : List Pv} {v : Int} (h : isCk l r ps = true) : InsI l r ps v ps.length ⟨l ++ [0], r ++ [0], ps, l.length, 0⟩ := by
  obtain ⟨c1, c2, c3, c4⟩ := isCk_parts h
  have A := pvA_iff.1 c4
  refine ⟨by simp, by simp [c2], rfl, Nat.le_refl _, Nat.le_refl _, by simp, ?_, fun j hj => ⟨rfl, (A.place j hj).2⟩, fun j h1 h2 => by omega, fun j hj i hi hne => ?_⟩
  · unfold RP.prs
    simp only
    have e : (l ++ [0]).zip (r ++ [0]) = l.zip r ++ [(0, 0)] := by rw [List.zip_append c2.symm]; rfl
    rw [e, List.eraseIdx_append_of_length_le (by simp; omega)]
    have : l.length - (l.zip r).length = 0 := by simp; omega
    rw [this]
    simp
  · simp only at hne ⊢
    have hil : i < l.length := by omega
    have e : (l ++ [0]).getD i 0 = l.getD i 0 := by
      rw [List.getD_eq_getElem?_getD, List.getD_eq_getElem?_getD, List.getElem?_append_left hil]
    rw [e]
    exact A.fit j hj i hil

theorem InsI.step {l r : List Int} {ps : List Pv} {v : Int} {k : Nat} {S : RP} (A : PvA l ps) (h : InsI l r ps v (k + 1) S) (hv : v < (pvAt S.ps k).1) : InsI l r ps v k (S.up k) := by
  obtain ⟨h1, h2, h3, h4, h5, h6, h7, h8, h9, h10⟩ := h
  obtain ⟨q1, q2⟩ := h8 k (by omega)
  have pk := A.place k (by omega)
  have epl : S.pl k = (pvAt ps k).2 := by unfold RP.pl; exact congrArg Prod.snd q1
  obtain ⟨a, ha⟩ : ∃ a : Nat, (pvAt ps k).2 = (a : Int) := ⟨(pvAt ps k).2.toNat, by omega⟩
  have eup : S.up k = (S.fill a).at k ((a : Int) + 1) := by unfold RP.up; rw [epl, ha]; rfl
  rw [eup]
  obtain ⟨f1, f2⟩ := fill_len S a
  have hp : (S.fill a).ps = S.ps := S.fill_ps a
  have hps : ∀ j, pvAt ((S.fill a).at k ((a : Int) + 1)).ps j = if j = k then ((pvAt S.ps k).1, (a : Int) + 1) else pvAt S.ps j := by
    intro j
    unfold RP.at
    simp only
    rw [hp]
    exact pvAt_set (by omega)
  have hh : ((S.fill a).at k ((a : Int) + 1)).h = a := S.fill_h a
  refine ⟨by show (S.fill a).l.length = _; omega, by show (S.fill a).r.length = _; omega, by unfold RP.at; simp [hp, h3], by rw [hh]; omega, by omega, ?_, ?_, fun j hj => ?_, fun j hj1 hj2 => ?_, fun j hj i hi hne => ?_⟩
  · have := S.fill_n a
    show (S.fill a).n + k ≤ _
    omega
  · rw [RP.prs_at]
    exact (RP.prs_fill (m := l.length + 1) h1 h2 (by omega) (by omega)).trans h7
  · obtain ⟨w1, w2⟩ := h8 j (by omega)
    rw [hps, if_neg (by omega), hh]
    have := A.mono (i := j) (j := k) (by omega) (by omega)
    exact ⟨w1, by omega⟩
  · rw [hps, hh]
    by_cases e : j = k
    · subst e
      rw [if_pos rfl, q1]
      refine ⟨by rw [ha], by omega, ?_⟩
      rw [q1] at hv
      exact hv
    · obtain ⟨w1, w2, w3⟩ := h9 j (by omega) hj2
      rw [if_neg e]
      have := A.mono (i := k) (j := j) (by omega) hj2
      exact ⟨w1, by omega, w3⟩
  · rw [hh] at hne
    have eg : ((S.fill a).at k ((a : Int) + 1)).l.getD i 0 = if i = S.h then S.l.getD a 0 else S.l.getD i 0 := fill_get (by omega) hne
    rw [eg, hps]
    by_cases ei : i = S.h
    · subst ei
      rw [if_pos rfl]
      have hfa : ∀ j, j < ps.length → (S.l.getD a 0 < (pvAt S.ps j).1 ↔ (a : Int) < (pvAt S.ps j).2) := fun j hj => h10 j hj a (by omega) (by omega)
      by_cases ej : j = k
      · subst ej
        have := hfa j hj
        rw [q1] at this
        rw [if_pos rfl, q1]
        simp only
        constructor
        · intro x; have := this.1 x; omega
        · intro x; omega
      · rw [if_neg ej]
        have hj2 := hfa j hj
        by_cases c : j < k
        · obtain ⟨w1, w2⟩ := h8 j (by omega)
          have mo := A.mono (i := j) (j := k) (by omega) (by omega)
          rw [w1] at hj2 ⊢
          constructor
          · intro x; have := hj2.1 x; omega
          · intro x; omega
        · obtain ⟨w1, w2, w3⟩ := h9 j (by omega) hj
          have mo := A.mono (i := k) (j := j) (by omega) hj
          rw [w1] at hj2 ⊢
          simp only at hj2 ⊢
          constructor
          · intro x; omega
          · intro x; exact hj2.2 (by omega)
    · rw [if_neg ei]
      by_cases ej : j = k
      · subst ej
        have := h10 j hj i hi ei
        rw [q1] at this
        rw [if_pos rfl, q1]
        simp only
        constructor
        · intro x; have := this.1 x; omega
        · intro x; exact this.2 (by omega)
      · rw [if_neg ej]
        exact h10 j hj i hi ei

/-- What is left when the pivots above v have moved up. -/
theorem ins_end {l r : List Int} {ps : List Pv} {v : Int} (A : PvA l ps) : ∀ (k : Nat) (S : RP), InsI l r ps v k S → ∃ k', InsI l r ps v k' (RP.ups v k S) ∧ ∀ j, j < k' → (pvAt ps j).1 ≤ v
  | 0, S, h => ⟨0, h, fun j hj => by omega⟩
  | k + 1, S, h => by
    unfold RP.ups
    by_cases c : v < (S.ps.getD k (0, 0)).1
    · rw [if_pos c]
      exact ins_end A k _ (h.step A c)
    · rw [if_neg c]
      refine ⟨k + 1, h, fun j hj => ?_⟩
      have hk := h.kp
      obtain ⟨w1, -⟩ := h.low k (by omega)
      have : (pvAt S.ps k).1 = (pvAt ps k).1 := by rw [w1]
      have c2 : ¬ v < (pvAt S.ps k).1 := c
      by_cases e : j = k
      · subst e; omega
      · have := A.asc j k (by omega) (by omega)
        omega

/-- While an element of value v is taken out: pivots above v before number i have moved down. -/
structure DelI (l r : List Int) (ps : List Pv) (v : Int) (p0 : List (Int × Int)) (i : Nat) (S : RP) : Prop where
  l' : S.l.length = l.length
  r' : S.r.length = l.length
  p' : S.ps.length = ps.length
  h' : S.h < l.length
  ip : i ≤ ps.length
  n' : S.n ≤ i
  prs : S.prs.Perm p0
  low : ∀ j, j < i → pvAt S.ps j = (if v < (pvAt ps j).1 then ((pvAt ps j).1, (pvAt ps j).2 - 1) else pvAt ps j) ∧ (pvAt S.ps j).2 ≤ S.h
  high : ∀ j, i ≤ j → j < ps.length → pvAt S.ps j = pvAt ps j ∧ (v < (pvAt ps j).1 → (S.h : Int) < (pvAt ps j).2) ∧ (¬ v < (pvAt ps j).1 → (pvAt ps j).2 ≤ S.h)
  fit : ∀ j, j < ps.length → ∀ x, x < l.length → x ≠ S.h → (S.l.getD x 0 < (pvAt S.ps j).1 ↔ (x : Int) < (pvAt S.ps j).2)

theorem DelI.start {l r : List Int} {ps : List Pv} {ix : Nat} (h : isCk l r ps = true) (hix : ix < l.length) : DelI l r ps (l.getD ix 0) ((l.zip r).eraseIdx ix) 0 ⟨l, r, ps, ix, 0⟩ := by
  obtain ⟨c1, c2, c3, c4⟩ := isCk_parts h
  have A := pvA_iff.1 c4
  refine ⟨rfl, c2, rfl, hix, Nat.zero_le _, Nat.le_refl _, .refl _, fun j hj => by omega, fun j _ hj => ⟨rfl, fun hv => ?_, fun hv => ?_⟩, fun j hj x hx _ => A.fit j hj x hx⟩
  · exact (A.fit j hj ix hix).1 hv
  · have := A.fit j hj ix hix
    by_cases c : (pvAt ps j).2 ≤ (ix : Int)
    · exact c
    · exact absurd (this.2 (by omega)) hv

theorem DelI.skip {l r : List Int} {ps : List Pv} {v : Int} {p0 : List (Int × Int)} {i : Nat} {S : RP} (h : DelI l r ps v p0 i S) (hi : i < ps.length) (hv : ¬ v < (pvAt S.ps i).1) : DelI l r ps v p0 (i + 1) S := by
  obtain ⟨h1, h2, h3, h4, h5, h6, h7, h8, h9, h10⟩ := h
  obtain ⟨q1, q2, q3⟩ := h9 i (Nat.le_refl _) hi
  rw [q1] at hv
  refine ⟨h1, h2, h3, h4, by omega, by omega, h7, fun j hj => ?_, fun j hj1 hj2 => h9 j (by omega) hj2, h10⟩
  by_cases e : j = i
  · subst e
    rw [if_neg hv, q1]
    exact ⟨rfl, q3 hv⟩
  · exact h8 j (by omega)

theorem DelI.step {l r : List Int} {ps : List Pv} {v : Int} {p0 : List (Int × Int)} {k : Nat} {S : RP} (A : PvA l ps) (h : DelI l r ps v p0 k S) (hk : k < ps.length) (hv : v < (pvAt S.ps k).1) : DelI l r ps v p0 (k + 1) (S.down k) := by
  obtain ⟨h1, h2, h3, h4, h5, h6, h7, h8, h9, h10⟩ := h
  obtain ⟨q1, q2, -⟩ := h9 k (Nat.le_refl _) hk
  have hv' : v < (pvAt ps k).1 := by rwa [q1] at hv
  have q2 := q2 hv'
  have pk := A.place k hk
  have epl : S.pl k = (pvAt ps k).2 := by unfold RP.pl; exact congrArg Prod.snd q1
  obtain ⟨a, ha⟩ : ∃ a : Nat, (pvAt ps k).2 = (a : Int) + 1 := ⟨((pvAt ps k).2 - 1).toNat, by omega⟩
  have edn : S.down k = (S.fill a).at k (a : Int) := by
    unfold RP.down
    rw [epl, ha, show ((a : Int) + 1 - 1) = (a : Int) by omega]
    rfl
  rw [edn]
  obtain ⟨f1, f2⟩ := fill_len S a
  have hp : (S.fill a).ps = S.ps := S.fill_ps a
  have hps : ∀ j, pvAt ((S.fill a).at k (a : Int)).ps j = if j = k then ((pvAt S.ps k).1, (a : Int)) else pvAt S.ps j := by
    intro j
    unfold RP.at
    simp only
    rw [hp]
    exact pvAt_set (by omega)
  have hh : ((S.fill a).at k (a : Int)).h = a := S.fill_h a
  refine ⟨by show (S.fill a).l.length = _; omega, by show (S.fill a).r.length = _; omega, by unfold RP.at; simp [hp, h3], by rw [hh]; omega, by omega, ?_, ?_, fun j hj => ?_, fun j hj1 hj2 => ?_, fun j hj x hx hne => ?_⟩
  · have := S.fill_n a
    show (S.fill a).n ≤ _
    omega
  · rw [RP.prs_at]
    exact (RP.prs_fill (m := l.length) h1 h2 h4 (by omega)).trans h7
  · rw [hps, hh]
    by_cases e : j = k
    · subst e
      rw [if_pos rfl, if_pos hv', q1]
      exact ⟨by rw [ha]; congr 1; omega, Int.le_refl _⟩
    · obtain ⟨w1, w2⟩ := h8 j (by omega)
      rw [if_neg e]
      exact ⟨w1, by omega⟩
  · obtain ⟨w1, w2, w3⟩ := h9 j (by omega) hj2
    rw [hps, if_neg (by omega), hh]
    have mo := A.mono (i := k) (j := j) (by omega) hj2
    have hasc := A.asc k j (by omega) hj2
    exact ⟨w1, fun _ => by omega, fun c => absurd (show v < (pvAt ps j).1 by omega) c⟩
  · rw [hh] at hne
    have eg : ((S.fill a).at k (a : Int)).l.getD x 0 = if x = S.h then S.l.getD a 0 else S.l.getD x 0 := fill_get (by omega) hne
    rw [eg, hps]
    by_cases ex : x = S.h
    · subst ex
      rw [if_pos rfl]
      have hfa : ∀ j, j < ps.length → (S.l.getD a 0 < (pvAt S.ps j).1 ↔ (a : Int) < (pvAt S.ps j).2) := fun j hj => h10 j hj a (by omega) (by omega)
      have hj2 := hfa j hj
      by_cases ej : j = k
      · subst ej
        rw [if_pos rfl]
        rw [q1] at hj2 ⊢
        simp only
        constructor
        · intro _; omega
        · intro _; exact hj2.2 (by omega)
      · rw [if_neg ej]
        by_cases c : j < k
        · obtain ⟨w1, w2⟩ := h8 j c
          constructor
          · intro y; have := hj2.1 y; omega
          · intro y; omega
        · obtain ⟨w1, -, -⟩ := h9 j (by omega) hj
          have mo := A.mono (i := k) (j := j) (by omega) hj
          rw [w1] at hj2 ⊢
          constructor
          · intro _; omega
          · intro _; exact hj2.2 (by omega)
    · rw [if_neg ex]
      by_cases ej : j = k
      · subst ej
        have := h10 j hj x hx ex
        rw [if_pos rfl]
        rw [q1] at this ⊢
        simp only
        constructor
        · intro y; have := this.1 y; omega
        · intro y; exact this.2 (by omega)
      · rw [if_neg ej]
        exact h10 j hj x hx ex

theorem del_end {l r : List Int} {ps : List Pv} {v : Int} {p0 : List (Int × Int)} (A : PvA l ps) : ∀ (m i : Nat) (S : RP), i + m = ps.length → DelI l r ps v p0 i S → DelI l r ps v p0 ps.length (RP.downs v m i S)
  | 0, i, S, he, h => by
    have : i = ps.length := by omega
    subst this
    exact h
  | m + 1, i, S, he, h => by
    unfold RP.downs
    by_cases c : v < (S.ps.getD i (0, 0)).1
    · rw [if_pos c]
      exact del_end A m (i + 1) _ (by omega) (h.step A (by omega) c)
    · rw [if_neg c]
      exact del_end A m (i + 1) _ (by omega) (h.skip (by omega) c)

theorem rowAt_mem {r : List Int} {v : Int} (h : v ∈ r) : 0 ≤ rowAt r v := by
  have : idxL r v < r.length := by
    induction r with
    | nil => simp at h
    | cons x r ih =>
      unfold idxL
      by_cases e : x = v
      · rw [if_pos e]; simp
      · rw [if_neg e]
        have := ih (by rcases List.mem_cons.1 h with h | h; exact absurd h.symm e; exact h)
        simp only [List.length_cons]
        omega
  unfold rowAt
  rw [if_pos this]
  omega

/-- What inserting leaves: the pairs, the pivots, the number of moves, a valid column. -/
theorem ri_says {l r : List Int} {ps : List Pv} {v row : Int} (h : riOk l r ps v row = true) :
    (riL l r ps v row).length = l.length + 1 ∧ ((riL l r ps v row).zip (riR l r ps v row)).Perm ((v, row) :: l.zip r) ∧ riP l r ps v row = shiftP 1 v ps ∧ riN l r ps v row ≤ ps.length ∧ isCk (riL l r ps v row) (riR l r ps v row) (riP l r ps v row) = true := by
  unfold riL riR riP riN
  rw [if_pos h, if_pos h, if_pos h, if_pos h]
  unfold riOk at h
  simp only [Bool.and_eq_true, decide_eq_true_eq] at h
  obtain ⟨hck, hit, hrow, h64⟩ := h
  obtain ⟨c1, c2, c3, c4⟩ := isCk_parts hck
  have A := pvA_iff.1 c4
  obtain ⟨k', I, hlow⟩ := ins_end A ps.length _ (InsI.start (v := v) hck)
  unfold riF
  obtain ⟨S, hS⟩ : ∃ S, S = RP.ups v ps.length ⟨l ++ [0], r ++ [0], ps, l.length, 0⟩ := ⟨_, rfl⟩
  rw [← hS] at I ⊢
  clear hS
  obtain ⟨h1, h2, h3, h4, h5, h6, h7, h8, h9, h10⟩ := I
  have hpr : ((S.put v row).l.zip (S.put v row).r).Perm ((v, row) :: l.zip r) := (RP.prs_put (m := l.length + 1) h1 h2 (by omega)).trans (h7.cons _)
  have hL : (S.put v row).l.length = l.length + 1 := by simp [RP.put, h1]
  have hR : (S.put v row).r.length = l.length + 1 := by simp [RP.put, h2]
  have hP : (S.put v row).ps = shiftP 1 v ps := by
    refine pvs_ext (by show S.ps.length = _; rw [shiftP_length, h3]) fun j hj => ?_
    have hj2 : j < ps.length := by have : S.ps.length = ps.length := h3; have : j < S.ps.length := hj; omega
    rw [pvAt_shift hj2]
    show pvAt S.ps j = _
    by_cases c : j < k'
    · have := hlow j c
      rw [if_neg (by omega)]
      exact (h8 j c).1
    · obtain ⟨w1, w2, w3⟩ := h9 j (by omega) hj2
      rw [if_pos w3]
      exact w1
  have hl1 : ((S.put v row).l).Perm (v :: l) := by
    have := hpr.map Prod.fst
    rwa [List.map_fst_zip (by omega), List.map_cons, List.map_fst_zip (by omega)] at this
  have hr1 : ((S.put v row).r).Perm (row :: r) := by
    have := hpr.map Prod.snd
    rwa [List.map_snd_zip (by omega), List.map_cons, List.map_snd_zip (by omega)] at this
  have hi := isIt_true hit
  refine ⟨hL, hpr, hP, by show S.n ≤ _; omega, ?_⟩
  unfold isCk
  have e1 : areVals (S.put v row).l = true := by
    unfold areVals at c1 ⊢
    simp only [Bool.and_eq_true, decide_eq_true_eq] at c1
    rw [hl1.all_eq, hL]
    simp only [List.all_cons, Bool.and_eq_true, decide_eq_true_eq]
    exact ⟨by omega, ⟨by omega, by omega⟩, c1.2⟩
  have e2 : RowsOk (S.put v row).r := by
    obtain ⟨q1, q2⟩ := rowsOk_nodup.1 c3
    refine rowsOk_nodup.2 ⟨fun x hx => ?_, ?_⟩
    · rcases List.mem_cons.1 (hr1.mem_iff.1 hx) with rfl | hx
      · omega
      · exact q1 x hx
    · refine hr1.nodup_iff.2 (List.nodup_cons.2 ⟨fun hm => ?_, q2⟩)
      have := rowAt_mem hm
      omega
  have e3 : PvsOk (S.put v row).l (S.put v row).ps := by
    refine pvA_iff.2 ⟨fun i j hij hj => ?_, fun j hj => ?_, fun j hj => ?_, fun j hj i hi' => ?_⟩
    all_goals rw [hP, shiftP_length] at hj
    · rw [hP, pvAt_shift hj, pvAt_shift (by omega)]
      have := A.asc i j hij hj
      split <;> split <;> exact this
    · rw [hP, pvAt_shift hj]
      have := A.val j hj
      split <;> exact this
    · rw [hP, pvAt_shift hj, hL]
      have := A.place j hj
      split
      · simp only; omega
      · omega
    · rw [hL] at hi'
      show ((S.l.set S.h v).getD i 0 < (pvAt S.ps j).1 ↔ (i : Int) < (pvAt S.ps j).2)
      rw [getD_set (by omega)]
      by_cases ei : i = S.h
      · subst ei
        rw [if_pos rfl]
        by_cases c : j < k'
        · have w0 := hlow j c
          obtain ⟨w1, w2⟩ := h8 j c
          rw [w1]
          constructor
          · intro y; omega
          · intro y; omega
        · obtain ⟨w1, w2, w3⟩ := h9 j (by omega) hj
          rw [w1]
          exact ⟨fun _ => w2, fun _ => w3⟩
      · rw [if_neg ei]
        exact h10 j hj i (by omega) ei
  rw [e1, rowsOk_iff.2 e2, pvsOk_iff.2 e3, hL, hR]
  simp

theorem rowAt_not {r : List Int} {v : Int} (h : v ∉ r) : rowAt r v = -1 := by
  have : idxL r v = r.length := by
    induction r with
    | nil => rfl
    | cons x r ih =>
      unfold idxL
      rw [if_neg (fun e => h (by simp [e])), ih (fun hm => h (List.mem_cons_of_mem _ hm))]
      rfl
  unfold rowAt
  rw [this, if_neg (by omega)]

/-- What taking out leaves: the pairs, the pivots, the number of moves, a valid column without the row. -/
theorem rd_says {l r : List Int} {ps : List Pv} {row : Int} (h : rdOk l r ps row = true) :
    (rdL l r ps row).length + 1 = l.length ∧ ((l.getD (idxL r row) 0, row) :: (rdL l r ps row).zip (rdR l r ps row)).Perm (l.zip r) ∧ rdP l r ps row = shiftP (-1) (l.getD (idxL r row) 0) ps ∧ rdN l r ps row ≤ ps.length + 1 ∧ isCk (rdL l r ps row) (rdR l r ps row) (rdP l r ps row) = true ∧ rowAt (rdR l r ps row) row = -1 := by
  unfold rdL rdR rdP rdN
  rw [if_pos h, if_pos h, if_pos h, if_pos h]
  unfold rdOk at h
  simp only [Bool.and_eq_true, decide_eq_true_eq] at h
  obtain ⟨hck, hrow⟩ := h
  obtain ⟨c1, c2, c3, c4⟩ := isCk_parts hck
  have A := pvA_iff.1 c4
  obtain ⟨-, hix⟩ := rowAt_yes hrow
  have hat := idxL_at row r hix
  obtain ⟨ix, hixe⟩ : ∃ ix, ix = idxL r row := ⟨_, rfl⟩
  unfold rdF
  rw [← hixe] at hix hat ⊢
  clear hixe
  obtain ⟨v, hv⟩ : ∃ v, v = l.getD ix 0 := ⟨_, rfl⟩
  have D0 := DelI.start hck (ix := ix) (by omega)
  rw [← hv] at D0 ⊢
  have D := del_end A ps.length 0 _ (by omega) D0
  obtain ⟨S, hS⟩ : ∃ S, S = RP.downs v ps.length 0 ⟨l, r, ps, ix, 0⟩ := ⟨_, rfl⟩
  rw [← hS] at D ⊢
  clear hS
  obtain ⟨h1, h2, h3, h4, h5, h6, h7, h8, -, h10⟩ := D
  obtain ⟨n, hn⟩ : ∃ n, l.length = n + 1 := ⟨l.length - 1, by omega⟩
  rw [show l.length - 1 = n by omega]
  obtain ⟨f1, f2⟩ := fill_len S n
  obtain ⟨T, hT⟩ : ∃ T, T = S.fill n := ⟨_, rfl⟩
  have hTl : T.l.length = n + 1 := by rw [hT]; omega
  have hTr : T.r.length = n + 1 := by rw [hT]; omega
  have hTp : T.ps = S.ps := by rw [hT]; exact S.fill_ps n
  have hTn : T.n ≤ ps.length + 1 := by rw [hT]; have := S.fill_n n; omega
  have hTg : ∀ x, x ≠ n → T.l.getD x 0 = if x = S.h then S.l.getD n 0 else S.l.getD x 0 := fun x hx => by rw [hT]; exact fill_get (by omega) hx
  have hTq : T.prs.Perm ((l.zip r).eraseIdx ix) := by rw [hT]; exact (RP.prs_fill (m := l.length) h1 h2 h4 (by omega)).trans h7
  have hTh : T.h = n := by rw [hT]; exact S.fill_h n
  rw [← hT]
  clear hT f1 f2 h7
  have hz : (T.l.take n).zip (T.r.take n) = T.prs := by
    unfold RP.prs
    rw [hTh]
    have e : (T.l.zip T.r).length = n + 1 := by simp; omega
    rw [List.eraseIdx_eq_take_drop_succ, List.drop_eq_nil_of_le (by omega), List.append_nil]
    exact (by simp only [List.zip, List.take_zipWith])
  have hpr : ((v, row) :: (T.l.take n).zip (T.r.take n)).Perm (l.zip r) := by
    rw [hz]
    have e : (v, row) = (l.zip r)[ix]'(by simp; omega) := by
      rw [List.getElem_zip, hv, ← hat, List.getD_eq_getElem?_getD, List.getD_eq_getElem?_getD, List.getElem?_eq_getElem (show ix < l.length by omega), List.getElem?_eq_getElem hix]
      rfl
    rw [e]
    exact (hTq.cons _).trans (cons_erase (l.zip r) ix (by simp; omega))
  have hL : (T.l.take n).length = n := by simp; omega
  have hR : (T.r.take n).length = n := by simp; omega
  have hP : T.ps = shiftP (-1) v ps := by
    rw [hTp]
    refine pvs_ext (by rw [shiftP_length, h3]) fun j hj => ?_
    rw [pvAt_shift (by omega)]
    have := (h8 j (by omega)).1
    rw [this]
    rfl
  have hl1 : (v :: T.l.take n).Perm l := by
    have := hpr.map Prod.fst
    rwa [List.map_cons, List.map_fst_zip (by omega), List.map_fst_zip (by omega)] at this
  have hr1 : (row :: T.r.take n).Perm r := by
    have := hpr.map Prod.snd
    rwa [List.map_cons, List.map_snd_zip (by omega), List.map_snd_zip (by omega)] at this
  obtain ⟨q1, q2⟩ := rowsOk_nodup.1 c3
  have hnd := List.nodup_cons.1 (hr1.nodup_iff.2 q2)
  refine ⟨by omega, hpr, hP, hTn, ?_, rowAt_not hnd.1⟩
  unfold isCk
  have e1 : areVals (T.l.take n) = true := by
    unfold areVals at c1 ⊢
    simp only [Bool.and_eq_true, decide_eq_true_eq] at c1
    have := c1.2
    rw [← hl1.all_eq, List.all_cons, Bool.and_eq_true] at this
    rw [this.2, hL]
    simp only [Bool.and_eq_true, decide_eq_true_eq, and_true]
    omega
  have e2 : RowsOk (T.r.take n) := rowsOk_nodup.2 ⟨fun x hx => q1 x (hr1.mem_iff.1 (List.mem_cons_of_mem _ hx)), hnd.2⟩
  have e3 : PvsOk (T.l.take n) T.ps := by
    refine pvA_iff.2 ⟨fun i j hij hj => ?_, fun j hj => ?_, fun j hj => ?_, fun j hj x hx => ?_⟩
    all_goals rw [hP, shiftP_length] at hj
    · rw [hP, pvAt_shift hj, pvAt_shift (by omega)]
      have := A.asc i j hij hj
      split <;> split <;> exact this
    · rw [hP, pvAt_shift hj]
      have := A.val j hj
      split <;> exact this
    · obtain ⟨w1, w2⟩ := h8 j (by omega)
      have pj := A.place j hj
      have fj := A.fit j hj ix (by omega)
      rw [← hv] at fj
      rw [hTp, hL]
      refine ⟨?_, by omega⟩
      rw [w1]
      by_cases c : v < (pvAt ps j).1
      · rw [if_pos c]
        have := fj.1 c
        simp only
        omega
      · rw [if_neg c]
        exact pj.1
    · rw [hL] at hx
      have eg : (T.l.take n).getD x 0 = T.l.getD x 0 := by
        rw [List.getD_eq_getElem?_getD, List.getD_eq_getElem?_getD, List.getElem?_take, if_pos hx]
      rw [eg, hTg x (by omega), hTp]
      obtain ⟨w1, w2⟩ := h8 j (by omega)
      by_cases ex : x = S.h
      · subst ex
        rw [if_pos rfl]
        have hj2 := h10 j hj n (by omega) (by omega)
        constructor
        · intro y; have := hj2.1 y; omega
        · intro y; omega
      · rw [if_neg ex]
        exact h10 j hj x (by omega) ex
  rw [e1, rowsOk_iff.2 e2, pvsOk_iff.2 e3, hL, hR]
  simp

theorem shiftP_back (v : Int) (ps : List Pv) : shiftP (-1) v (shiftP 1 v ps) = ps := by
  unfold shiftP
  rw [List.map_map]
  refine (List.map_congr_left fun p _ => ?_).trans (List.map_id _)
  simp only [Function.comp_apply, id_eq]
  by_cases c : v < p.1
  · rw [if_pos c, if_pos c]
    simp only
    rw [show p.2 + 1 + -1 = p.2 by omega]
  · rw [if_neg c, if_neg c]

/-- Taking out what was put in gives back the pairs and the pivots. -/
theorem ri_rd {l r : List Int} {ps : List Pv} {v row : Int} (h : riOk l r ps v row = true) :
    rdOk (riL l r ps v row) (riR l r ps v row) (riP l r ps v row) row = true ∧
      ((rdL (riL l r ps v row) (riR l r ps v row) (riP l r ps v row) row).zip (rdR (riL l r ps v row) (riR l r ps v row) (riP l r ps v row) row)).Perm (l.zip r) ∧
      rdP (riL l r ps v row) (riR l r ps v row) (riP l r ps v row) row = ps ∧ rdN (riL l r ps v row) (riR l r ps v row) (riP l r ps v row) row ≤ (riP l r ps v row).length + 1 := by
  obtain ⟨s1, s2, s3, s4, s5⟩ := ri_says h
  have hlr := (isCk_parts s5).2.1
  have hrow0 : ¬ 0 ≤ rowAt r row := by
    unfold riOk at h
    simp only [Bool.and_eq_true, decide_eq_true_eq] at h
    omega
  have hmr : row ∈ riR l r ps v row := by
    have : (v, row) ∈ (riL l r ps v row).zip (riR l r ps v row) := s2.mem_iff.2 (List.mem_cons_self ..)
    exact (List.of_mem_zip this).2
  have hpos := rowAt_mem hmr
  have hok : rdOk (riL l r ps v row) (riR l r ps v row) (riP l r ps v row) row = true := by
    unfold rdOk
    rw [s5, decide_eq_true hpos]; rfl
  obtain ⟨t1, t2, t3, t4, t5, t6⟩ := rd_says hok
  obtain ⟨-, hix⟩ := rowAt_yes hpos
  have hat := idxL_at row _ hix
  have hval : (riL l r ps v row).getD (idxL (riR l r ps v row) row) 0 = v := by
    have hm : ((riL l r ps v row).getD (idxL (riR l r ps v row) row) 0, row) ∈ (riL l r ps v row).zip (riR l r ps v row) := t2.mem_iff.1 (List.mem_cons_self ..)
    rcases List.mem_cons.1 (s2.mem_iff.1 hm) with e | hm
    · exact congrArg Prod.fst e
    · exact absurd (rowAt_mem (List.of_mem_zip hm).2) hrow0
  rw [hval] at t2 t3
  refine ⟨hok, (List.perm_cons (v, row)).1 (t2.trans s2), ?_, t4⟩
  rw [t3, s3]
  exact shiftP_back v ps

end Go.Proofs.Ytajfhalalnlejaa

/- What inserting and deleting leave stays in bounds (promise 7). -/
namespace Go.Proofs.Ytajfhalalnlejaa
open Go.RowKit Go.ChangeShapes
set_option linter.unusedSimpArgs false
set_option linter.unusedVariables false

theorem ri_wf {l r : List Int} {ps : List Pv} {v row : Int} (hl : l.length ≤ 1048576) (hr : r.length ≤ 1048576) (hp : ps.length ≤ 1048576) (wl : ∀ x ∈ l, I64 x) (wr : ∀ x ∈ r, I64 x) (wp : ∀ p ∈ ps, I64 p.1 ∧ I64 p.2) (hv : I64 v) (hrow : I64 row) :
    (riL l r ps v row).length ≤ 1048577 ∧ (riR l r ps v row).length ≤ 1048577 ∧ (riP l r ps v row).length ≤ 1048576 ∧ (∀ x ∈ riL l r ps v row, I64 x) ∧ (∀ x ∈ riR l r ps v row, I64 x) ∧ ∀ p ∈ riP l r ps v row, I64 p.1 ∧ I64 p.2 := by
  unfold riL riR riP
  by_cases h : riOk l r ps v row = true
  · rw [if_pos h, if_pos h, if_pos h]
    have hck : isCk l r ps = true := by unfold riOk at h; simp only [Bool.and_eq_true] at h; exact h.1
    have o1 := ri_start (a := 0) (b := 0) hck hl wl wr wp ⟨by omega, by omega⟩ ⟨by omega, by omega⟩
    obtain ⟨j, o2⟩ := RP.Ok.ups (v := v) ps.length o1 (Nat.le_refl _)
    have o3 := o2.put hv hrow
    have e1 := o3.l
    have e2 := o3.r
    have e3 := o3.p
    exact ⟨by show ((RP.ups v ps.length _).put v row).l.length ≤ _; omega, by show ((RP.ups v ps.length _).put v row).r.length ≤ _; omega, by show ((RP.ups v ps.length _).put v row).ps.length ≤ _; omega, o3.wl, o3.wr, o3.wp⟩
  · rw [if_neg h, if_neg h, if_neg h]
    exact ⟨by omega, by omega, hp, wl, wr, wp⟩

theorem rd_wf {l r : List Int} {ps : List Pv} {row : Int} (hl : l.length ≤ 1048576) (hr : r.length ≤ 1048576) (hp : ps.length ≤ 1048576) (wl : ∀ x ∈ l, I64 x) (wr : ∀ x ∈ r, I64 x) (wp : ∀ p ∈ ps, I64 p.1 ∧ I64 p.2) :
    (rdL l r ps row).length ≤ 1048576 ∧ (rdR l r ps row).length ≤ 1048576 ∧ (rdP l r ps row).length ≤ 1048576 ∧ (∀ x ∈ rdL l r ps row, I64 x) ∧ (∀ x ∈ rdR l r ps row, I64 x) ∧ ∀ p ∈ rdP l r ps row, I64 p.1 ∧ I64 p.2 := by
  unfold rdL rdR rdP
  by_cases h : rdOk l r ps row = true
  · rw [if_pos h, if_pos h, if_pos h]
    unfold rdOk at h
    simp only [Bool.and_eq_true, decide_eq_true_eq] at h
    have o1 := rd_start h.1 h.2 hl wl wr wp
    have o2 := (RP.OkD.downs ps.length 0 o1 (by omega)).ok
    have hx := (rowAt_yes h.2).2
    have hrl := (isCk_parts h.1).2.1
    have o3 := o2.fill (a := l.length - 1) (by omega)
    have e1 := o3.l
    have e2 := o3.r
    have e3 := o3.p
    refine ⟨by simp; omega, by simp; omega, by show ((RP.downs _ ps.length 0 _).fill _).ps.length ≤ _; omega, fun x hx => o3.wl x (List.mem_of_mem_take hx), fun x hx => o3.wr x (List.mem_of_mem_take hx), o3.wp⟩
  · rw [if_neg h, if_neg h, if_neg h]
    exact ⟨hl, hr, hp, wl, wr, wp⟩

end Go.Proofs.Ytajfhalalnlejaa

/- The laws' helpers over columns: pairsOf, sameInts, btoi (promises 3 and 4). -/
namespace Go.Proofs.Ytajfhalalnlejaa
open Go.RowKit Go.ChangeShapes
set_option linter.unusedSimpArgs false
set_option linter.unusedVariables false
set_option maxRecDepth 100000

theorem Ow.wideP {w : World} {v : Value} {l : List Int} {lo hi lo' : Nat} (h : Ow w v l lo hi) (hl : lo' ≤ lo) : Ow w v l lo' hi := by
  obtain ⟨⟨F, h, hF⟩, h1, h2⟩ := h
  exact ⟨⟨F, h, fun b hb => ⟨Nat.le_trans hl (hF b hb).1, (hF b hb).2⟩⟩, Nat.le_trans hl h1, h2⟩

/-- append(s, i): i lies in a block of its own, in a region that draws its order. -/
theorem appI_wp (W : World) {o : Oper} {a : Act} {K : Act → World → Prop} {Q : Exit → Act → World → Prop} (s x : Operand)
    (ho : o.op = .call { callee := .builtin .append, args := #[s, x], argTypes := #[22, 22] })
    (base : Nat) (v : Value) (l : List Int) (hown : Is W base 3 v l) (hs : a.eval s = v) (i : Int) (c g : Nat)
    (hx : a.eval x = .slice (some ⟨g, 0, none⟩) 1 c) (hg : W.heap[g]? = some (.cells #[.int .i64 i] 3 (0, 0))) (hlen : l.length < 1099511627776) (hbase : base ≤ W.heap.size)
    (h : ∀ v' w', Is w' base 3 v' (l ++ [i]) → Below base W w' → K (a.put o.dst v') w') : o.wp Try.prog a W K Q := by
  obtain ⟨i0, hi0, hi1, hi2, hi3⟩ := info_parts infoI
  obtain ⟨v', w', hr, hown', hgrow, -, -⟩ := run_append_own_at (P := Try.prog) (w := W) base 22 o.type 3 i0 _ 1 8 Try.underlying22 hi0 hi1 hi2 hi3 rfl (by decide) v l.length (intVs l) hown ⟨g, 0, none⟩ 1 c [.int .i64 i] rfl
    (by intro k u hk
        rw [addr_add, cell_of_row W g (0 + k) _ _ (0, 0) hg, Nat.zero_add]
        simpa using hk)
    (by intro u hu; simp at hu; subst hu; rfl) (by unfold maxLen; omega) (by omega) hbase
  unfold Oper.wp execOp
  simp only [ho, resolve, invoke, builtin, Sem.run_bind, Sem.run_pure, Result.andThen_ok, List.map_toArray, List.map_cons, List.map_nil, hs, hx, hr]
  refine h v' w' ?_ ((Below.refl base W).grown hgrow hbase (fun k hk => (World.ownsRow.lt hown k hk).1))
  unfold Is
  rw [show intVs (l ++ [i]) = intVs l ++ [.int .i64 i] by simp [intVs], List.length_append]
  exact hown'

theorem appI_step {W : World} {ops : Array Oper} {o : Oper} {a : Act} {K : Act → World → Prop} {Q : Exit → Act → World → Prop} {E : Prop} (hgd : o.guard = none) (s x : Operand)
    (ho : o.op = .call { callee := .builtin .append, args := #[s, x], argTypes := #[22, 22] })
    (base : Nat) (v : Value) (l : List Int) (hown : Is W base 3 v l) (hs : a.eval s = v) (i : Int) (c g : Nat)
    (hx : a.eval x = .slice (some ⟨g, 0, none⟩) 1 c) (hg : W.heap[g]? = some (.cells #[.int .i64 i] 3 (0, 0))) (hlen : l.length < 1099511627776) (hbase : base ≤ W.heap.size)
    (h : ∀ v' w', Is w' base 3 v' (l ++ [i]) → Below base W w' → K (a.put o.dst v') w') :
    if Region.wanted o (yielded ops a.tmps) = true then Oper.wp Try.prog o a W K Q else E := by
  have hw : Region.wanted o (yielded ops a.tmps) = true := by simp [Region.wanted, hgd]
  rw [if_pos hw]
  exact appI_wp W s x ho base v l hown hs i c g hx hg hlen hbase h

/-- The pairs of values and rows, as numbers. -/
def prs (l r : List Int) : List Int := (l.zip r).map fun p => wrap64 (wrap64 (p.1 * 1000) + p.2)

theorem prs_perm {l r l' r' : List Int} (h : (l'.zip r').Perm (l.zip r)) : sortL (prs l' r') = sortL (prs l r) := sortL_of_perm (h.map _)

theorem wrap_i64 (x : Int) : I64 (wrap64 x) := by
  unfold I64 wrap64
  omega

theorem prs_wf (l r : List Int) : ∀ x ∈ prs l r, I64 x := by
  intro x hx
  obtain ⟨p, _, rfl⟩ := List.mem_map.1 hx
  exact wrap_i64 _

theorem prs_len (l r : List Int) : (prs l r).length = min l.length r.length := by simp [prs]

theorem prs_get (l r : List Int) (k : Nat) (h1 : k < l.length) (h2 : k < r.length) : (prs l r)[k]'(by rw [prs_len]; omega) = wrap64 (wrap64 (l[k] * 1000) + r[k]) := by simp [prs]

theorem Ints.at' {w : World} {B : Nat} {a : Option Addr} {n c : Nat} {l : List Int} (h : Ints w B (.slice a n c) l) (j : Nat) (hj : j < l.length) :
    ∃ b o, a = some ⟨b, o, none⟩ ∧ w.cell? ⟨b, o + j, none⟩ = some (.int .i64 (l.getD j 0)) := by
  obtain ⟨a', c', e1, -, -, h1⟩ := h
  injection e1 with e1 e2 e3
  subst e1
  obtain ⟨b, o, rfl, -, hc⟩ := h1 j hj
  exact ⟨b, o, rfl, by rw [hc]; simp [List.getD_eq_getElem?_getD, List.getElem?_eq_getElem hj]⟩

theorem same_any (v u : Value) (l : List Int) (w : World) (B : Nat) (hv : Ints w B v l) (hu : Ints w B u l) : Calls Try.prog 31 #[v, u] w (RetB1 w true) := by
  obtain ⟨a, c, rfl, hlen, -, hc⟩ := hv
  obtain ⟨a', c', rfl, -, -, hc'⟩ := hu
  have HC := hide hc
  have HC' := hide hc'
  clear hc hc'
  have h1 : (((l.length : Nat) : Int) != ((l.length : Nat) : Int)) = false := by simp
  go_enter Try.func31, Try.ntmps31
  go_wp2_with fail
  go_loopw [5] (fun i wr => ∃ (k q : Nat), k ≤ l.length ∧ i = .int .i64 k ∧ wr = w.drewN q) (fun i _ => l.length - (intOf i).toNat)
  case atStart => exact ⟨0, 0, by omega, rfl, rfl⟩
  case round =>
    obtain ⟨k, q, hk, rfl, rfl⟩ := hrel
    by_cases hlt : k < l.length
    · obtain ⟨b, o, rfl, -, h2⟩ := HC.out k hlt
      obtain ⟨b', o', rfl, -, h3⟩ := HC'.out k hlt
      obtain ⟨x, hx⟩ : ∃ x, x = l[k] := ⟨_, rfl⟩
      rw [← hx] at h2 h3
      have h4 : (x != x) = false := by simp
      clear hx
      go_wp2_with fail
      go_quiet (fail)
      go_wp2_with fail
      go_roundw
      case rel => exact ⟨k + 1, q + nq, by omega, by go_num, rfl⟩
      case measure => simp [intOf]; omega
    · have hke : k = l.length := by omega
      subst hke
      go_wp2_with fail
      go_ret
      exact ⟨rfl, below_drewN (Below.refl _ _) _⟩

set_option maxHeartbeats 4000000 in
theorem pairs_any (v : Value) (l r : List Int) (ps : List Pv) (w : World) (B : Nat) (hv : Ck w B v l r ps) (hB : B ≤ w.heap.size) (hl : l.length ≤ 1048576) :
    Calls Try.prog 32 #[v] w (RetOw w (sortL (prs l r))) := by
  obtain ⟨a1, c1, a2, c2, a3, c3, rfl, i1, i2, -⟩ := hv.form
  have X := hide (Kn.one w #[.slice a1 l.length c1, .slice a2 r.length c2, .slice a3 ps.length c3] 27)
  obtain ⟨w1, hw1⟩ : ∃ w1, w1 = w.alloc (.cells #[.slice a1 l.length c1, .slice a2 r.length c2, .slice a3 ps.length c3] 27) := ⟨_, rfl⟩
  rw [← hw1] at X
  have hz := hide (show w1.heap.size = w.heap.size + 1 by rw [hw1]; simp)
  have H1 := hide (fun (W : World) (h : Below w.heap.size w W) => i1.below h hB)
  have H2 := hide (fun (W : World) (h : Below w.heap.size w W) => i2.below h hB)
  clear i1 i2 hv
  have HS := hide (fun (W : World) (v : Value) (lo : Nat) (h : Is W lo 3 v (prs l r)) => show Calls Try.prog 80 #[v] W (RetOw W (sortL (prs l r))) by
    obtain ⟨a', c', rfl⟩ := h.form
    have hlen : (prs l r).length ≤ 1048576 := by rw [prs_len]; omega
    refine sSort_any a' c' _ W W.heap.size (h.ints (Nat.le_refl _) (by omega) (prs_wf l r)) ?_ (Nat.le_refl _) hlen
    intro ha
    subst ha
    rcases h.2 with ⟨e, _⟩ | ⟨g, cap, cur, e, _⟩
    · injection e
    · injection e with e1; cases e1)
  go_enter Try.func32, Try.ntmps32
  go_wp2_with fail
  rw [← hw1]
  clear hw1
  have O := hide (Is.made w1 w1.heap.size 3 (Nat.le_refl _))
  have HB := hide ((Below.refl w1.heap.size w1).alloc (Nat.le_refl _) (.cells #[] 3))
  have hlr := hide (show ∀ k, k < l.length → k < r.length → (prs l r).take (k + 1) = (prs l r).take k ++ [wrap64 (wrap64 (l.getD k 0 * 1000) + r.getD k 0)] from fun k h1 h2 => by
    rw [List.take_succ_eq_append_getElem (by rw [prs_len]; omega), prs_get l r k h1 h2]
    simp [List.getD_eq_getElem?_getD, List.getElem?_eq_getElem h1, List.getElem?_eq_getElem h2])
  have hend := hide (show ∀ k, k ≤ l.length → k ≤ r.length → ¬ (k < l.length ∧ k < r.length) → (prs l r).take k = prs l r from fun k h1 h2 h3 => List.take_of_length_le (by rw [prs_len]; omega))
  go_loopw [3, 4] (fun u i wr => ∃ (k : Nat) (ua : Option Addr) (uc : Nat), k ≤ l.length ∧ k ≤ r.length ∧ i = .int .i64 k ∧ u = .slice ua k uc ∧ Hid (Is wr w1.heap.size 3 u ((prs l r).take k)) ∧ Hid (Below w1.heap.size w1 wr)) (fun _ i _ => l.length - (intOf i).toNat)
  case atStart => exact ⟨0, _, _, by omega, by omega, rfl, rfl, by show Is _ _ _ _ _; simp only [List.take_zero]; rw [← hz.out]; exact O.out, HB.out⟩
  case round =>
    obtain ⟨k, ua, uc, hk1, hk2, rfl, rfl, O, HB⟩ := hrel
    have XX := hide (X.out.up HB.out)
    have c0 : wr.cell? ⟨w.heap.size, 0, none⟩ = some (.slice a1 l.length c1) := XX.out.cell 0 0 rfl rfl
    have c1' : wr.cell? ⟨w.heap.size, 1, none⟩ = some (.slice a2 r.length c2) := XX.out.cell 0 1 rfl rfl
    by_cases hlt : k < l.length ∧ k < r.length
    · obtain ⟨h1, h2⟩ := hlt
      obtain ⟨b, o, hab, e1⟩ := (H1.out wr XX.out.below).at' k h1
      obtain ⟨b', o', hab', e2⟩ := (H2.out wr XX.out.below).at' k h2
      subst hab hab'
      have hst := hide (hlr.out k h1 h2)
      obtain ⟨x, hx⟩ : ∃ x, x = l.getD k 0 := ⟨_, rfl⟩
      obtain ⟨y, hy⟩ : ∃ y, y = r.getD k 0 := ⟨_, rfl⟩
      rw [← hx] at e1 hst
      rw [← hy] at e2 hst
      have hsz := hide HB.out.size
      have HOf := hide (fun (W : World) (h : Below wr.heap.size wr W) => O.out.below h)
      have HLN := hide (show ((prs l r).take k).length = k by rw [List.length_take, prs_len]; omega)
      have HLN2 := hide (show ((prs l r).take (k + 1)).length = k + 1 by rw [List.length_take, prs_len]; omega)
      have HBf := hide (fun (W : World) (h : Below wr.heap.size wr W) => HB.out.trans (h.mono hsz.out))
      have hnw : (wr.alloc (.cells #[.int .i64 (IntKind.i64.wrap (IntKind.i64.wrap (x * 1000) + y))] 3)).heap[wr.heap.size]? = some (.cells #[.int .i64 (wrap64 (wrap64 (x * 1000) + y))] 3 (0, 0)) := by
        rw [heap_alloc_new, IntWalk.i64_left, IntWalk.i64_left]
      clear hx hy
      go_wp2_with fail
      go_region_law (refine appI_step rfl _ _ rfl w1.heap.size (.slice ua k uc) _ (HOf.out _ (by first | exact (below1 _ _).drew | exact (Below.refl _ _).drew.alloc (Nat.le_refl _) _ | exact below1 _ _)) (by simp [Act.eval, Act.put]) (wrap64 (wrap64 (x * 1000) + y)) 1 wr.heap.size (by simp [Act.eval, Act.put]) (by first | exact heap_alloc_new _ _ | exact hnw) (by have := HLN.out; omega) (by have := hsz.out; simp; omega) ?_; intro v5 w5' hown hb; rw [← hst.out] at hown; obtain ⟨ub, uc', rfl⟩ := hown.form; rw [HLN2.out] at hown ⊢; have OO := hide hown; have BB := hide ((HBf.out _ (by first | exact (below1 _ _).drew | exact (Below.refl _ _).drew.alloc (Nat.le_refl _) _ | exact below1 _ _)).trans hb))
      all_goals go_wp2_with fail
      all_goals exact ⟨⟨k + 1, _, _, by omega, by omega, by go_num, rfl, OO.out, BB.out⟩, by simp [intOf]; omega⟩
    · have hf := hide (hend.out k hk1 hk2 hlt)
      rw [hf.out] at O
      have HW := hide (XX.out.below)
      have HF := hide (HS.out _ _ _ O.out)
      clear O HB X
      by_cases h1 : k < l.length
      · have t2 : decide (k < r.length) = false := by simp; omega
        clear hlt
        go_wp2_with fail
        go_at_call 80
        refine HF.out.mono ?_
        rintro e w6 ⟨v, hi, rfl, O, hb⟩
        go_wp2_with fail
        go_ret
        exact ⟨_, _, rfl, O.wideP HW.out.size, HW.out.trans (hb.mono HW.out.size)⟩
      · have t1 : decide (k < l.length) = false := by simp; omega
        clear hlt
        go_wp2_with fail
        go_at_call 80
        refine HF.out.mono ?_
        rintro e w6 ⟨v, hi, rfl, O, hb⟩
        go_wp2_with fail
        go_ret
        exact ⟨_, _, rfl, O.wideP HW.out.size, HW.out.trans (hb.mono HW.out.size)⟩

end Go.Proofs.Ytajfhalalnlejaa

/- A region that draws its order, by facts of its operations: each operation's fact speaks of the slots that it names, of what was there ahead of the region, and of the blocks that the operation itself made; so no order need be gone through. Any program. -/
namespace Go.Proofs.Ytajfhalalnlejaa
open Go.RowKit
set_option linter.unusedSimpArgs false
set_option linter.unusedVariables false

/-- The value in slot k. -/
def slot (a : Act) (k : Nat) : Value := a.tmps.getD k undef
/-- The slots of S as they stand, all others empty. -/
def vis (S : List Nat) (a : Act) (k : Nat) : Value := bif S.contains k then slot a k else undef

/-- The slots of S as they stand once v is put into slot d, all others empty. -/
def visp (S : List Nat) (a : Act) (d : Option Nat) (v : Value) (k : Nat) : Value := bif S.contains k then (match d with | some x => bif x == k then v else slot a k | none => slot a k) else undef
/-- A part of a tuple. -/
def cmpV (v : Value) (k : Nat) : Value := match v with | .tuple t => t.getD k undef | _ => undef

/-- What was there below G and from lo on, below hi, is as it was. -/
structure Kept (G lo hi : Nat) (W W' : World) : Prop where
  size : W.heap.size ≤ W'.heap.size
  old : ∀ b, b < G → b < W.heap.size → W'.heap[b]? = W.heap[b]?
  own : ∀ b, lo ≤ b → b < hi → b < W.heap.size → W'.heap[b]? = W.heap[b]?

theorem Kept.of_below {G lo hi : Nat} {W W' : World} (h : Below W.heap.size W W') : Kept G lo hi W W' := ⟨h.size, fun b _ h1 => h.block b h1, fun b _ _ h1 => h.block b h1⟩

/-- The slot that operation j writes. -/
def rdst (ops : Array Oper) (j : Nat) : Option Nat := (ops[j]?).bind (·.dst)

/-- The rows that part a region: for each operation those that it waits for (all of them), the operation whose blocks it writes (itself, where it makes its own), the slots that its fact names, and the others that write the same blocks. -/
def rfOk (md : Region.Mode) (ops : Array Oper) (anc : List (List Nat)) (own : List Nat) (S peers : List (List Nat)) : Bool :=
  let n := ops.size
  let A := fun i => anc.getD i []
  let O := fun i => own.getD i i
  (List.range n).all fun i =>
    ((ops[i]?).map fun o => o.after.all fun e => !Region.binds md e || (A i).contains e.on).getD true &&
    ((A i).all fun j => decide (j < i) && ((A j).all fun k => (A i).contains k) && (((ops[i]?).map fun o => o.after.any fun e => Region.binds md e && (e.on == j || (A e.on).contains j)).getD false)) &&
    (O i == i || ((A i).contains (O i) && O (O i) == O i)) &&
    (List.range n).all fun j =>
      (j == i || (A i).contains j || match rdst ops j with | none => true | some d => !(S.getD i []).contains d) &&
      (!(O j == O i) || j == i || O i == i || (peers.getD i []).contains j)

structure RfStep (G : Nat) (F : Nat → Nat → Nat → (Nat → Value) → World → Prop) (own : List Nat) (S peers : List (List Nat)) (i lo hi : Nat) (dst : Option Nat) (a : Act) (W : World) (v : Value) (W' : World) : Prop where
  made : own.getD i i = i → Below W.heap.size W W' ∧ F i W.heap.size W'.heap.size (visp (S.getD i []) a dst v) W'
  wrote : own.getD i i ≠ i → Seg lo hi W W' ∧ F i lo hi (visp (S.getD i []) a dst v) W' ∧ ∀ j ∈ peers.getD i [], F j lo hi (vis (S.getD j []) a) W → F j lo hi (vis (S.getD j []) a) W'

/-- What holds in the middle of the region. -/
structure RfInv (w0 : World) (a0 : Act) (ops : Array Oper) (F : Nat → Nat → Nat → (Nat → Value) → World → Prop) (anc : List (List Nat)) (own : List Nat) (S : List (List Nat)) (iv : Nat → Nat × Nat) (done : Nat → Bool) (a : Act) (W : World) : Prop where
  below : Below w0.heap.size w0 W
  size : a.tmps.size = a0.tmps.size
  defers : a.defers = a0.defers
  rest : ∀ s, (∀ j, j < ops.size → rdst ops j ≠ some s) → slot a s = slot a0 s
  fact : ∀ i, i < ops.size → done i = true → (∀ j ∈ anc.getD i [], done j = true) ∧ F i (iv (own.getD i i)).1 (iv (own.getD i i)).2 (vis (S.getD i []) a) W
  ivs : ∀ i, i < ops.size → done i = true → own.getD i i = i → w0.heap.size ≤ (iv i).1 ∧ (iv i).1 ≤ (iv i).2 ∧ (iv i).2 ≤ W.heap.size
  apart : ∀ i j, i < ops.size → j < ops.size → done i = true → done j = true → own.getD i i = i → own.getD j j = j → i ≠ j → (iv i).2 ≤ (iv j).1 ∨ (iv j).2 ≤ (iv i).1

theorem slot_put {a : Act} {d : Option Nat} {v : Value} {s : Nat} (h : d ≠ some s) : slot (a.put d v) s = slot a s := by
  cases d with
  | none => rfl
  | some d =>
    have hne : d ≠ s := fun e => h (by rw [e])
    show (a.tmps.setIfInBounds d v).getD s undef = a.tmps.getD s undef
    rw [Array.getD_eq_getD_getElem?, Array.getD_eq_getD_getElem?, Array.getElem?_setIfInBounds_ne hne]

theorem vis_put {S : List Nat} {a : Act} {d : Option Nat} {v : Value} (h : ∀ x, d = some x → S.contains x = false) : vis S (a.put d v) = vis S a := by
  funext k
  unfold vis
  cases hk : S.contains k with
  | false => rfl
  | true =>
    simp only [cond_true]
    exact slot_put fun e => by have := h k e; rw [hk] at this; cases this

theorem vis_visp {S : List Nat} {a : Act} {d : Option Nat} {v : Value} (h : ∀ x, d = some x → x < a.tmps.size) : vis S (a.put d v) = visp S a d v := by
  funext k
  unfold vis visp
  cases hk : S.contains k with
  | false => rfl
  | true =>
    simp only [cond_true]
    cases d with
    | none => rfl
    | some x =>
      by_cases hx : x = k
      · subst hx
        have hlt := h x rfl
        simp only [beq_self_eq_true, cond_true]
        show (a.tmps.setIfInBounds x v).getD x undef = v
        simp [Array.getD, hlt]
      · have hb : (x == k) = false := by simpa using hx
        rw [slot_put (fun e => hx (Option.some.inj e))]
        simp [hb]

/-- All slots that are written lie in the frame. -/
def rfFits (ops : Array Oper) (n : Nat) : Bool := (List.range ops.size).all fun i => match rdst ops i with | some d => decide (d < n) | none => true

theorem rfFits_spec {ops : Array Oper} {n : Nat} (h : rfFits ops n = true) {i : Nat} (hi : i < ops.size) : ∀ x, rdst ops i = some x → x < n := by
  intro x hx
  have := List.all_eq_true.1 h i (List.mem_range.2 hi)
  rw [hx] at this
  simpa using this

theorem put_size (a : Act) (d : Option Nat) (v : Value) : (a.put d v).tmps.size = a.tmps.size ∧ (a.put d v).defers = a.defers := by
  cases d <;> simp [Act.put]

/-- All are listed where none is ready and each waits for earlier ones alone. -/
theorem ready_nil' {md : Region.Mode} {ops : Array Oper} {listed : Array Bool} (hd : ∀ (i : Nat) (o : Oper), ops[i]? = some o → ∀ e ∈ o.after, Region.binds md e = true → e.on < i) (hs : listed.size = ops.size) (h : Region.ready md ops listed = []) : ∀ i, i < ops.size → listed.getD i false = true := by
  intro i
  induction i using Nat.strongRecOn with
  | _ i ih =>
    intro hi
    cases hb : listed.getD i false with
    | true => rfl
    | false =>
      exfalso
      have hmem : i ∈ Region.ready md ops listed := by
        unfold Region.ready
        refine List.mem_filter.2 ⟨List.mem_range.2 hi, ?_⟩
        have hl : listed.getD i true = false := by
          have hil : i < listed.size := by omega
          simp only [Array.getD, hil, dif_pos] at hb ⊢
          exact hb
        rw [hl]
        have ho : ops[i]? = some ops[i] := Array.getElem?_eq_getElem hi
        rw [ho]
        simp only [Option.map_some, Option.getD_some, Bool.not_false, Bool.true_and]
        refine Array.all_eq_true.2 fun j hj => ?_
        cases hbd : Region.binds md ops[i].after[j] with
        | false => simp
        | true =>
          have hlt := hd i _ ho _ (Array.getElem_mem hj) hbd
          rw [ih _ hlt (by omega)]
          simp
      rw [h] at hmem
      cases hmem

/-- All slots that are written are among ds. -/
def rfDsts (ops : Array Oper) (ds : List Nat) : Bool := (List.range ops.size).all fun i => match rdst ops i with | some d => ds.contains d | none => true
theorem rfDsts_spec {ops : Array Oper} {ds : List Nat} (h : rfDsts ops ds = true) {s : Nat} (hs : s ∉ ds) : ∀ j, j < ops.size → rdst ops j ≠ some s := by
  intro j hj e
  have := List.all_eq_true.1 h j (List.mem_range.2 hj)
  rw [e] at this
  exact hs (by simpa using this)

/-- The frame behind the region: the one ahead of it, with the slots that were written. -/
theorem frame_of {a a0 : Act} (ds : List Nat) (hs : a.tmps.size = a0.tmps.size) (hd : a.defers = a0.defers) (hr : ∀ s, s ∉ ds → slot a s = slot a0 s) :
    a = ⟨ds.foldl (fun t d => t.setIfInBounds d (slot a d)) a0.tmps, a0.defers⟩ := by
  have key : ∀ (es : List Nat) (t : Array Value), (es.foldl (fun t d => t.setIfInBounds d (slot a d)) t).size = t.size ∧ ∀ s, (es.foldl (fun t d => t.setIfInBounds d (slot a d)) t)[s]? = if s ∈ es then (if s < t.size then some (slot a s) else none) else t[s]? := by
    intro es
    induction es with
    | nil => intro t; exact ⟨rfl, fun s => by simp⟩
    | cons d es ih =>
      intro t
      obtain ⟨h1, h2⟩ := ih (t.setIfInBounds d (slot a d))
      refine ⟨by rw [List.foldl_cons, h1]; simp, fun s => ?_⟩
      rw [List.foldl_cons, h2 s]
      by_cases hm : s ∈ es
      · simp [hm]
      · rw [if_neg hm, Array.getElem?_setIfInBounds]
        by_cases hds : d = s
        · subst hds; simp
        · have : s ≠ d := fun e => hds e.symm
          simp [hm, hds, this]
  obtain ⟨k1, k2⟩ := key ds a0.tmps
  have ht : a.tmps = ds.foldl (fun t d => t.setIfInBounds d (slot a d)) a0.tmps := by
    apply Array.ext_getElem?
    intro s
    rw [k2 s]
    by_cases hlt : s < a.tmps.size
    · have e1 : a.tmps[s]? = some (slot a s) := by
        rw [Array.getElem?_eq_getElem hlt]
        simp [slot, Array.getD, hlt]
      rw [e1]
      by_cases hm : s ∈ ds
      · rw [if_pos hm, if_pos (by omega)]
      · rw [if_neg hm, hr s hm]
        have h0 : s < a0.tmps.size := by omega
        rw [Array.getElem?_eq_getElem h0]
        simp [slot, Array.getD, h0]
    · rw [Array.getElem?_eq_none (by omega)]
      by_cases hm : s ∈ ds
      · rw [if_pos hm, if_neg (by omega)]
      · rw [if_neg hm, Array.getElem?_eq_none (by omega)]
  cases a
  cases a0
  simp only at ht hd
  simp only [Act.mk.injEq]
  exact ⟨ht, hd⟩

section
variable {P : Program} {md : Region.Mode} {ops : Array Oper} {Q : Exit → Act → World → Prop}

theorem rfOk_spec {anc : List (List Nat)} {own : List Nat} {S peers : List (List Nat)} (h : rfOk md ops anc own S peers = true) {i : Nat} (hi : i < ops.size) :
    (∀ o, ops[i]? = some o → ∀ e ∈ o.after, Region.binds md e = true → e.on ∈ anc.getD i []) ∧
    (∀ j ∈ anc.getD i [], j < i ∧ (∀ k ∈ anc.getD j [], k ∈ anc.getD i []) ∧ ∃ o, ops[i]? = some o ∧ ∃ e ∈ o.after, Region.binds md e = true ∧ (e.on = j ∨ j ∈ anc.getD e.on [])) ∧
    (own.getD i i = i ∨ (own.getD i i ∈ anc.getD i [] ∧ own.getD (own.getD i i) (own.getD i i) = own.getD i i)) ∧
    (∀ j, j < ops.size → j ≠ i → j ∉ anc.getD i [] → ∀ d, rdst ops j = some d → (S.getD i []).contains d = false) ∧
    (∀ j, j < ops.size → j ≠ i → own.getD j j = own.getD i i → own.getD i i ≠ i → j ∈ peers.getD i []) := by
  have h1 := List.all_eq_true.1 h i (List.mem_range.2 hi)
  simp only [Bool.and_eq_true] at h1
  obtain ⟨⟨⟨h1, h2⟩, h3⟩, h4⟩ := h1
  refine ⟨fun o ho e he hb => ?_, fun j hj => ?_, ?_, fun j hj hne hna d hd => ?_, fun j hj hne ho hi' => ?_⟩
  · rw [ho] at h1
    simp only [Option.map_some, Option.getD_some] at h1
    have := Array.all_eq_true'.1 h1 e he
    rw [hb] at this
    simpa using this
  · have := List.all_eq_true.1 h2 j hj
    simp only [Bool.and_eq_true, decide_eq_true_eq] at this
    refine ⟨this.1.1, fun k hk => by simpa using List.all_eq_true.1 this.1.2 k hk, ?_⟩
    have h5 := this.2
    cases ho : ops[i]? with
    | none => rw [ho] at h5; cases h5
    | some o =>
      rw [ho] at h5
      simp only [Option.map_some, Option.getD_some] at h5
      obtain ⟨k, hk, h6⟩ := Array.any_eq_true.1 h5
      simp only [Bool.and_eq_true, Bool.or_eq_true, beq_iff_eq, List.contains_iff_mem] at h6
      exact ⟨o, rfl, _, Array.getElem_mem hk, h6.1, h6.2⟩
  · simp only [Bool.or_eq_true, Bool.and_eq_true, beq_iff_eq, List.contains_iff_mem] at h3
    exact h3
  · have := List.all_eq_true.1 h4 j (List.mem_range.2 hj)
    simp only [Bool.and_eq_true, Bool.or_eq_true, beq_iff_eq] at this
    rcases this.1 with (h5 | h5) | h5
    · exact absurd h5 hne
    · exact absurd (by simpa using h5) hna
    · rw [hd] at h5
      simpa using h5
  · have := List.all_eq_true.1 h4 j (List.mem_range.2 hj)
    simp only [Bool.and_eq_true, Bool.or_eq_true, beq_iff_eq] at this
    rcases this.2 with ((h5 | h5) | h5) | h5
    · rw [ho] at h5
      simp at h5
    · exact absurd h5 hne
    · exact absurd h5 hi'
    · simpa using h5

/-- The operations from k on, one behind the other, m of them. -/
def rfTail (P : Program) (ops : Array Oper) (Q : Exit → Act → World → Prop) : Nat → Nat → Act → World → Prop
  | 0, _, a, w => Q .normal a w
  | m + 1, k, a, w => wpOp P ops Q k (rfTail P ops Q m (k + 1)) a w
/-- Each operation from t on waits for all that stand before it. -/
def rfTl (n t : Nat) (anc : List (List Nat)) : Bool := (List.range n).all fun i => decide (i < t) || (List.range i).all fun j => (anc.getD i []).contains j
theorem rfTl_spec {n t : Nat} {anc : List (List Nat)} (h : rfTl n t anc = true) {i : Nat} (hi : i < n) (ht : t ≤ i) : ∀ j, j < i → j ∈ anc.getD i [] := by
  intro j hj
  have h1 := List.all_eq_true.1 h i (List.mem_range.2 hi)
  simp only [Bool.or_eq_true, decide_eq_true_eq] at h1
  rcases h1 with h1 | h1
  · omega
  · simpa using List.all_eq_true.1 h1 j (List.mem_range.2 hj)

/-- A region in any order, by its operations' facts; its last m operations, which wait for all before them, are left to be walked. -/
theorem wpAny_factsT {a0 : Act} {w0 : World} (F : Nat → Nat → Nat → (Nat → Value) → World → Prop) (anc : List (List Nat)) (own : List Nat) (S peers : List (List Nat))
    (hok : rfOk md ops anc own S peers = true) (hfits : rfFits ops a0.tmps.size = true) (t m : Nat) (htm : t + m = ops.size) (htl : rfTl ops.size t anc = true)
    (hst : ∀ i, i < t → ∀ lo hi s W W', F i lo hi s W → w0.heap.size ≤ lo → lo ≤ hi → hi ≤ W.heap.size → w0.heap.size ≤ W.heap.size → Kept w0.heap.size lo hi W W' → F i lo hi s W')
    (hstep : ∀ i, i < t → ∀ (a : Act) (W : World) (iv : Nat → Nat × Nat), Below w0.heap.size w0 W → a.tmps.size = a0.tmps.size → a.defers = a0.defers → (∀ s, (∀ j, j < ops.size → rdst ops j ≠ some s) → slot a s = slot a0 s) →
      (∀ j ∈ anc.getD i [], F j (iv (own.getD j j)).1 (iv (own.getD j j)).2 (vis (S.getD j []) a) W) →
      (∀ j ∈ anc.getD i [], own.getD j j = j → w0.heap.size ≤ (iv j).1 ∧ (iv j).1 ≤ (iv j).2 ∧ (iv j).2 ≤ W.heap.size) →
      (∀ j ∈ anc.getD i [], ∀ k ∈ anc.getD i [], own.getD j j = j → own.getD k k = k → j ≠ k → (iv j).2 ≤ (iv k).1 ∨ (iv k).2 ≤ (iv j).1) →
      ∀ K : Act → World → Prop, (∀ v W', RfStep w0.heap.size F own S peers i (iv (own.getD i i)).1 (iv (own.getD i i)).2 (rdst ops i) a W v W' → K (a.put (rdst ops i) v) W') → wpOp P ops Q i K a W)
    (hfin : ∀ (a : Act) (W : World) (iv : Nat → Nat × Nat), RfInv w0 a0 ops F anc own S iv (fun i => decide (i < t)) a W → rfTail P ops Q m t a W) :
    wpAny P md ops Q ops.size (Array.replicate ops.size false) a0 { w0 with drawn := w0.drawn + 1 } := by
  have tail : ∀ (listed : Array Bool) (a : Act) (W : World) (iv : Nat → Nat × Nat), RfInv w0 a0 ops F anc own S iv (fun k => listed.getD k false) a W → (∀ j, j < t → listed.getD j false = true) → rfTail P ops Q m t a W := by
    intro listed a W iv I hl
    refine hfin a W iv ⟨I.below, I.size, I.defers, I.rest, fun i hi hd => ?_, fun i hi hd => ?_, fun i j hi hj hd1 hd2 => ?_⟩
    · have hit : i < t := of_decide_eq_true hd
      refine ⟨fun j hj => ?_, (I.fact i hi (hl i hit)).2⟩
      obtain ⟨-, r2, -⟩ := rfOk_spec hok hi
      exact decide_eq_true (Nat.lt_trans (r2 j hj).1 hit)
    · exact I.ivs i hi (hl i (of_decide_eq_true hd))
    · exact I.apart i j hi hj (hl i (of_decide_eq_true hd1)) (hl j (of_decide_eq_true hd2))
  refine wpAny_inv (fun listed a W => (∃ iv, RfInv w0 a0 ops F anc own S iv (fun k => listed.getD k false) a W ∧ ∀ k, t ≤ k → k < ops.size → listed.getD k false = false) ∨ (∃ k q, t ≤ k ∧ k + q = ops.size ∧ (∀ j, j < k → listed.getD j false = true) ∧ (∀ j, k ≤ j → j < ops.size → listed.getD j false = false) ∧ rfTail P ops Q q k a W)) ?_ ?_ _ _ _ _ (by simp) (by simp) ?_
  · intro listed a W i hI hs hi hli hdep
    have hlf : listed.getD i false = false := by
      have hil : i < listed.size := by omega
      simp only [Array.getD, hil, dif_pos] at hli ⊢
      exact hli
    obtain ⟨r1, r2, r3, r4, r5⟩ := rfOk_spec hok hi
    -- an operation of the tail comes up when all before it are listed
    have up : t ≤ i → (∀ j, j < t → listed.getD j false = true) ∨ (∃ iv, RfInv w0 a0 ops F anc own S iv (fun k => listed.getD k false) a W) → ∀ j, j < i → (∀ j' , j' ∈ anc.getD i [] → (∃ o, ops[i]? = some o ∧ ∃ e ∈ o.after, Region.binds md e = true ∧ (e.on = j' ∨ j' ∈ anc.getD e.on [])) → listed.getD j' false = true) → listed.getD j false = true := by
      intro ht _ j hj hA
      have hm := rfTl_spec htl hi ht j hj
      exact hA j hm (r2 j hm).2.2
    rcases hI with ⟨iv, I, htn⟩ | ⟨k, q, hk1, hk2, hk3, hk4, hT⟩
    rotate_left
    · -- in the tail
      have hki : k ≤ i := by
        rcases Nat.lt_or_ge i k with h | h
        · have := hk3 i h; rw [hlf] at this; cases this
        · exact h
      have hik : i = k := by
        rcases Nat.lt_or_ge k i with h | h
        · exfalso
          have hm := rfTl_spec htl hi (Nat.le_trans hk1 hki) k h
          obtain ⟨-, -, o, ho, e, he, hb, hc⟩ := r2 k hm
          have hl := hdep o ho e he hb
          have hon : e.on < k := by
            rcases Nat.lt_or_ge e.on k with h2 | h2
            · exact h2
            · have := hk4 e.on h2 (Nat.lt_trans (r2 _ (r1 o ho e he hb)).1 hi)
              rw [this] at hl; cases hl
          rcases hc with rfl | hc
          · omega
          · have hen : e.on < ops.size := by omega
            obtain ⟨-, s2, -⟩ := rfOk_spec hok hen
            have := (s2 k hc).1
            omega
        · omega
      subst hik
      obtain ⟨q, rfl⟩ : ∃ q', q = q' + 1 := ⟨q - 1, by omega⟩
      have hil : i < listed.size := by omega
      refine wpOp_mono (fun a' W' hT' => .inr ⟨i + 1, q, by omega, by omega, fun j hj => ?_, fun j hj hjn => ?_, hT'⟩) hT
      · rw [listed_set hil]
        by_cases e : j = i
        · rw [if_pos e]
        · rw [if_neg e]; exact hk3 j (by omega)
      · rw [listed_set hil, if_neg (by omega)]
        exact hk4 j (by omega) hjn
    rcases Nat.lt_or_ge i t with hit | hit
    rotate_left
    · -- the tail begins
      have hd : ∀ j ∈ anc.getD i [], listed.getD j false = true := by
        intro j hj
        obtain ⟨-, -, o, ho, e, he, hb, hc⟩ := r2 j hj
        have hl := hdep o ho e he hb
        rcases hc with rfl | hc
        · exact hl
        · have hen : e.on < ops.size := Nat.lt_trans (r2 _ (r1 o ho e he hb)).1 hi
          exact (I.fact _ hen hl).1 j hc
      have hit2 : i = t := by
        rcases Nat.lt_or_ge t i with h | h
        · have h1 := hd t (rfTl_spec htl hi hit t h)
          rw [htn t (Nat.le_refl _) (by omega)] at h1
          cases h1
        · omega
      subst hit2
      have hall : ∀ j, j < i → listed.getD j false = true := fun j hj => hd j (rfTl_spec htl hi (Nat.le_refl _) j hj)
      have hT := tail listed a W iv I hall
      obtain ⟨q, rfl⟩ : ∃ q', m = q' + 1 := ⟨m - 1, by omega⟩
      have hil : i < listed.size := by omega
      refine wpOp_mono (fun a' W' hT' => .inr ⟨i + 1, q, by omega, by omega, fun j hj => ?_, fun j hj hjn => ?_, hT'⟩) hT
      · rw [listed_set hil]
        by_cases e : j = i
        · rw [if_pos e]
        · rw [if_neg e]; exact hall j (by omega)
      · rw [listed_set hil, if_neg (by omega)]
        exact htn j (by omega) hjn
    clear up
    -- all that it waits for is done
    have hd : ∀ j ∈ anc.getD i [], listed.getD j false = true := by
      intro j hj
      obtain ⟨-, -, o, ho, e, he, hb, hc⟩ := r2 j hj
      have hl := hdep o ho e he hb
      rcases hc with rfl | hc
      · exact hl
      · have hen : e.on < ops.size := Nat.lt_trans (r2 _ (r1 o ho e he hb)).1 hi
        exact (I.fact _ hen hl).1 j hc
    have hjn : ∀ j ∈ anc.getD i [], j < ops.size := fun j hj => Nat.lt_trans (r2 j hj).1 hi
    refine hstep i hit a W iv I.below I.size I.defers I.rest (fun j hj => (I.fact j (hjn j hj) (hd j hj)).2) (fun j hj ho => I.ivs j (hjn j hj) (hd j hj) ho) (fun j hj k hk h1 h2 h3 => I.apart j k (hjn j hj) (hjn k hk) (hd j hj) (hd k hk) h1 h2 h3) _ ?_
    intro v W' R
    refine .inl ?_
    have htn' : ∀ k, t ≤ k → k < ops.size → (listed.setIfInBounds i true).getD k false = false := fun k h1 h2 => by
      rw [listed_set (by omega), if_neg (by omega)]
      exact htn k h1 h2
    suffices hsuf : ∃ iv, RfInv w0 a0 ops F anc own S iv (fun k => (listed.setIfInBounds i true).getD k false) (a.put (rdst ops i) v) W' by
      obtain ⟨iv', I'⟩ := hsuf
      exact ⟨iv', I', htn'⟩
    have hvv : ∀ T : List Nat, vis T (a.put (rdst ops i) v) = visp T a (rdst ops i) v := fun T => vis_visp fun x hx => by rw [I.size]; exact rfFits_spec hfits hi x hx
    have hil : i < listed.size := by omega
    have hset := fun k => listed_set (listed := listed) (i := i) (k := k) hil
    -- an operation that is done does not wait for i, and its fact names no slot that i writes
    have hno : ∀ k, k < ops.size → listed.getD k false = true → k ≠ i ∧ i ∉ anc.getD k [] ∧ own.getD k k ≠ i ∧ vis (S.getD k []) (a.put (rdst ops i) v) = vis (S.getD k []) a ∧ own.getD (own.getD k k) (own.getD k k) = own.getD k k ∧ listed.getD (own.getD k k) false = true ∧ own.getD k k < ops.size := by
      intro k hk hkl
      have e1 : k ≠ i := by rintro rfl; rw [hlf] at hkl; cases hkl
      have e2 : i ∉ anc.getD k [] := fun hm => by have := (I.fact k hk hkl).1 i hm; rw [hlf] at this; cases this
      obtain ⟨-, s2, s3, s4, -⟩ := rfOk_spec hok hk
      refine ⟨e1, e2, fun e => ?_, vis_put fun x hx => s4 i hi (Ne.symm e1) e2 x hx, ?_, ?_, ?_⟩
      · rcases s3 with s3 | s3
        · exact e1 (s3.symm.trans e)
        · rw [e] at s3; exact e2 s3.1
      · rcases s3 with s3 | s3
        · rw [s3]; exact s3
        · exact s3.2
      · rcases s3 with s3 | s3
        · rw [s3]; exact hkl
        · exact (I.fact k hk hkl).1 _ s3.1
      · rcases s3 with s3 | s3
        · rw [s3]; exact hk
        · exact Nat.lt_trans (s2 _ s3.1).1 hk
    have hG : w0.heap.size ≤ W.heap.size := I.below.size
    have hkt : ∀ k, k < ops.size → listed.getD k false = true → k < t := fun k hk hkl => by
      rcases Nat.lt_or_ge k t with h | h
      · exact h
      · rw [htn k h hk] at hkl; cases hkl
    have hrest : ∀ s, (∀ j, j < ops.size → rdst ops j ≠ some s) → slot (a.put (rdst ops i) v) s = slot a0 s := fun s h => (slot_put (h i hi)).trans (I.rest s h)
    have hdone : ∀ k, k < ops.size → (if k = i then true else listed.getD k false) = true → k = i ∨ listed.getD k false = true := by
      intro k _ h
      by_cases e : k = i
      · exact .inl e
      · rw [if_neg e] at h; exact .inr h
    by_cases ho : own.getD i i = i
    · obtain ⟨hb, hF⟩ := R.made ho
      have hb0 : Below w0.heap.size W W' := hb.mono hG
      refine ⟨fun k => if k = i then (W.heap.size, W'.heap.size) else iv k, I.below.trans hb0, (put_size _ _ _).1.trans I.size, (put_size _ _ _).2.trans I.defers, hrest, ?_, ?_, ?_⟩
      · intro k hk hkd
        simp only [hset] at hkd ⊢
        rcases hdone k hk hkd with rfl | hkl
        · refine ⟨fun j hj => ?_, ?_⟩
          · by_cases e : j = k
            · rw [if_pos e]
            · rw [if_neg e]; exact hd j hj
          · rw [ho, if_pos rfl, hvv]
            exact hF
        · obtain ⟨e1, e2, e3, e4, e5, e6, e7⟩ := hno k hk hkl
          refine ⟨fun j hj => ?_, ?_⟩
          · by_cases e : j = i
            · rw [if_pos e]
            · rw [if_neg e]; exact (I.fact k hk hkl).1 j hj
          · rw [if_neg e3, e4]
            obtain ⟨q1, q2, q3⟩ := I.ivs _ e7 e6 e5
            exact hst k (hkt k hk hkl) _ _ _ _ _ (I.fact k hk hkl).2 q1 q2 q3 hG (.of_below hb)
      · intro k hk hkd hko
        simp only [hset] at hkd ⊢
        rcases hdone k hk hkd with rfl | hkl
        · rw [if_pos rfl]
          exact ⟨hG, hb.size, Nat.le_refl _⟩
        · rw [if_neg (hno k hk hkl).1]
          obtain ⟨q1, q2, q3⟩ := I.ivs k hk hkl hko
          exact ⟨q1, q2, Nat.le_trans q3 hb.size⟩
      · intro j k hj hk hjd hkd hjo hko hne
        simp only [hset] at hjd hkd ⊢
        rcases hdone j hj hjd with rfl | hjl
        · rw [if_pos rfl]
          rcases hdone k hk hkd with rfl | hkl
          · exact absurd rfl hne
          · rw [if_neg (hno k hk hkl).1]
            exact .inr (I.ivs k hk hkl hko).2.2
        · rw [if_neg (hno j hj hjl).1]
          rcases hdone k hk hkd with rfl | hkl
          · rw [if_pos rfl]
            exact .inl (I.ivs j hj hjl hjo).2.2
          · rw [if_neg (hno k hk hkl).1]
            exact I.apart j k hj hk hjl hkl hjo hko hne
    · obtain ⟨hs', hF, hP⟩ := R.wrote ho
      rcases r3 with r3 | ⟨r3, r3'⟩
      · exact absurd r3 ho
      have hol := hd _ r3
      have hon := hjn _ r3
      obtain ⟨q1, q2, q3⟩ := I.ivs _ hon hol r3'
      have hb0 : Below w0.heap.size W W' := hs'.below.mono q1
      refine ⟨iv, I.below.trans hb0, (put_size _ _ _).1.trans I.size, (put_size _ _ _).2.trans I.defers, hrest, ?_, ?_, ?_⟩
      · intro k hk hkd
        simp only [hset] at hkd ⊢
        rcases hdone k hk hkd with rfl | hkl
        · refine ⟨fun j hj => ?_, by rw [hvv]; exact hF⟩
          by_cases e : j = k
          · rw [if_pos e]
          · rw [if_neg e]; exact hd j hj
        · obtain ⟨e1, e2, e3, e4, e5, e6, e7⟩ := hno k hk hkl
          refine ⟨fun j hj => ?_, ?_⟩
          · by_cases e : j = i
            · rw [if_pos e]
            · rw [if_neg e]; exact (I.fact k hk hkl).1 j hj
          · rw [e4]
            by_cases eo : own.getD k k = own.getD i i
            · have hf := (I.fact k hk hkl).2
              rw [eo] at hf ⊢
              exact hP k (r5 k hk e1 eo ho) hf
            · obtain ⟨p1, p2, p3⟩ := I.ivs _ e7 e6 e5
              have hap := I.apart _ _ e7 hon e6 hol e5 r3' eo
              refine hst k (hkt k hk hkl) _ _ _ _ _ (I.fact k hk hkl).2 p1 p2 p3 hG ⟨hs'.below.size, fun b hb _ => hs'.below.block b (Nat.lt_of_lt_of_le hb q1), fun b h1 h2 h3 => ?_⟩
              rcases hap with hap | hap
              · exact hs'.below.block b (Nat.lt_of_lt_of_le h2 hap)
              · exact hs'.over b (Nat.le_trans hap h1) h3
      · intro k hk hkd hko
        simp only [hset] at hkd
        rcases hdone k hk hkd with rfl | hkl
        · exact absurd hko ho
        · obtain ⟨p1, p2, p3⟩ := I.ivs k hk hkl hko
          exact ⟨p1, p2, Nat.le_trans p3 hs'.below.size⟩
      · intro j k hj hk hjd hkd hjo hko hne
        simp only [hset] at hjd hkd
        rcases hdone j hj hjd with rfl | hjl
        · exact absurd hjo ho
        rcases hdone k hk hkd with rfl | hkl
        · exact absurd hko ho
        exact I.apart j k hj hk hjl hkl hjo hko hne
  · intro listed a W hI hs hnil
    have hall := ready_nil' (fun i o ho e he hb => by
      have hi : i < ops.size := (Array.getElem?_eq_some_iff.1 ho).1
      obtain ⟨r1, r2, -⟩ := rfOk_spec hok hi
      exact (r2 _ (r1 o ho e he hb)).1) hs hnil
    rcases hI with ⟨iv, I, htn⟩ | ⟨k, q, hk1, hk2, hk3, hk4, hT⟩
    · have hm : m = 0 := by
        rcases Nat.eq_zero_or_pos m with h | h
        · exact h
        · have h1 := hall t (by omega)
          rw [htn t (Nat.le_refl _) (by omega)] at h1
          cases h1
      have hT := tail listed a W iv I (fun j hj => hall j (by omega))
      rw [hm] at hT
      exact hT
    · have hq : q = 0 := by
        rcases Nat.eq_zero_or_pos q with h | h
        · exact h
        · have h1 := hall k (by omega)
          rw [hk4 k (Nat.le_refl _) (by omega)] at h1
          cases h1
      rw [hq] at hT
      exact hT
  · refine .inl ⟨fun _ => (0, 0), ⟨(Below.refl _ _).drew, rfl, rfl, fun _ _ => rfl, ?_, ?_, ?_⟩, fun k _ _ => by simp [Array.getD]⟩
    · intro i hi hd
      simp [Array.getD] at hd
    · intro i hi hd
      simp [Array.getD] at hd
    · intro i j hi hj hd
      simp [Array.getD] at hd

/-- A region in any order, by its operations' facts. -/
theorem wpAny_facts {a0 : Act} {w0 : World} (F : Nat → Nat → Nat → (Nat → Value) → World → Prop) (anc : List (List Nat)) (own : List Nat) (S peers : List (List Nat))
    (hok : rfOk md ops anc own S peers = true) (hfits : rfFits ops a0.tmps.size = true)
    (hst : ∀ i, i < ops.size → ∀ lo hi s W W', F i lo hi s W → w0.heap.size ≤ lo → lo ≤ hi → hi ≤ W.heap.size → w0.heap.size ≤ W.heap.size → Kept w0.heap.size lo hi W W' → F i lo hi s W')
    (hstep : ∀ i, i < ops.size → ∀ (a : Act) (W : World) (iv : Nat → Nat × Nat), Below w0.heap.size w0 W → a.tmps.size = a0.tmps.size → a.defers = a0.defers → (∀ s, (∀ j, j < ops.size → rdst ops j ≠ some s) → slot a s = slot a0 s) →
      (∀ j ∈ anc.getD i [], F j (iv (own.getD j j)).1 (iv (own.getD j j)).2 (vis (S.getD j []) a) W) →
      (∀ j ∈ anc.getD i [], own.getD j j = j → w0.heap.size ≤ (iv j).1 ∧ (iv j).1 ≤ (iv j).2 ∧ (iv j).2 ≤ W.heap.size) →
      (∀ j ∈ anc.getD i [], ∀ k ∈ anc.getD i [], own.getD j j = j → own.getD k k = k → j ≠ k → (iv j).2 ≤ (iv k).1 ∨ (iv k).2 ≤ (iv j).1) →
      ∀ K : Act → World → Prop, (∀ v W', RfStep w0.heap.size F own S peers i (iv (own.getD i i)).1 (iv (own.getD i i)).2 (rdst ops i) a W v W' → K (a.put (rdst ops i) v) W') → wpOp P ops Q i K a W)
    (hfin : ∀ (a : Act) (W : World) (iv : Nat → Nat × Nat), RfInv w0 a0 ops F anc own S iv (fun _ => true) a W → Q .normal a W) :
    wpAny P md ops Q ops.size (Array.replicate ops.size false) a0 { w0 with drawn := w0.drawn + 1 } := by
  refine wpAny_factsT F anc own S peers hok hfits ops.size 0 (by simp) ?_ hst hstep ?_
  · exact List.all_eq_true.2 fun i hi => by simp [List.mem_range.1 hi]
  · intro a W iv I
    exact hfin a W iv ⟨I.below, I.size, I.defers, I.rest, fun i hi _ => ⟨fun _ _ => rfl, (I.fact i hi (decide_eq_true hi)).2⟩, fun i hi _ => I.ivs i hi (decide_eq_true hi), fun i j hi hj _ _ => I.apart i j hi hj (decide_eq_true hi) (decide_eq_true hj)⟩

end

theorem yielded_of {ops : Array Oper} {a : Act} {g d : Nat} {b : Bool} (hd : rdst ops g = some d) (hv : a.tmps.getD d undef = .bool b) : yielded ops a.tmps g = some b := by
  unfold yielded
  unfold rdst at hd
  rw [hd]
  by_cases hlt : d < a.tmps.size
  · rw [Option.bind_some, Array.getElem?_eq_getElem hlt]
    simp only [Array.getD, hlt, dif_pos] at hv
    have hv : a.tmps[d] = .bool b := hv
    rw [hv]
  · simp only [Array.getD, hlt, dif_neg, not_false_eq_true] at hv
    cases hv

theorem wanted_pos {ops : Array Oper} {o : Oper} {a : Act} {g d : Nat} {b : Bool} (hg : o.guard = some (g, b)) (hd : rdst ops g = some d) (hv : a.tmps.getD d undef = .bool b) : Region.wanted o (yielded ops a.tmps) = true := by
  unfold Region.wanted
  rw [hg]
  simp only [yielded_of hd hv]
  simp

theorem wanted_neg {ops : Array Oper} {o : Oper} {a : Act} {g d : Nat} {b b' : Bool} (hg : o.guard = some (g, b)) (hd : rdst ops g = some d) (hv : a.tmps.getD d undef = .bool b') (hne : b' ≠ b) : ¬ Region.wanted o (yielded ops a.tmps) = true := by
  unfold Region.wanted
  rw [hg]
  simp only [yielded_of hd hv]
  simpa using hne

/-! Owned values by Kept. -/
theorem Ow.on {w w' : World} {v : Value} {l : List Int} {lo hi : Nat} (h : Ow w v l lo hi) (hs : w.heap.size ≤ w'.heap.size) (k : ∀ b, lo ≤ b → b < hi → b < w.heap.size → w'.heap[b]? = w.heap[b]?) : Ow w' v l lo hi := by
  obtain ⟨⟨F, h, hF⟩, h1, h2⟩ := h
  exact ⟨⟨F, h.eq fun x hx => k x (hF x hx).1 (hF x hx).2 (h.lt x hx), hF⟩, h1, Nat.le_trans h2 hs⟩

theorem Owp.on {w w' : World} {v : Value} {ps : List Pv} {lo hi : Nat} (h : Owp w v ps lo hi) (hs : w.heap.size ≤ w'.heap.size) (k : ∀ b, lo ≤ b → b < hi → b < w.heap.size → w'.heap[b]? = w.heap[b]?) : Owp w' v ps lo hi :=
  ⟨owns_eq h.own fun g hg => k g (World.ownsRow.lt h.own g hg).1 (h.lt g hg) (World.ownsRow.lt h.own g hg).2, h.lt, h.le, Nat.le_trans h.top hs⟩

/-- A column of the call's own, its rows' own stretches left open. -/
def Oc (w : World) (v : Value) (l r : List Int) (ps : List Pv) (lo hi : Nat) : Prop := ∃ x y z n1 h1 n2 h2 n3 h3, v = .agg #[x, y, z] ∧ OC w x y z l r ps lo hi n1 h1 n2 h2 n3 h3

theorem OC.on {w w' : World} {x y z : Value} {l r : List Int} {ps : List Pv} {lo hi n1 h1 n2 h2 n3 h3 : Nat} (h : OC w x y z l r ps lo hi n1 h1 n2 h2 n3 h3) (hs : w.heap.size ≤ w'.heap.size) (k : ∀ b, lo ≤ b → b < hi → b < w.heap.size → w'.heap[b]? = w.heap[b]?) : OC w' x y z l r ps lo hi n1 h1 n2 h2 n3 h3 :=
  ⟨h.x.on hs fun b a c => k b (Nat.le_trans h.low.1 a) (Nat.lt_of_lt_of_le c h.high.1), h.y.on hs fun b a c => k b (Nat.le_trans h.low.2.1 a) (Nat.lt_of_lt_of_le c h.high.2.1), h.z.on hs fun b a c => k b (Nat.le_trans h.low.2.2 a) (Nat.lt_of_lt_of_le c h.high.2.2), h.low, h.high, h.apart, h.top.1, Nat.le_trans h.top.2 hs⟩

theorem Oc.on {w w' : World} {v : Value} {l r : List Int} {ps : List Pv} {G lo hi : Nat} (h : Oc w v l r ps lo hi) (k : Kept G lo hi w w') : Oc w' v l r ps lo hi := by
  obtain ⟨x, y, z, n1, h1, n2, h2, n3, h3, e, h⟩ := h
  exact ⟨x, y, z, n1, h1, n2, h2, n3, h3, e, h.on k.size k.own⟩

theorem Oc.below {w w' : World} {v : Value} {l r : List Int} {ps : List Pv} {lo hi : Nat} (h : Oc w v l r ps lo hi) (hb : Below w.heap.size w w') : Oc w' v l r ps lo hi := by
  obtain ⟨x, y, z, n1, h1, n2, h2, n3, h3, e, h⟩ := h
  exact ⟨x, y, z, n1, h1, n2, h2, n3, h3, e, h.below hb⟩

theorem Oc.seg {w w' : World} {v : Value} {l r : List Int} {ps : List Pv} {lo hi a b : Nat} (h : Oc w v l r ps lo hi) (s : Seg a b w w') (d : hi ≤ a ∨ b ≤ lo) : Oc w' v l r ps lo hi := by
  obtain ⟨x, y, z, n1, h1, n2, h2, n3, h3, e, h⟩ := h
  exact ⟨x, y, z, n1, h1, n2, h2, n3, h3, e, h.seg s d⟩

theorem Oc.mono {w : World} {v : Value} {l r : List Int} {ps : List Pv} {lo hi lo' hi' : Nat} (h : Oc w v l r ps lo hi) (h1 : lo' ≤ lo) (h2 : hi ≤ hi') (h3 : hi' ≤ w.heap.size) : Oc w v l r ps lo' hi' := by
  obtain ⟨x, y, z, n1, k1, n2, k2, n3, k3, e, h⟩ := h
  obtain ⟨a1, a2, a3⟩ := h.low
  obtain ⟨b1, b2, b3⟩ := h.high
  obtain ⟨t1, t2⟩ := h.top
  exact ⟨x, y, z, n1, k1, n2, k2, n3, k3, e, h.x, h.y, h.z, ⟨by omega, by omega, by omega⟩, ⟨by omega, by omega, by omega⟩, h.apart, by omega, h3⟩

theorem Oc.top {w : World} {v : Value} {l r : List Int} {ps : List Pv} {lo hi : Nat} (h : Oc w v l r ps lo hi) : lo ≤ hi ∧ hi ≤ w.heap.size := by
  obtain ⟨x, y, z, n1, h1, n2, h2, n3, h3, e, h⟩ := h
  exact h.top

/-- All numbers fit. -/
def CkWf (l r : List Int) (ps : List Pv) : Prop := (∀ x ∈ l, I64 x) ∧ (∀ x ∈ r, I64 x) ∧ ps.length ≤ 9223372036854775807 ∧ ∀ p ∈ ps, I64 p.1 ∧ I64 p.2

theorem Oc.rd {w : World} {v : Value} {l r : List Int} {ps : List Pv} {lo hi : Nat} (h : Oc w v l r ps lo hi) (hw : CkWf l r ps) : Ck w w.heap.size v l r ps := by
  obtain ⟨x, y, z, n1, h1, n2, h2, n3, h3, rfl, h⟩ := h
  exact h.ck hw.1 hw.2.1 hw.2.2.1 hw.2.2.2

theorem Oc.form {w : World} {v : Value} {l r : List Int} {ps : List Pv} {lo hi : Nat} (h : Oc w v l r ps lo hi) : ∃ a1 c1 a2 c2 a3 c3, v = .agg #[.slice a1 l.length c1, .slice a2 r.length c2, .slice a3 ps.length c3] := by
  obtain ⟨x, y, z, n1, h1, n2, h2, n3, h3, rfl, h⟩ := h
  obtain ⟨a1, c1, rfl⟩ := h.x.form
  obtain ⟨a2, c2, rfl⟩ := h.y.form
  obtain ⟨a3, c3, rfl⟩ := h.z.own.form
  exact ⟨_, _, _, _, _, _, rfl⟩

/-- A new column of the call's own is returned; nothing that was there has turned. -/
def RetOc (w : World) (l r : List Int) (ps : List Pv) (e : Ending) (w' : World) : Prop := ∃ v, e = .returned v ∧ Oc w' v l r ps w.heap.size w'.heap.size ∧ Below w.heap.size w w'

theorem toCracker_o (v : Value) (l r : List Int) (ps : List Pv) (w : World) (B : Nat) (hv : Ck w B v l r ps) (hB : B ≤ w.heap.size) (hl : l.length ≤ 1048576) (hr : r.length ≤ 1048576) (hp : ps.length ≤ 1048576) :
    Calls Try.prog 23 #[v] w (RetOc w l r ps) := by
  refine (toCracker_own v l r ps w B hv hB hl hr hp).mono ?_
  rintro e w' ⟨u, lo, rfl, hlo, ⟨x, y, z, n1, n2, rfl, h1, h2, h3⟩, hb⟩
  have q1 := h1.le
  have q2 := h2.le
  have q3 := h3.le
  have q4 := h3.top
  exact ⟨_, rfl, ⟨x, y, z, _, _, _, _, _, _, rfl, h1, h2, h3, ⟨by omega, by omega, by omega⟩, ⟨by omega, by omega, by omega⟩, ⟨.inl (by omega), .inl (by omega), .inl (by omega)⟩, hb.size, Nat.le_refl _⟩, hb⟩

/-- A number is returned, the column's own elements now read as l, r, ps, only their stretch has turned. -/
def RetMOc (w : World) (v : Value) (l r : List Int) (ps : List Pv) (lo hi : Nat) (k : Int) (e : Ending) (w' : World) : Prop := e = .returned (.int .i64 k) ∧ Oc w' v l r ps lo hi ∧ Seg lo hi w w'

theorem markCracker_o (v : Value) (l r : List Int) (ps : List Pv) (lo hi : Nat) (k : Int) (w : World) (h : Oc w v l r ps lo hi) (k0 : 0 ≤ k) (k1 : k + l.length + r.length + 2 * ps.length ≤ 4611686018427387904) :
    Calls Try.prog 19 #[v, .int .i64 k] w (RetMOc w v (mkI k l.length) (mkI (k + l.length) r.length) (mkP (k + l.length + r.length) ps.length) lo hi (k + l.length + r.length + 2 * ps.length)) := by
  obtain ⟨x, y, z, n1, h1, n2, h2, n3, h3, rfl, h⟩ := h
  refine (markCracker_oc x y z l r ps lo hi n1 h1 n2 h2 n3 h3 k w h k0 k1).mono ?_
  rintro e w' ⟨rfl, h', s⟩
  exact ⟨rfl, ⟨_, _, _, _, _, _, _, _, _, rfl, h'⟩, s⟩

theorem heldCracker_o (v : Value) (l r p : Nat) (lo hi : Nat) (k : Int) (w : World) (h : Oc w v (mkI k l) (mkI (k + l) r) (mkP (k + l + r) p) lo hi) (k0 : 0 ≤ k) (k1 : k + l + r + 2 * p ≤ 4611686018427387904) :
    Calls Try.prog 20 #[v, .int .i64 k] w (RetI1 w (k + l + r + 2 * p)) := by
  obtain ⟨x, y, z, n1, h1, n2, h2, n3, h3, rfl, h⟩ := h
  exact heldCracker_oc x y z l r p lo hi n1 h1 n2 h2 n3 h3 k w h k0 k1

/-- Integers of the call's own, in the words of the other types. -/
def Oin (w : World) (v : Value) (l : List Int) (lo hi : Nat) : Prop := Ow w v l lo hi
def IntsWf (l : List Int) : Prop := ∀ x ∈ l, I64 x
theorem Oin.on {w w' : World} {v : Value} {l : List Int} {G lo hi : Nat} (h : Oin w v l lo hi) (k : Kept G lo hi w w') : Oin w' v l lo hi := Ow.on h k.size k.own
theorem Oin.below {w w' : World} {v : Value} {l : List Int} {lo hi : Nat} (h : Oin w v l lo hi) (hb : Below w.heap.size w w') : Oin w' v l lo hi := Ow.below h hb
theorem Oin.seg {w w' : World} {v : Value} {l : List Int} {lo hi a b : Nat} (h : Oin w v l lo hi) (s : Seg a b w w') (d : hi ≤ a ∨ b ≤ lo) : Oin w' v l lo hi := Ow.seg h s d
theorem Oin.top {w : World} {v : Value} {l : List Int} {lo hi : Nat} (h : Oin w v l lo hi) : lo ≤ hi ∧ hi ≤ w.heap.size := ⟨h.le, Ow.top h⟩
theorem Oin.rd {w : World} {v : Value} {l : List Int} {lo hi : Nat} (h : Oin w v l lo hi) (hw : IntsWf l) : Ints w w.heap.size v l := Ow.ints h hw
theorem Oin.form {w : World} {v : Value} {l : List Int} {lo hi : Nat} (h : Oin w v l lo hi) : ∃ a c, v = .slice a l.length c := Ow.form h
def RetMOin (w : World) (v : Value) (l : List Int) (lo hi : Nat) (k : Int) (e : Ending) (w' : World) : Prop := e = .returned (.int .i64 k) ∧ Oin w' v l lo hi ∧ Seg lo hi w w'
theorem markIntS_o (v : Value) (l : List Int) (lo hi : Nat) (k : Int) (w : World) (h : Oin w v l lo hi) (k0 : 0 ≤ k) (k1 : k + l.length ≤ 4611686018427387904) :
    Calls Try.prog 17 #[v, .int .i64 k] w (RetMOin w v (mkI k l.length) lo hi (k + l.length)) := by
  refine (markIntS_ow v l lo hi k w h k0 k1).mono ?_
  rintro e w' ⟨rfl, h', s⟩
  exact ⟨rfl, h', s⟩
theorem heldIntS_o (v : Value) (n : Nat) (lo hi : Nat) (k : Int) (w : World) (h : Oin w v (mkI k n) lo hi) (k0 : 0 ≤ k) (k1 : k + n ≤ 4611686018427387904) :
    Calls Try.prog 60 #[v, .int .i64 k] w (RetI1 w (k + n)) := by
  refine (heldIntS_ow v n lo hi k w h k0 k1).mono ?_
  rintro e w' ⟨rfl, rfl⟩
  exact ⟨rfl, Below.refl _ _⟩
theorem eqIntS_same (v u : Value) (l : List Int) (w : World) (B : Nat) (hB : B ≤ w.heap.size) (hv : Ints w B v l) (hu : Ints w B u l) : Calls Try.prog 15 #[v, u] w (RetB1 w true) := eqIntS_alike v u l w B hv hu

theorem Kn.add {w W : World} {L : List (Nat × Array Value × TypeId)} (h : Kn w W L) {g : Nat} {c : Array Value} {t : TypeId} (hg : W.heap[g]? = some (.cells c t (0, 0))) (hlow : w.heap.size ≤ g) (hne : ∀ e ∈ L, e.1 ≠ g) : Kn w W (L ++ [(g, c, t)]) := by
  refine ⟨h.below, fun e he => ?_, fun e he => ?_, ?_⟩
  · rcases List.mem_append.1 he with he | he
    · exact h.hold e he
    · obtain rfl : e = (g, c, t) := by simpa using he
      exact hg
  · rcases List.mem_append.1 he with he | he
    · exact h.high e he
    · obtain rfl : e = (g, c, t) := by simpa using he
      exact hlow
  · rw [List.map_append, List.nodup_append]
    refine ⟨h.nodup, by simp, fun a ha b hb => ?_⟩
    obtain ⟨e, he, rfl⟩ := List.mem_map.1 ha
    obtain rfl : b = g := by simpa using hb
    exact hne e he

/-- What was known ahead, and what a stretch made. -/
theorem Kn.joinR {w u W : World} {L M : List (Nat × Array Value × TypeId)} (h : Kn w u L) (k : Kn u W M) : Kn w W (L ++ M) := by
  have h2 := h.up k.below
  refine ⟨h2.below, fun e he => ?_, fun e he => ?_, ?_⟩
  · rcases List.mem_append.1 he with he | he
    · exact h2.hold e he
    · exact k.hold e he
  · rcases List.mem_append.1 he with he | he
    · exact h.high e he
    · exact Nat.le_trans h.below.size (k.high e he)
  · rw [List.map_append, List.nodup_append]
    refine ⟨h.nodup, k.nodup, fun a ha b hb => ?_⟩
    obtain ⟨e, he, rfl⟩ := List.mem_map.1 ha
    obtain ⟨f, hf, rfl⟩ := List.mem_map.1 hb
    have h3 := (Array.getElem?_eq_some_iff.1 (h.hold e he)).1
    have h4 := k.high f hf
    omega

theorem Kn.lts {w W : World} {L : List (Nat × Array Value × TypeId)} (h : Kn w W L) : ∀ e ∈ L, e.1 < W.heap.size := fun e he => (Array.getElem?_eq_some_iff.1 (h.hold e he)).1

/-- A region's own boxes, read off its facts. -/
theorem Kn.none {w W : World} (h : Below w.heap.size w W) : Kn w W [] := ⟨h, fun e h => by simp at h, fun e h => by simp at h, by simp⟩

theorem size2 {c : Array Value} (h : c.size = 2) : ∃ a b, c = #[a, b] := by
  match c, h with
  | ⟨[a, b]⟩, _ => exact ⟨a, b, rfl⟩
theorem size3 {c : Array Value} (h : c.size = 3) : ∃ a b d, c = #[a, b, d] := by
  match c, h with
  | ⟨[a, b, d]⟩, _ => exact ⟨a, b, d, rfl⟩

theorem heap_put2 {W : World} {g : Nat} {c : Array Value} {t : TypeId} (h : W.heap[g]? = some (.cells c t (0, 0))) (hc : c.size = 2) (x y : Value) : ((W.setCell ⟨g, 0, none⟩ x).setCell ⟨g, 1, none⟩ y).heap[g]? = some (.cells #[x, y] t (0, 0)) := by
  obtain ⟨a, b, rfl⟩ := size2 hc
  have h1 := heap_setCell_same W g 0 _ _ x h
  have h2 := heap_setCell_same _ g 1 _ _ y h1
  simpa using h2

theorem heap_put3 {W : World} {g : Nat} {c : Array Value} {t : TypeId} (h : W.heap[g]? = some (.cells c t (0, 0))) (hc : c.size = 3) (x y z : Value) : (((W.setCell ⟨g, 0, none⟩ x).setCell ⟨g, 1, none⟩ y).setCell ⟨g, 2, none⟩ z).heap[g]? = some (.cells #[x, y, z] t (0, 0)) := by
  obtain ⟨a, b, d, rfl⟩ := size3 hc
  have h1 := heap_setCell_same W g 0 _ _ x h
  have h2 := heap_setCell_same _ g 1 _ _ y h1
  have h3 := heap_setCell_same _ g 2 _ _ z h2
  simpa using h3

theorem segS2 {W : World} {g lo hi : Nat} (h1 : lo ≤ g) (h2 : g < hi) (x y : Value) : Seg lo hi W ((W.setCell ⟨g, 0, none⟩ x).setCell ⟨g, 1, none⟩ y) :=
  ((Seg.setCell W g 0 x).mono h1 h2).trans ((Seg.setCell _ g 1 y).mono h1 h2)
theorem segS3 {W : World} {g lo hi : Nat} (h1 : lo ≤ g) (h2 : g < hi) (x y z : Value) : Seg lo hi W (((W.setCell ⟨g, 0, none⟩ x).setCell ⟨g, 1, none⟩ y).setCell ⟨g, 2, none⟩ z) :=
  (segS2 h1 h2 x y).trans ((Seg.setCell _ g 2 z).mono h1 h2)

end Go.Proofs.Ytajfhalalnlejaa
