/- Values of type Map: read only (Mp), owned by the call (MpO); the laws' szMap, toMap, eqMap, markMap, heldMap. -/
import Derived.Test.YtepkkeclkdlheaaRf
import Derived.Test.YtepkkeclkdlheaaCkX
namespace Go.Proofs.Ytepkkeclkdlheaa
open Go.RowKit Go.ChangeShapes
set_option linter.unusedSimpArgs false
set_option linter.unusedVariables false
set_option maxRecDepth 100000

/-- v is a map whose column reads as l, r, ps, its tail as t; its cells lie below block B. -/
def Mp (w : World) (B : Nat) (v : Value) (l r : List Int) (ps : List Pv) (t : List Int) (a : Int) : Prop := ∃ y1 y2 y3 x, v = .agg #[y1, y2, y3, x, .int .i64 a] ∧ Ck w B (.agg #[y1, y2, y3]) l r ps ∧ Ints w B x t ∧ Cap x ∧ I64 a

/-- All numbers fit. -/
def MpWf (l r : List Int) (ps : List Pv) (t : List Int) (a : Int) : Prop := CkWf l r ps ∧ IntsWf t ∧ I64 a

theorem Mp.below {w w' : World} {B C : Nat} {v : Value} {l r : List Int} {ps : List Pv} {t : List Int} {a : Int} (h : Mp w B v l r ps t a) (hb : Below C w w') (hC : B ≤ C) : Mp w' B v l r ps t a := by
  obtain ⟨y1, y2, y3, x, e, h1, h2, h3⟩ := h
  exact ⟨y1, y2, y3, x, e, h1.below hb hC, h2.below hb hC, h3⟩

theorem Mp.mono {w : World} {B C : Nat} {v : Value} {l r : List Int} {ps : List Pv} {t : List Int} {a : Int} (h : Mp w B v l r ps t a) (hC : B ≤ C) : Mp w C v l r ps t a := by
  obtain ⟨y1, y2, y3, x, e, h1, h2, h3⟩ := h
  exact ⟨y1, y2, y3, x, e, h1.mono hC, h2.mono hC, h3⟩

theorem Mp.up {w w' : World} {v : Value} {l r : List Int} {ps : List Pv} {t : List Int} {a : Int} (h : Mp w w.heap.size v l r ps t a) (hb : Below w.heap.size w w') : Mp w' w'.heap.size v l r ps t a := (h.below hb (Nat.le_refl _)).mono hb.size

theorem Mp.wf {w : World} {B : Nat} {v : Value} {l r : List Int} {ps : List Pv} {t : List Int} {a : Int} (h : Mp w B v l r ps t a) : MpWf l r ps t a := by
  obtain ⟨_, _, _, x, _, h1, ⟨_, _, _, _, h2, _⟩, _, h4⟩ := h
  exact ⟨h1.wf, h2, h4⟩

theorem Mp.form {w : World} {B : Nat} {v : Value} {l r : List Int} {ps : List Pv} {t : List Int} {a : Int} (h : Mp w B v l r ps t a) : ∃ a1 c1 a2 c2 a3 c3 a4 c4, v = .agg #[.slice a1 l.length c1, .slice a2 r.length c2, .slice a3 ps.length c3, .slice a4 t.length c4, .int .i64 a] ∧ Ck w B (.agg #[.slice a1 l.length c1, .slice a2 r.length c2, .slice a3 ps.length c3]) l r ps ∧ Ints w B (.slice a4 t.length c4) t := by
  obtain ⟨y1, y2, y3, x, rfl, h1, h2, h3⟩ := h
  obtain ⟨a1, c1, a2, c2, a3, c3, e, -⟩ := h1.form
  injection e with e
  injection e with e
  injection e with e1 e
  injection e with e2 e
  injection e with e3 e
  subst e1 e2 e3
  obtain ⟨a4, c4, rfl⟩ := h2.form
  exact ⟨_, _, _, _, _, _, _, _, rfl, h1, h2⟩

/-- A map of the call's own: its column and its tail lie apart, from block lo on, below hi. -/
def MpO (w : World) (v : Value) (l r : List Int) (ps : List Pv) (t : List Int) (a : Int) (lo hi : Nat) : Prop := ∃ y1 y2 y3 x n1 h1 n2 h2, v = .agg #[y1, y2, y3, x, .int .i64 a] ∧ Oc w (.agg #[y1, y2, y3]) l r ps n1 h1 ∧ Ow w x t n2 h2 ∧ (lo ≤ n1 ∧ lo ≤ n2 ∧ h1 ≤ hi ∧ h2 ≤ hi ∧ (h1 ≤ n2 ∨ h2 ≤ n1)) ∧ lo ≤ hi ∧ hi ≤ w.heap.size

theorem MpO.below {w w' : World} {v : Value} {l r : List Int} {ps : List Pv} {t : List Int} {a : Int} {lo hi : Nat} (h : MpO w v l r ps t a lo hi) (hb : Below w.heap.size w w') : MpO w' v l r ps t a lo hi := by
  obtain ⟨y1, y2, y3, x, n1, h1, n2, h2, e, o1, o2, p, q1, q2⟩ := h
  exact ⟨y1, y2, y3, x, n1, h1, n2, h2, e, o1.below hb, o2.below hb, p, q1, Nat.le_trans q2 hb.size⟩

theorem MpO.seg {w w' : World} {v : Value} {l r : List Int} {ps : List Pv} {t : List Int} {a : Int} {lo hi b b' : Nat} (h : MpO w v l r ps t a lo hi) (s : Seg b b' w w') (d : hi ≤ b ∨ b' ≤ lo) : MpO w' v l r ps t a lo hi := by
  obtain ⟨y1, y2, y3, x, n1, h1, n2, h2, e, o1, o2, p, q1, q2⟩ := h
  exact ⟨y1, y2, y3, x, n1, h1, n2, h2, e, o1.seg s (by omega), o2.seg s (by omega), p, q1, Nat.le_trans q2 s.below.size⟩

theorem MpO.on {w w' : World} {v : Value} {l r : List Int} {ps : List Pv} {t : List Int} {a : Int} {G lo hi : Nat} (h : MpO w v l r ps t a lo hi) (k : Kept G lo hi w w') : MpO w' v l r ps t a lo hi := by
  obtain ⟨y1, y2, y3, x, n1, h1, n2, h2, e, o1, o2, p, q1, q2⟩ := h
  obtain ⟨p1, p2, p3, p4, p5⟩ := p
  exact ⟨y1, y2, y3, x, n1, h1, n2, h2, e, o1.on ⟨k.size, k.old, fun b b1 b2 b3 => k.own b (Nat.le_trans p1 b1) (Nat.lt_of_lt_of_le b2 p3) b3⟩, o2.on k.size fun b b1 b2 b3 => k.own b (Nat.le_trans p2 b1) (Nat.lt_of_lt_of_le b2 p4) b3, ⟨p1, p2, p3, p4, p5⟩, q1, Nat.le_trans q2 k.size⟩

theorem MpO.mono {w : World} {v : Value} {l r : List Int} {ps : List Pv} {t : List Int} {a : Int} {lo hi lo' hi' : Nat} (h : MpO w v l r ps t a lo hi) (k1 : lo' ≤ lo) (k2 : hi ≤ hi') (k3 : hi' ≤ w.heap.size) : MpO w v l r ps t a lo' hi' := by
  obtain ⟨y1, y2, y3, x, n1, h1, n2, h2, e, o1, o2, p, q1, q2⟩ := h
  exact ⟨y1, y2, y3, x, n1, h1, n2, h2, e, o1, o2, by omega, by omega, k3⟩

theorem MpO.top {w : World} {v : Value} {l r : List Int} {ps : List Pv} {t : List Int} {a : Int} {lo hi : Nat} (h : MpO w v l r ps t a lo hi) : lo ≤ hi ∧ hi ≤ w.heap.size := by
  obtain ⟨y1, y2, y3, x, n1, h1, n2, h2, e, o1, o2, p, q⟩ := h
  exact q

theorem MpO.form {w : World} {v : Value} {l r : List Int} {ps : List Pv} {t : List Int} {a : Int} {lo hi : Nat} (h : MpO w v l r ps t a lo hi) : ∃ a1 c1 a2 c2 a3 c3 a4 c4, v = .agg #[.slice a1 l.length c1, .slice a2 r.length c2, .slice a3 ps.length c3, .slice a4 t.length c4, .int .i64 a] := by
  obtain ⟨y1, y2, y3, x, n1, h1, n2, h2, rfl, o1, o2, -⟩ := h
  obtain ⟨a1, c1, a2, c2, a3, c3, e⟩ := o1.form
  injection e with e
  injection e with e
  injection e with e1 e
  injection e with e2 e
  injection e with e3 e
  subst e1 e2 e3
  obtain ⟨a4, c4, rfl⟩ := o2.form
  exact ⟨_, _, _, _, _, _, _, _, rfl⟩

theorem MpO.rd {w : World} {v : Value} {l r : List Int} {ps : List Pv} {t : List Int} {a : Int} {lo hi : Nat} (h : MpO w v l r ps t a lo hi) (hw : MpWf l r ps t a) : Mp w w.heap.size v l r ps t a := by
  obtain ⟨y1, y2, y3, x, n1, h1, n2, h2, rfl, o1, o2, -⟩ := h
  exact ⟨y1, y2, y3, x, rfl, o1.rd hw.1, o2.ints hw.2.1, o2.cap, hw.2.2⟩

set_option maxHeartbeats 1000000 in
theorem szMap_any (v : Value) (l r : List Int) (ps : List Pv) (t : List Int) (a : Int) (left : Int) (w : World) (B : Nat) (hv : Mp w B v l r ps t a) (hB : B ≤ w.heap.size) (h1 : -1 ≤ left) (h2 : left ≤ 1048576) :
    Calls Try.prog 23 #[v, .int .i64 left] w (RetI1 w (szC (l.length + r.length + ps.length + t.length) left)) := by
  obtain ⟨a1, c1, a2, c2, a3, c3, a4, c4, rfl, i1, i2⟩ := hv.form
  clear hv
  obtain ⟨y, hy⟩ : ∃ y, y = szC (l.length + r.length + ps.length + t.length) left := ⟨_, rfl⟩
  rw [← hy]
  unfold szC at hy
  have X := hide (Kn.one w #[.slice a1 l.length c1, .slice a2 r.length c2, .slice a3 ps.length c3, .slice a4 t.length c4, .int .i64 a] 38)
  obtain ⟨u0, hu0⟩ : ∃ q, q = w.alloc (.cells #[.slice a1 l.length c1, .slice a2 r.length c2, .slice a3 ps.length c3, .slice a4 t.length c4, .int .i64 a] 38) := ⟨_, rfl⟩
  rw [← hu0] at X
  have I1 := hide (i1.below X.out.below hB)
  have I2 := hide (fun (W : World) (h : Below w.heap.size w W) => i2.below h hB)
  have HS := hide X.out.below.size
  clear i1 i2
  obtain ⟨z1, hz1⟩ : ∃ z, z = szC (l.length + r.length + ps.length) left := ⟨_, rfl⟩
  have HZ1 := hide hz1
  unfold szC at hz1
  have d0 := X.out.cell 0 0 rfl rfl
  have d1 := X.out.cell 0 1 rfl rfl
  have d2 := X.out.cell 0 2 rfl rfl
  by_cases q1 : z1 < 0
  · have hyf := hide (show y = -1 by rw [hy, if_pos (by split at hz1 <;> omega)])
    have b1 : decide (z1 < 0) = true := by simp; omega
    clear hy hz1
    go_enter Try.func23, Try.ntmps23
    go_wp2_with fail
    rw [← hu0]
    clear hu0
    go_at_call 35
    refine (szCracker_any _ l r ps _ _ B I1.out (Nat.le_trans hB HS.out) h1 h2).mono ?_
    rintro e u1 ⟨rfl, hb⟩
    rw [← HZ1.out]
    have X := hide (X.out.up hb)
    clear hb d0 d1 d2
    go_wp2_with fail
    go_ret
    exact ⟨by rw [hyf.out]; rfl, X.out.below⟩
  · have r1 : -1 ≤ z1 ∧ z1 ≤ 1048576 := by split at hz1 <;> omega
    obtain ⟨r1, r1'⟩ := r1
    obtain ⟨z2, hz2⟩ : ∃ z, z = szI t z1 := ⟨_, rfl⟩
    have HZ2 := hide hz2
    unfold szI at hz2
    have b1 : decide (z1 < 0) = false := by simp; omega
    by_cases q2 : z2 < 0
    · have hyf := hide (show y = -1 by rw [hy]; split at hz1 <;> split at hz2 <;> split <;> omega)
      have b2 : decide (z2 < 0) = true := by simp; omega
      clear hy hz1 hz2
      go_enter Try.func23, Try.ntmps23
      go_wp2_with fail
      rw [← hu0]
      clear hu0
      go_at_call 35
      refine (szCracker_any _ l r ps _ _ B I1.out (Nat.le_trans hB HS.out) h1 h2).mono ?_
      rintro e u1 ⟨rfl, hb⟩
      rw [← HZ1.out]
      have X := hide (X.out.up hb)
      clear hb d0 d1 d2
      have d0 := X.out.cell 0 3 rfl rfl
      go_wp2_with fail
      go_at_call 79
      refine (szIntS_any _ t _ _ B (I2.out _ X.out.below) r1 r1').mono ?_
      rintro e wa ⟨rfl, rfl⟩
      rw [← HZ2.out]
      go_wp2_with fail
      go_ret
      exact ⟨by rw [hyf.out]; rfl, X.out.below⟩
    · have hyf := hide (show y = z2 by rw [hy]; split at hz1 <;> split at hz2 <;> split <;> omega)
      have b2 : decide (z2 < 0) = false := by simp; omega
      clear hy hz1 hz2
      go_enter Try.func23, Try.ntmps23
      go_wp2_with fail
      rw [← hu0]
      clear hu0
      go_at_call 35
      refine (szCracker_any _ l r ps _ _ B I1.out (Nat.le_trans hB HS.out) h1 h2).mono ?_
      rintro e u1 ⟨rfl, hb⟩
      rw [← HZ1.out]
      have X := hide (X.out.up hb)
      clear hb d0 d1 d2
      have d0 := X.out.cell 0 3 rfl rfl
      go_wp2_with fail
      go_at_call 79
      refine (szIntS_any _ t _ _ B (I2.out _ X.out.below) r1 r1').mono ?_
      rintro e wa ⟨rfl, rfl⟩
      rw [← HZ2.out]
      go_wp2_with fail
      go_ret
      exact ⟨by rw [hyf.out]; rfl, X.out.below⟩

/-- A new map of the call's own is returned; nothing that was there has turned. -/
def RetMpO (w : World) (l r : List Int) (ps : List Pv) (t : List Int) (a : Int) (e : Ending) (w' : World) : Prop := ∃ v, e = .returned v ∧ MpO w' v l r ps t a w.heap.size w'.heap.size ∧ Below w.heap.size w w'

set_option maxHeartbeats 2000000 in
theorem toMap_o (v : Value) (l r : List Int) (ps : List Pv) (t : List Int) (a : Int) (w : World) (B : Nat) (hv : Mp w B v l r ps t a) (hB : B ≤ w.heap.size) (k1 : l.length ≤ 1048576) (k2 : r.length ≤ 1048576) (k3 : ps.length ≤ 1048576) (k4 : t.length ≤ 1048576) :
    Calls Try.prog 25 #[v] w (RetMpO w l r ps t a) := by
  obtain ⟨a1, c1, a2, c2, a3, c3, a4, c4, rfl, i1, i2⟩ := hv.form
  have X := hide (Kn.three w #[.slice a1 l.length c1, .slice a2 r.length c2, .slice a3 ps.length c3, .slice a4 t.length c4, .int .i64 a] #[.slice none 0 0, .slice none 0 0, .slice none 0 0, .slice none 0 0, .int .i64 0] #[.slice none 0 0, .slice none 0 0, .slice none 0 0, .slice none 0 0, .int .i64 0] 38 27 27)
  obtain ⟨u0, hu0⟩ : ∃ q, q = ((w.alloc (.cells #[.slice a1 l.length c1, .slice a2 r.length c2, .slice a3 ps.length c3, .slice a4 t.length c4, .int .i64 a] 38)).alloc (.cells #[.slice none 0 0, .slice none 0 0, .slice none 0 0, .slice none 0 0, .int .i64 0] 27)).alloc (.cells #[.slice none 0 0, .slice none 0 0, .slice none 0 0, .slice none 0 0, .int .i64 0] 27) := ⟨_, rfl⟩
  rw [← hu0] at X
  have HI := hide (fun (W : World) (h : Below w.heap.size w W) => And.intro (i1.below h hB) (i2.below h hB))
  clear i1 i2 hv
  have P1 := hide (X.out.lt 2 rfl)
  have d0 := X.out.cell 0 0 rfl rfl
  have d1 := X.out.cell 0 1 rfl rfl
  have d2 := X.out.cell 0 2 rfl rfl
  go_enter Try.func25, Try.ntmps25
  go_wp2_with fail
  rw [← hu0]
  clear hu0
  go_at_call 38
  refine (toCracker_o _ l r ps _ B (HI.out _ X.out.below).1 (Nat.le_trans hB X.out.below.size) k1 k2 k3).mono ?_
  rintro e u1 ⟨q1, rfl, O1, hb⟩
  obtain ⟨x1, y1, x2, y2, x3, y3, hf⟩ := O1.form
  have Q1 := hide hb.size
  have X := hide (X.out.up hb)
  clear hb d0 d1 d2
  have e0 := X.out.cell 2 0 rfl rfl
  have e1 := X.out.cell 2 1 rfl rfl
  have e2 := X.out.cell 2 2 rfl rfl
  have f0 := X.out.free 2 0 rfl
  have f1 := X.out.free 2 1 rfl
  have f2 := X.out.free 2 2 rfl
  have g0 := X.out.cell 0 3 rfl rfl
  subst hf
  go_wp2_with fail
  have Y := hide (((X.out.set 2 0 rfl (.slice x1 l.length y1)).set 2 1 rfl (.slice x2 r.length y2)).set 2 2 rfl (.slice x3 ps.length y3))
  have O1 := hide (O1.seg (((Seg.setCell u1 (w.heap.size + 1 + 1) 0 (.slice x1 l.length y1)).trans (Seg.setCell _ (w.heap.size + 1 + 1) 1 (.slice x2 r.length y2))).trans (Seg.setCell _ (w.heap.size + 1 + 1) 2 (.slice x3 ps.length y3))) (.inr (by have := P1.out; omega)))
  have S1 := hide (show (((u1.setCell ⟨w.heap.size + 1 + 1, 0, none⟩ (.slice x1 l.length y1)).setCell ⟨w.heap.size + 1 + 1, 1, none⟩ (.slice x2 r.length y2)).setCell ⟨w.heap.size + 1 + 1, 2, none⟩ (.slice x3 ps.length y3)).heap.size = u1.heap.size by simp)
  obtain ⟨u2, hu2⟩ : ∃ q, q = ((u1.setCell ⟨w.heap.size + 1 + 1, 0, none⟩ (.slice x1 l.length y1)).setCell ⟨w.heap.size + 1 + 1, 1, none⟩ (.slice x2 r.length y2)).setCell ⟨w.heap.size + 1 + 1, 2, none⟩ (.slice x3 ps.length y3) := ⟨_, rfl⟩
  rw [← hu2] at Y S1 O1 ⊢
  clear hu2 e0 e1 e2 f0 f1 f2 g0
  go_at_call 16
  refine (toIntS_own _ t _ B (HI.out _ Y.out.below).2 (Nat.le_trans hB Y.out.below.size) k4).mono ?_
  rintro e u3 ⟨q2, rfl, O2, hb⟩
  obtain ⟨x4, y4, rfl⟩ := O2.form
  have Q2 := hide hb.size
  have O2 := hide (Ow.of O2 hb.size)
  have O1 := hide (O1.out.below hb)
  have X := hide (Y.out.up hb)
  clear hb Y
  have e3 := X.out.cell 2 3 rfl rfl
  have f3 := X.out.free 2 3 rfl
  have g4 := X.out.cell 0 4 rfl rfl
  have e4 := X.out.cell 2 4 rfl rfl
  have f4 := X.out.free 2 4 rfl
  have Y := hide ((X.out.set 2 3 rfl (.slice x4 t.length y4)).set 2 4 rfl (.int .i64 a))
  have sg := (Seg.setCell u3 (w.heap.size + 1 + 1) 3 (.slice x4 t.length y4)).trans (Seg.setCell _ (w.heap.size + 1 + 1) 4 (.int .i64 a))
  have p1 := P1.out
  have p2 := Q1.out
  have p3 := S1.out
  have p4 := Q2.out
  have O1 := hide (O1.out.seg sg (.inr (by omega)))
  have O2 := hide (O2.out.seg sg (.inr (by omega)))
  have S2 := hide sg.below.size
  clear sg p1 p2 p3 p4
  have r0 := Y.out.cell 2 0 rfl rfl
  have r1 := Y.out.cell 2 1 rfl rfl
  have r2 := Y.out.cell 2 2 rfl rfl
  have r3 := Y.out.cell 2 3 rfl rfl
  have r4 := Y.out.cell 2 4 rfl rfl
  have s0 := Y.out.cell 1 0 rfl rfl
  have s1 := Y.out.cell 1 1 rfl rfl
  have s2 := Y.out.cell 1 2 rfl rfl
  have s3 := Y.out.cell 1 3 rfl rfl
  have s4 := Y.out.cell 1 4 rfl rfl
  have v0 := Y.out.free 1 0 rfl
  have v1 := Y.out.free 1 1 rfl
  have v2 := Y.out.free 1 2 rfl
  have v3 := Y.out.free 1 3 rfl
  have v4 := Y.out.free 1 4 rfl
  go_wp2_with fail
  obtain ⟨u4, hu4⟩ : ∃ q, q = (u3.setCell ⟨w.heap.size + 1 + 1, 3, none⟩ (.slice x4 t.length y4)).setCell ⟨w.heap.size + 1 + 1, 4, none⟩ (.int .i64 a) := ⟨_, rfl⟩
  rw [← hu4] at Y O1 O2 S2 ⊢
  clear hu4 e3 f3 g4 e4 f4 r0 r1 r2 r3 r4 s0 s1 s2 s3 s4 v0 v1 v2 v3 v4
  have Z := (((((Y.out.set 1 0 rfl (.slice x1 l.length y1)).set 1 1 rfl (.slice x2 r.length y2)).set 1 2 rfl (.slice x3 ps.length y3)).set 1 3 rfl (.slice x4 t.length y4)).set 1 4 rfl (.int .i64 a))
  have sg : Seg (w.heap.size + 1) (w.heap.size + 1 + 1) u4 (((((u4.setCell ⟨w.heap.size + 1, 0, none⟩ (.slice x1 l.length y1)).setCell ⟨w.heap.size + 1, 1, none⟩ (.slice x2 r.length y2)).setCell ⟨w.heap.size + 1, 2, none⟩ (.slice x3 ps.length y3)).setCell ⟨w.heap.size + 1, 3, none⟩ (.slice x4 t.length y4)).setCell ⟨w.heap.size + 1, 4, none⟩ (.int .i64 a)) := ((((Seg.setCell u4 (w.heap.size + 1) 0 _).trans (Seg.setCell _ (w.heap.size + 1) 1 _)).trans (Seg.setCell _ (w.heap.size + 1) 2 _)).trans (Seg.setCell _ (w.heap.size + 1) 3 _)).trans (Seg.setCell _ (w.heap.size + 1) 4 _)
  have p1 := P1.out
  have p2 := Q1.out
  have p3 := S1.out
  have p4 := Q2.out
  have p5 := S2.out
  have O1 := O1.out.seg sg (.inr (by omega))
  have O2 := O2.out.seg sg (.inr (by omega))
  have z0 := Z.cell 1 0 rfl rfl
  have z1 := Z.cell 1 1 rfl rfl
  have z2 := Z.cell 1 2 rfl rfl
  have z3 := Z.cell 1 3 rfl rfl
  have z4 := Z.cell 1 4 rfl rfl
  have t1 := O1.top
  have t2 := O2.top
  have t4 := O2.le
  have hbz := Z.below
  refine bodyPost_ret (v := .agg #[.slice x1 l.length y1, .slice x2 r.length y2, .slice x3 ps.length y3, .slice x4 t.length y4, .int .i64 a]) (by simp [results, Try.results25, go_sem, z0, z1, z2, z3, z4]) rfl ⟨_, rfl, ⟨_, _, _, _, _, _, _, _, rfl, O1, O2, ⟨by omega, by omega, t1.2, t2, by omega⟩, hbz.size, Nat.le_refl _⟩, hbz⟩

set_option maxHeartbeats 1000000 in
theorem eqMap_same (v u : Value) (l r : List Int) (ps : List Pv) (t : List Int) (a : Int) (w : World) (B : Nat) (hB : B ≤ w.heap.size) (hv : Mp w B v l r ps t a) (hu : Mp w B u l r ps t a) :
    Calls Try.prog 18 #[v, u] w (RetB1 w true) := by
  obtain ⟨a1, c1, a2, c2, a3, c3, a4, c4, rfl, i1, i2⟩ := hv.form
  obtain ⟨b1, k1, b2, k2, b3, k3, b4, k4, rfl, j1, j2⟩ := hu.form
  have X := hide (Kn.two w #[.slice a1 l.length c1, .slice a2 r.length c2, .slice a3 ps.length c3, .slice a4 t.length c4, .int .i64 a] #[.slice b1 l.length k1, .slice b2 r.length k2, .slice b3 ps.length k3, .slice b4 t.length k4, .int .i64 a] 27 27)
  obtain ⟨u0, hu0⟩ : ∃ q, q = (w.alloc (.cells #[.slice a1 l.length c1, .slice a2 r.length c2, .slice a3 ps.length c3, .slice a4 t.length c4, .int .i64 a] 27)).alloc (.cells #[.slice b1 l.length k1, .slice b2 r.length k2, .slice b3 ps.length k3, .slice b4 t.length k4, .int .i64 a] 27) := ⟨_, rfl⟩
  rw [← hu0] at X
  have H1 := hide (fun (W : World) (h : Below w.heap.size w W) => And.intro (i1.below h hB) (j1.below h hB))
  have H2 := hide (fun (W : World) (h : Below w.heap.size w W) => And.intro (i2.below h hB) (j2.below h hB))
  have hn : (a != a) = false := by simp
  clear i1 i2 j1 j2 hv hu
  have d0 := X.out.cell 0 0 rfl rfl
  have d1 := X.out.cell 0 1 rfl rfl
  have d2 := X.out.cell 0 2 rfl rfl
  have d3 := X.out.cell 1 0 rfl rfl
  have d4 := X.out.cell 1 1 rfl rfl
  have d5 := X.out.cell 1 2 rfl rfl
  go_enter Try.func18, Try.ntmps18
  go_wp2_with fail
  rw [← hu0]
  clear hu0
  go_at_call 42
  refine (eqCracker_same _ _ l r ps _ B (Nat.le_trans hB X.out.below.size) (H1.out _ X.out.below).1 (H1.out _ X.out.below).2).mono ?_
  rintro e w0 ⟨rfl, hb⟩
  have X := hide (X.out.up hb)
  clear hb d0 d1 d2 d3 d4 d5
  have d0 := X.out.cell 0 3 rfl rfl
  have d1 := X.out.cell 1 3 rfl rfl
  go_wp2_with fail
  go_at_call 19
  refine (eqIntS_alike _ _ t _ B (H2.out _ X.out.below).1 (H2.out _ X.out.below).2).mono ?_
  rintro e w1 ⟨rfl, hb⟩
  have X := hide (X.out.up hb)
  clear hb d0 d1
  have d0 := X.out.cell 0 4 rfl rfl
  have d1 := X.out.cell 1 4 rfl rfl
  go_wp2_with fail
  go_ret
  exact ⟨rfl, X.out.below⟩

/-- A number is returned, the value's own elements now read as l, r, ps, t, only their stretch has turned. -/
def RetMMpO (w : World) (v : Value) (l r : List Int) (ps : List Pv) (t : List Int) (a : Int) (lo hi : Nat) (k : Int) (e : Ending) (w' : World) : Prop := e = .returned (.int .i64 k) ∧ MpO w' v l r ps t a lo hi ∧ Seg lo hi w w'

set_option maxHeartbeats 2000000 in
theorem markMap_o (v : Value) (l r : List Int) (ps : List Pv) (t : List Int) (a : Int) (lo hi : Nat) (k : Int) (w : World) (h : MpO w v l r ps t a lo hi) (k0 : 0 ≤ k) (k1 : k + l.length + r.length + 2 * ps.length + t.length ≤ 4611686018427387904) :
    Calls Try.prog 21 #[v, .int .i64 k] w (RetMMpO w v (mkI k l.length) (mkI (k + l.length) r.length) (mkP (k + l.length + r.length) ps.length) (mkI (k + l.length + r.length + 2 * ps.length) t.length) a lo hi (k + l.length + r.length + 2 * ps.length + t.length)) := by
  obtain ⟨y1, y2, y3, x, n1, h1, n2, h2, rfl, o1, o2, p, q1, q2⟩ := h
  obtain ⟨a1, c1, a2, c2, a3, c3, e⟩ := o1.form
  injection e with e
  injection e with e
  injection e with e1 e
  injection e with e2 e
  injection e with e3 e
  subst e1 e2 e3
  obtain ⟨a4, c4, rfl⟩ := o2.form
  have X := hide (Kn.one w #[.slice a1 l.length c1, .slice a2 r.length c2, .slice a3 ps.length c3, .slice a4 t.length c4, .int .i64 a] 27)
  obtain ⟨u0, hu0⟩ : ∃ q, q = w.alloc (.cells #[.slice a1 l.length c1, .slice a2 r.length c2, .slice a3 ps.length c3, .slice a4 t.length c4, .int .i64 a] 27) := ⟨_, rfl⟩
  rw [← hu0] at X
  have S0 := hide (Seg.of_below (hi := hi) X.out.below (Nat.le_trans q1 q2))
  have hn0 := hide (X.out.lt 0 rfl)
  have O1 := hide (o1.below X.out.below)
  have O2 := hide (o2.below X.out.below)
  have T1 := hide o1.top
  have T2 := hide (And.intro o2.le o2.top)
  have G := hide (X.out.mem 0 rfl)
  clear o1 o2
  have d0 : u0.cell? ⟨w.heap.size, 0, none⟩ = some (.slice a1 l.length c1) := cell_of_row u0 w.heap.size 0 _ _ (0, 0) G.out
  have d1 : u0.cell? ⟨w.heap.size, 1, none⟩ = some (.slice a2 r.length c2) := cell_of_row u0 w.heap.size 1 _ _ (0, 0) G.out
  have d2 : u0.cell? ⟨w.heap.size, 2, none⟩ = some (.slice a3 ps.length c3) := cell_of_row u0 w.heap.size 2 _ _ (0, 0) G.out
  go_enter Try.func21, Try.ntmps21
  go_wp2_with fail
  rw [← hu0]
  clear hu0 X
  go_at_call 44
  refine (markCracker_o _ l r ps n1 h1 (k) _ O1.out (by omega) (by omega)).mono ?_
  rintro e u1 ⟨rfl, Z, s⟩
  have G := hide ((s.over w.heap.size (by have := T1.out; omega) hn0.out).trans G.out)
  have O2 := hide (O2.out.seg s (by omega))
  have O1 := hide Z
  have S1 := hide (S0.out.trans (s.mono p.1 p.2.2.1))
  have hn1 := hide (Nat.lt_of_lt_of_le hn0.out s.below.size)
  clear d0 d1 d2 s Z
  have d0 : u1.cell? ⟨w.heap.size, 3, none⟩ = some (.slice a4 t.length c4) := cell_of_row u1 w.heap.size 3 _ _ (0, 0) G.out
  go_wp2_with fail
  go_at_call 20
  refine (markIntS_ow _ t n2 h2 (k + l.length + r.length + 2 * ps.length) _ O2.out (by omega) (by omega)).mono ?_
  rintro e u2 ⟨rfl, Z, s⟩
  have O1 := hide (O1.out.seg s (by omega))
  have S2 := hide (S1.out.trans (s.mono p.2.1 p.2.2.2.1))
  go_wp2_with fail
  go_ret
  exact ⟨rfl, ⟨_, _, _, _, _, _, _, _, rfl, O1.out, Z, p, q1, Nat.le_trans q2 S2.out.below.size⟩, S2.out⟩

set_option maxHeartbeats 2000000 in
theorem heldMap_o (v : Value) (r1 r2 r3 r4 : Nat) (a : Int) (lo hi : Nat) (k : Int) (w : World) (h : MpO w v (mkI k r1) (mkI (k + r1) r2) (mkP (k + r1 + r2) r3) (mkI (k + r1 + r2 + 2 * r3) r4) a lo hi) (k0 : 0 ≤ k) (k1 : k + r1 + r2 + 2 * r3 + r4 ≤ 4611686018427387904) :
    Calls Try.prog 22 #[v, .int .i64 k] w (RetI1 w (k + r1 + r2 + 2 * r3 + r4)) := by
  obtain ⟨y1, y2, y3, x, n1, h1, n2, h2, rfl, o1, o2, p, q1, q2⟩ := h
  obtain ⟨a1, c1, a2, c2, a3, c3, e⟩ := o1.form
  rw [mkI_length, mkI_length, mkP_length] at e
  injection e with e
  injection e with e
  injection e with e1 e
  injection e with e2 e
  injection e with e3 e
  subst e1 e2 e3
  obtain ⟨a4, c4, hx4⟩ := o2.form
  rw [mkI_length] at hx4
  subst hx4
  have X := hide (Kn.one w #[.slice a1 r1 c1, .slice a2 r2 c2, .slice a3 r3 c3, .slice a4 r4 c4, .int .i64 a] 27)
  obtain ⟨u0, hu0⟩ : ∃ q, q = w.alloc (.cells #[.slice a1 r1 c1, .slice a2 r2 c2, .slice a3 r3 c3, .slice a4 r4 c4, .int .i64 a] 27) := ⟨_, rfl⟩
  rw [← hu0] at X
  have O1 := hide (o1.below X.out.below)
  have O2 := hide (o2.below X.out.below)
  clear o1 o2
  have d0 : u0.cell? ⟨w.heap.size, 0, none⟩ = some (.slice a1 r1 c1) := X.out.cell 0 0 rfl rfl
  have d1 : u0.cell? ⟨w.heap.size, 1, none⟩ = some (.slice a2 r2 c2) := X.out.cell 0 1 rfl rfl
  have d2 : u0.cell? ⟨w.heap.size, 2, none⟩ = some (.slice a3 r3 c3) := X.out.cell 0 2 rfl rfl
  have t1 : decide (k + r1 + r2 + 2 * r3 < 0) = false := by simp; omega
  have t2 : decide (k + r1 + r2 + 2 * r3 + r4 < 0) = false := by simp; omega
  go_enter Try.func22, Try.ntmps22
  go_wp2_with fail
  rw [← hu0]
  clear hu0
  go_at_call 46
  refine (heldCracker_o _ r1 r2 r3 n1 h1 (k) _ O1.out (by omega) (by omega)).mono ?_
  rintro e u1 ⟨rfl, hb⟩
  have X := hide (X.out.up hb)
  have O2 := hide (O2.out.below hb)
  clear hb d0 d1 d2
  have d0 : u1.cell? ⟨w.heap.size, 3, none⟩ = some (.slice a4 r4 c4) := X.out.cell 0 3 rfl rfl
  go_wp2_with fail
  go_at_call 50
  refine (heldIntS_ow _ r4 n2 h2 (k + r1 + r2 + 2 * r3) _ O2.out (by omega) (by omega)).mono ?_
  rintro e wa ⟨rfl, rfl⟩
  go_wp2_with fail
  go_ret
  exact ⟨rfl, X.out.below⟩

theorem open_mp {H : Type} {enc : TypeId × Value → H} {W : World} {base : Nat} {v : Value} {d : DataW H} {p : List MemPlace} (hv : Value.okWide Try.prog W .any base 38 v) (h : DataW.Trod enc Try.prog W 0 (fun _ => true) true 38 v d p) : ∃ l r ps t a, Mp W W.heap.size v l r ps t a := by
  obtain ⟨cs, rfl, hsz⟩ := Go.WideShapes.okWide_struct Try.underlying38 hv
  have hsz : cs.size = 5 := hsz.trans (by kernel_rfl)
  obtain ⟨x1, x2, x3, x4, x5, rfl⟩ : ∃ x1 x2 x3 x4 x5, cs = #[x1, x2, x3, x4, x5] := by
    obtain ⟨L⟩ := cs
    match L, hsz with
    | [x1, x2, x3, x4, x5], _ => exact ⟨_, _, _, _, _, rfl⟩
  obtain ⟨fuel, hf⟩ := h
  obtain ⟨y0, y1, y2, n, -, -, h0, h1, h2⟩ := Go.Deep.trod_struct3 Try.underlying38 hf
  have k0 : Try.prog.cellsOf 36 = 3 := by kernel_rfl
  have k1 : Try.prog.cellsOf 22 = 1 := by kernel_rfl
  have k2 : Try.prog.cellsOf 3 = 1 := by kernel_rfl
  simp [Value.cells, k0] at h0
  simp [Value.cells, k1] at h1
  simp [Value.cells, k2] at h2
  obtain ⟨z0, z1, z2, n', -, -, g0, g1, g2⟩ := Go.Deep.trod_struct3 Try.underlying36 h0
  have k3 : Try.prog.cellsOf 34 = 1 := by kernel_rfl
  simp [k1] at g0 g1
  simp [k3] at g2
  obtain ⟨l, hl, c0⟩ := ints_in' ⟨_, g0⟩
  obtain ⟨r, hr, c1⟩ := ints_in' ⟨_, g1⟩
  obtain ⟨ps, hp, c2⟩ := pvs_in g2
  obtain ⟨t, ht, c3⟩ := ints_in' ⟨_, h1⟩
  obtain ⟨a, ha, _, wa⟩ := DataW.trod_int Try.underlying3 h2
  simp at ha
  subst ha
  have b := bounds_i64 wa
  exact ⟨l, r, ps, t, a, _, _, _, _, rfl, ⟨_, _, _, rfl, hl, hr, hp, c0, c1, c2⟩, ht, c3, ⟨by omega, by omega⟩⟩

end Go.Proofs.Ytepkkeclkdlheaa
