/- Columns with pieces: read only (Ck), owned by the call (OCk); the laws' szCracker, toCracker, eqCracker. -/
import Derived.Test.YtepkkeclkdlheaaPv
import Derived.Test.YtepkkeclkdlheaaOw
import Derived.Test.YtepkkeclkdlheaaKn
namespace Go.Proofs.Ytepkkeclkdlheaa
open Go.RowKit Go.ChangeShapes
set_option linter.unusedSimpArgs false
set_option linter.unusedVariables false
set_option maxRecDepth 100000

/-- A slice's length is at most its capacity; a nil slice has none. -/
def Cap (v : Value) : Prop := ∃ a n c, v = .slice a n c ∧ n ≤ c ∧ (a = none → c = 0)

/-- v is a column with pieces that reads as l, r, ps; its cells lie below block B. -/
def Ck (w : World) (B : Nat) (v : Value) (l r : List Int) (ps : List Pv) : Prop := ∃ x y z, v = .agg #[x, y, z] ∧ Ints w B x l ∧ Ints w B y r ∧ Pvs w B z ps ∧ Cap x ∧ Cap y ∧ Cap z

theorem Ck.below {w w' : World} {B C : Nat} {v : Value} {l r : List Int} {ps : List Pv} (h : Ck w B v l r ps) (hb : Below C w w') (hC : B ≤ C) : Ck w' B v l r ps := by
  obtain ⟨x, y, z, e, h1, h2, h3, h4⟩ := h
  exact ⟨x, y, z, e, h1.below hb hC, h2.below hb hC, h3.below hb hC, h4⟩

theorem Ck.mono {w : World} {B C : Nat} {v : Value} {l r : List Int} {ps : List Pv} (h : Ck w B v l r ps) (hC : B ≤ C) : Ck w C v l r ps := by
  obtain ⟨x, y, z, e, h1, h2, h3, h4⟩ := h
  exact ⟨x, y, z, e, h1.mono hC, h2.mono hC, h3.mono hC, h4⟩

theorem Ck.up {w w' : World} {v : Value} {l r : List Int} {ps : List Pv} (h : Ck w w.heap.size v l r ps) (hb : Below w.heap.size w w') : Ck w' w'.heap.size v l r ps := (h.below hb (Nat.le_refl _)).mono hb.size

theorem Ints.form {w : World} {B : Nat} {v : Value} {l : List Int} (h : Ints w B v l) : ∃ a cap, v = .slice a l.length cap := by
  obtain ⟨a, cap, e, _⟩ := h
  exact ⟨a, cap, e⟩

theorem Pvs.form {w : World} {B : Nat} {v : Value} {ps : List Pv} (h : Pvs w B v ps) : ∃ a cap, v = .slice a ps.length cap := by
  obtain ⟨a, cap, e, _⟩ := h
  exact ⟨a, cap, e⟩

theorem Ck.form {w : World} {B : Nat} {v : Value} {l r : List Int} {ps : List Pv} (h : Ck w B v l r ps) : ∃ a1 c1 a2 c2 a3 c3, v = .agg #[.slice a1 l.length c1, .slice a2 r.length c2, .slice a3 ps.length c3] ∧ Ints w B (.slice a1 l.length c1) l ∧ Ints w B (.slice a2 r.length c2) r ∧ Pvs w B (.slice a3 ps.length c3) ps := by
  obtain ⟨x, y, z, rfl, h1, h2, h3, _⟩ := h
  obtain ⟨a1, c1, rfl⟩ := h1.form
  obtain ⟨a2, c2, rfl⟩ := h2.form
  obtain ⟨a3, c3, rfl⟩ := h3.form
  exact ⟨_, _, _, _, _, _, rfl, h1, h2, h3⟩

theorem Ck.caps {w : World} {B : Nat} {l r : List Int} {ps : List Pv} {a1 a2 a3 : Option Addr} {n1 n2 n3 c1 c2 c3 : Nat} (h : Ck w B (.agg #[.slice a1 n1 c1, .slice a2 n2 c2, .slice a3 n3 c3]) l r ps) : n1 ≤ c1 ∧ n2 ≤ c2 := by
  obtain ⟨x, y, z, e, _, _, _, ⟨b1, m1, k1, rfl, e1, _⟩, ⟨b2, m2, k2, rfl, e2, _⟩, _⟩ := h
  simp only [Value.agg.injEq, Array.mk.injEq, List.cons.injEq, Value.slice.injEq, and_true] at e
  obtain ⟨⟨_, rfl, rfl⟩, ⟨_, rfl, rfl⟩, _⟩ := e
  exact ⟨e1, e2⟩

theorem Ck.nils {w : World} {B : Nat} {l r : List Int} {ps : List Pv} {a1 a2 a3 : Option Addr} {n1 n2 n3 c1 c2 c3 : Nat} (h : Ck w B (.agg #[.slice a1 n1 c1, .slice a2 n2 c2, .slice a3 n3 c3]) l r ps) : (a1 = none → c1 = 0) ∧ (a2 = none → c2 = 0) ∧ (a3 = none → c3 = 0) := by
  obtain ⟨x, y, z, e, _, _, _, ⟨b1, m1, k1, rfl, _, e1⟩, ⟨b2, m2, k2, rfl, _, e2⟩, ⟨b3, m3, k3, rfl, _, e3⟩⟩ := h
  simp only [Value.agg.injEq, Array.mk.injEq, List.cons.injEq, Value.slice.injEq, and_true] at e
  obtain ⟨⟨rfl, rfl, rfl⟩, ⟨rfl, rfl, rfl⟩, ⟨rfl, rfl, rfl⟩⟩ := e
  exact ⟨e1, e2, e3⟩

/-- What is left behind a column's size. -/
def szC (n : Nat) (left : Int) : Int := if left - n < 0 then -1 else left - n

set_option maxHeartbeats 1000000 in
theorem szCracker_any (v : Value) (l r : List Int) (ps : List Pv) (left : Int) (w : World) (B : Nat) (hv : Ck w B v l r ps) (hB : B ≤ w.heap.size) (h1 : -1 ≤ left) (h2 : left ≤ 1048576) :
    Calls Try.prog 35 #[v, .int .i64 left] w (RetI1 w (szC (l.length + r.length + ps.length) left)) := by
  obtain ⟨a1, c1, a2, c2, a3, c3, rfl, i1, i2, i3⟩ := hv.form
  clear hv
  obtain ⟨y, hy⟩ : ∃ y, y = szC (l.length + r.length + ps.length) left := ⟨_, rfl⟩
  rw [← hy]
  unfold szC at hy
  have hb := below1 w (.cells #[.slice a1 l.length c1, .slice a2 r.length c2, .slice a3 ps.length c3] 36)
  have I1 := hide (i1.below hb hB)
  have I2 := hide (i2.below hb hB)
  have I3 := hide (i3.below hb hB)
  clear i1 i2 i3 hb
  obtain ⟨z1, hz1⟩ : ∃ z, z = szI l left := ⟨_, rfl⟩
  have HZ1 := hide hz1
  unfold szI at hz1
  by_cases q1 : z1 < 0
  · have hyf := hide (show y = -1 by rw [hy, if_pos (by split at hz1 <;> omega)])
    clear hy hz1
    go_enter Try.func35, Try.ntmps35
    go_wp2_with fail
    go_at_call 79
    refine (szIntS_any _ l _ _ B I1.out h1 h2).mono ?_
    rintro e wa ⟨rfl, rfl⟩
    rw [← HZ1.out]
    go_wp2_with fail
    go_ret
    exact ⟨by rw [hyf.out]; rfl, below1 _ _⟩
  · have r1 : -1 ≤ z1 ∧ z1 ≤ 1048576 := by split at hz1 <;> omega
    obtain ⟨r1, r1'⟩ := r1
    obtain ⟨z2, hz2⟩ : ∃ z, z = szI r z1 := ⟨_, rfl⟩
    have HZ2 := hide hz2
    unfold szI at hz2
    by_cases q2 : z2 < 0
    · have hyf := hide (show y = -1 by rw [hy, if_pos (by split at hz1 <;> split at hz2 <;> omega)])
      clear hy hz1 hz2
      go_enter Try.func35, Try.ntmps35
      go_wp2_with fail
      go_at_call 79
      refine (szIntS_any _ l _ _ B I1.out h1 h2).mono ?_
      rintro e wa ⟨rfl, rfl⟩
      rw [← HZ1.out]
      go_wp2_with fail
      go_at_call 79
      refine (szIntS_any _ r _ _ B I2.out r1 r1').mono ?_
      rintro e wa ⟨rfl, rfl⟩
      rw [← HZ2.out]
      go_wp2_with fail
      go_ret
      exact ⟨by rw [hyf.out]; rfl, below1 _ _⟩
    · have r2 : -1 ≤ z2 ∧ z2 ≤ 1048576 := by split at hz2 <;> omega
      obtain ⟨r2, r2'⟩ := r2
      obtain ⟨z3, hz3⟩ : ∃ z, z = (if z2 - ps.length < 0 then -1 else z2 - ps.length) := ⟨_, rfl⟩
      have HZ3 := hide hz3
      have hyz : y = z3 := by rw [hy, hz3]; split at hz1 <;> split at hz2 <;> split <;> split <;> omega
      by_cases q3 : z3 < 0
      · have hyf := hide (show y = -1 by rw [hyz]; split at hz3 <;> omega)
        clear hy hz1 hz2 hz3 hyz
        go_enter Try.func35, Try.ntmps35
        go_wp2_with fail
        go_at_call 79
        refine (szIntS_any _ l _ _ B I1.out h1 h2).mono ?_
        rintro e wa ⟨rfl, rfl⟩
        rw [← HZ1.out]
        go_wp2_with fail
        go_at_call 79
        refine (szIntS_any _ r _ _ B I2.out r1 r1').mono ?_
        rintro e wa ⟨rfl, rfl⟩
        rw [← HZ2.out]
        go_wp2_with fail
        go_at_call 92
        refine (szPivotS_any _ ps _ _ B I3.out r2 r2').mono ?_
        rintro e wa ⟨rfl, rfl⟩
        rw [← HZ3.out]
        go_wp2_with fail
        go_ret
        exact ⟨by rw [hyf.out]; rfl, below1 _ _⟩
      · have HYZ := hide hyz
        clear hy hz1 hz2 hz3 hyz
        go_enter Try.func35, Try.ntmps35
        go_wp2_with fail
        go_at_call 79
        refine (szIntS_any _ l _ _ B I1.out h1 h2).mono ?_
        rintro e wa ⟨rfl, rfl⟩
        rw [← HZ1.out]
        go_wp2_with fail
        go_at_call 79
        refine (szIntS_any _ r _ _ B I2.out r1 r1').mono ?_
        rintro e wa ⟨rfl, rfl⟩
        rw [← HZ2.out]
        go_wp2_with fail
        go_at_call 92
        refine (szPivotS_any _ ps _ _ B I3.out r2 r2').mono ?_
        rintro e wa ⟨rfl, rfl⟩
        rw [← HZ3.out]
        go_wp2_with fail
        go_ret
        exact ⟨by rw [HYZ.out]; rfl, below1 _ _⟩

/-- The pivots ps lie in a row of v's own, from block lo on, below hi. -/
structure Owp (w : World) (v : Value) (ps : List Pv) (lo hi : Nat) : Prop where
  own : Op w lo v ps
  lt : ∀ g, v.ownBlock = some g → g < hi
  le : lo ≤ hi
  top : hi ≤ w.heap.size

theorem Owp.of {w' : World} {v : Value} {ps : List Pv} {lo : Nat} (h : Op w' lo v ps) (hs : lo ≤ w'.heap.size) : Owp w' v ps lo w'.heap.size := ⟨h, fun g hg => (World.ownsRow.lt h g hg).2, hs, Nat.le_refl _⟩

theorem Owp.seg {w w' : World} {v : Value} {ps : List Pv} {lo hi a b : Nat} (h : Owp w v ps lo hi) (s : Seg a b w w') (d : hi ≤ a ∨ b ≤ lo) : Owp w' v ps lo hi := by
  refine ⟨owns_eq h.own fun g hg => ?_, h.lt, h.le, Nat.le_trans h.top s.below.size⟩
  have h1 := h.lt g hg
  have h2 := World.ownsRow.lt h.own g hg
  rcases d with d | d
  · exact s.below.block g (by omega)
  · exact s.over g (by omega) h2.2

theorem Owp.below {w w' : World} {v : Value} {ps : List Pv} {lo hi : Nat} (h : Owp w v ps lo hi) (hb : Below w.heap.size w w') : Owp w' v ps lo hi :=
  ⟨h.own.below hb, h.lt, h.le, Nat.le_trans h.top hb.size⟩

theorem Seg.setCell (w : World) (g j : Nat) (u : Value) : Seg g (g + 1) w (w.setCell ⟨g, j, none⟩ u) :=
  ⟨(Below.refl g w).setCell (Nat.le_refl _) u, fun b hb _ => Below.heap_setCell _ _ _ _ (by show b ≠ g; omega)⟩

theorem Ow.cap {w : World} {v : Value} {l : List Int} {lo hi : Nat} (h : Ow w v l lo hi) : Cap v := by
  obtain ⟨⟨F, ⟨h, _⟩, _⟩, _, _⟩ := h
  rcases h.2 with ⟨hv, hn⟩ | ⟨g, cap, cur, hv, _, _, hnc, _⟩
  · exact ⟨none, 0, 0, hv, Nat.le_refl _, fun _ => rfl⟩
  · exact ⟨_, _, _, hv, hnc, fun h => by cases h⟩

theorem Owp.cap {w : World} {v : Value} {ps : List Pv} {lo hi : Nat} (h : Owp w v ps lo hi) : Cap v := by
  rcases h.own.2 with ⟨hv, hn⟩ | ⟨g, cap, cur, hv, _, _, hnc, _⟩
  · exact ⟨none, 0, 0, hv, Nat.le_refl _, fun _ => rfl⟩
  · exact ⟨_, _, _, hv, hnc, fun h => by cases h⟩

/-- A column of the call's own that reads as l, r, ps, its rows side by side from block lo on, below hi. -/
def OCk (w : World) (v : Value) (l r : List Int) (ps : List Pv) (lo hi : Nat) : Prop := ∃ x y z n1 n2, v = .agg #[x, y, z] ∧ Ow w x l lo n1 ∧ Ow w y r n1 n2 ∧ Owp w z ps n2 hi

theorem OCk.below {w w' : World} {v : Value} {l r : List Int} {ps : List Pv} {lo hi : Nat} (h : OCk w v l r ps lo hi) (hb : Below w.heap.size w w') : OCk w' v l r ps lo hi := by
  obtain ⟨x, y, z, n1, n2, e, h1, h2, h3⟩ := h
  exact ⟨x, y, z, n1, n2, e, h1.below hb, h2.below hb, h3.below hb⟩

theorem OCk.ck {w : World} {v : Value} {l r : List Int} {ps : List Pv} {lo hi : Nat} (h : OCk w v l r ps lo hi) (hl : ∀ x ∈ l, I64 x) (hr : ∀ x ∈ r, I64 x) (hp : ps.length ≤ 9223372036854775807) (hp2 : ∀ p ∈ ps, I64 p.1 ∧ I64 p.2) : Ck w w.heap.size v l r ps := by
  obtain ⟨x, y, z, n1, n2, e, h1, h2, h3⟩ := h
  exact ⟨x, y, z, e, h1.ints hl, h2.ints hr, h3.own.pvs (Nat.le_refl _) hp hp2, h1.cap, h2.cap, h3.cap⟩

theorem Ck.wf {w : World} {B : Nat} {v : Value} {l r : List Int} {ps : List Pv} (h : Ck w B v l r ps) : (∀ x ∈ l, I64 x) ∧ (∀ x ∈ r, I64 x) ∧ ps.length ≤ 9223372036854775807 ∧ ∀ p ∈ ps, I64 p.1 ∧ I64 p.2 := by
  obtain ⟨x, y, z, _, ⟨_, _, _, _, h1, _⟩, ⟨_, _, _, _, h2, _⟩, ⟨_, _, _, h3, h4, _⟩, _⟩ := h
  exact ⟨h1, h2, h3, h4⟩

/-- A new column of the call's own is returned; nothing that was there has turned. -/
def RetOCk (w : World) (l r : List Int) (ps : List Pv) (e : Ending) (w' : World) : Prop := ∃ v lo, e = .returned v ∧ w.heap.size ≤ lo ∧ OCk w' v l r ps lo w'.heap.size ∧ Below w.heap.size w w'

theorem Is.form {w : World} {base : Nat} {e : TypeId} {v : Value} {l : List Int} (h : Is w base e v l) : ∃ a cap, v = .slice a l.length cap := by
  rcases h.2 with ⟨hv, hn⟩ | ⟨g, cap, cur, hv, _⟩
  · exact ⟨none, 0, by rw [hv, hn]⟩
  · exact ⟨_, _, hv⟩

set_option maxHeartbeats 2000000 in
theorem toCracker_own (v : Value) (l r : List Int) (ps : List Pv) (w : World) (B : Nat) (hv : Ck w B v l r ps) (hB : B ≤ w.heap.size) (hl : l.length ≤ 1048576) (hr : r.length ≤ 1048576) (hp : ps.length ≤ 1048576) :
    Calls Try.prog 38 #[v] w (RetOCk w l r ps) := by
  obtain ⟨a1, c1, a2, c2, a3, c3, rfl, i1, i2, i3⟩ := hv.form
  have X := hide (Kn.three w #[.slice a1 l.length c1, .slice a2 r.length c2, .slice a3 ps.length c3] #[.slice none 0 0, .slice none 0 0, .slice none 0 0] #[.slice none 0 0, .slice none 0 0, .slice none 0 0] 36 25 25)
  obtain ⟨w1, hw1⟩ : ∃ w1, w1 = ((w.alloc (.cells #[.slice a1 l.length c1, .slice a2 r.length c2, .slice a3 ps.length c3] 36)).alloc (.cells #[.slice none 0 0, .slice none 0 0, .slice none 0 0] 25)).alloc (.cells #[.slice none 0 0, .slice none 0 0, .slice none 0 0] 25) := ⟨_, rfl⟩
  rw [← hw1] at X
  have HI := hide (fun (W : World) (h : Below w.heap.size w W) => And.intro (i1.below h hB) (And.intro (i2.below h hB) (i3.below h hB)))
  clear i1 i2 i3 hv
  have d0 := X.out.cell 0 0 rfl rfl
  have f0 := X.out.free 2 0 rfl
  have e0 := X.out.cell 2 0 rfl rfl
  go_enter Try.func38, Try.ntmps38
  go_wp2_with fail
  rw [← hw1]
  clear hw1
  go_at_call 16
  refine (toIntS_own _ l _ B (HI.out _ X.out.below).1 (Nat.le_trans hB X.out.below.size) hl).mono ?_
  rintro e w2 ⟨v1, rfl, O1, hb⟩
  obtain ⟨g1, k1, rfl⟩ := O1.form
  have Q1 := hide hb.size
  have P1 := hide (X.out.lt 2 rfl)
  have O1 := hide (Ow.of O1 hb.size)
  have X := hide (X.out.up hb)
  clear hb d0 f0 e0
  have e0 := X.out.cell 2 0 rfl rfl
  have f0 := X.out.free 2 0 rfl
  have Y := hide (X.out.set 2 0 rfl (.slice g1 l.length k1))
  have d1 := Y.out.cell 0 1 rfl rfl
  go_wp2_with fail
  have O1 := hide (O1.out.seg (Seg.setCell w2 (w.heap.size + 1 + 1) 0 (.slice g1 l.length k1)) (.inr P1.out))
  have S3 := hide (show (w2.setCell ⟨w.heap.size + 1 + 1, 0, none⟩ (.slice g1 l.length k1)).heap.size = w2.heap.size by simp)
  obtain ⟨w3, hw3⟩ : ∃ w3, w3 = w2.setCell ⟨w.heap.size + 1 + 1, 0, none⟩ (.slice g1 l.length k1) := ⟨_, rfl⟩
  rw [← hw3] at Y O1 S3 ⊢
  clear hw3 X d1 e0 f0
  go_at_call 16
  refine (toIntS_own _ r _ B (HI.out _ Y.out.below).2.1 (Nat.le_trans hB Y.out.below.size) hr).mono ?_
  rintro e w4 ⟨v2, rfl, O2, hb⟩
  obtain ⟨g2, k2, rfl⟩ := O2.form
  have Q2 := hide hb.size
  have O2 := hide (Ow.of O2 hb.size)
  have O1 := hide (O1.out.below hb)
  have X := hide (Y.out.up hb)
  clear hb
  have e0 := X.out.cell 2 1 rfl rfl
  have f0 := X.out.free 2 1 rfl
  have Y := hide (X.out.set 2 1 rfl (.slice g2 r.length k2))
  have d1 := Y.out.cell 0 2 rfl rfl
  go_wp2_with fail
  have sg := Seg.setCell w4 (w.heap.size + 1 + 1) 1 (.slice g2 r.length k2)
  have O1 := hide (O1.out.seg sg (.inr P1.out))
  have O2 := hide (O2.out.seg sg (.inr (by have := P1.out; have := Q1.out; have := S3.out; omega)))
  have S5 := hide (show (w4.setCell ⟨w.heap.size + 1 + 1, 1, none⟩ (.slice g2 r.length k2)).heap.size = w4.heap.size by simp)
  obtain ⟨w5, hw5⟩ : ∃ w5, w5 = w4.setCell ⟨w.heap.size + 1 + 1, 1, none⟩ (.slice g2 r.length k2) := ⟨_, rfl⟩
  rw [← hw5] at Y O1 O2 S5 ⊢
  clear hw5 X d1 e0 f0 sg
  go_at_call 101
  refine (toPivotS_own _ ps _ B (HI.out _ Y.out.below).2.2 (Nat.le_trans hB Y.out.below.size) hp).mono ?_
  rintro e w6 ⟨v3, rfl, O3, hb⟩
  obtain ⟨g3, k3, rfl⟩ := O3.form
  have Q3 := hide hb.size
  have O3 := hide (Owp.of O3 hb.size)
  have O2 := hide (O2.out.below hb)
  have O1 := hide (O1.out.below hb)
  have X := hide (Y.out.up hb)
  clear hb
  have e0 := X.out.cell 2 2 rfl rfl
  have f0 := X.out.free 2 2 rfl
  have Y := hide (X.out.set 2 2 rfl (.slice g3 ps.length k3))
  have r0 := Y.out.cell 2 0 rfl rfl
  have r1 := Y.out.cell 2 1 rfl rfl
  have r2 := Y.out.cell 2 2 rfl rfl
  have s0 := Y.out.cell 1 0 rfl rfl
  have s1 := Y.out.cell 1 1 rfl rfl
  have s2 := Y.out.cell 1 2 rfl rfl
  have u0 := Y.out.free 1 0 rfl
  have u1 := Y.out.free 1 1 rfl
  have u2 := Y.out.free 1 2 rfl
  go_wp2_with fail
  have Z := ((Y.out.set 1 0 rfl (.slice g1 l.length k1)).set 1 1 rfl (.slice g2 r.length k2)).set 1 2 rfl (.slice g3 ps.length k3)
  have q0 := Z.cell 1 0 rfl rfl
  have q1 := Z.cell 1 1 rfl rfl
  have q2 := Z.cell 1 2 rfl rfl
  have p1 := P1.out
  have p2 := Q1.out
  have p3 := S3.out
  have p4 := Q2.out
  have p5 := S5.out
  have sg : Seg (w.heap.size + 1) (w.heap.size + 1 + 1 + 1) w6 ((((w6.setCell ⟨w.heap.size + 1 + 1, 2, none⟩ (.slice g3 ps.length k3)).setCell ⟨w.heap.size + 1, 0, none⟩ (.slice g1 l.length k1)).setCell ⟨w.heap.size + 1, 1, none⟩ (.slice g2 r.length k2)).setCell ⟨w.heap.size + 1, 2, none⟩ (.slice g3 ps.length k3)) :=
    ⟨((((Below.refl (w.heap.size + 1) w6).setCell (p := ⟨w.heap.size + 1 + 1, 2, none⟩) (by show w.heap.size + 1 ≤ w.heap.size + 1 + 1; omega) _).setCell (Nat.le_refl _) _).setCell (Nat.le_refl _) _).setCell (Nat.le_refl _) _, fun b hb _ => by
      rw [Below.heap_setCell _ _ _ _ (by show b ≠ w.heap.size + 1; omega), Below.heap_setCell _ _ _ _ (by show b ≠ w.heap.size + 1; omega), Below.heap_setCell _ _ _ _ (by show b ≠ w.heap.size + 1; omega), Below.heap_setCell _ _ _ _ (by show b ≠ w.heap.size + 1 + 1; omega)]⟩
  have O1 := O1.out.seg sg (.inr (by omega))
  have O2 := O2.out.seg sg (.inr (by omega))
  have O3 := O3.out.seg sg (.inr (by omega))
  have hsz : ((((w6.setCell ⟨w.heap.size + 1 + 1, 2, none⟩ (.slice g3 ps.length k3)).setCell ⟨w.heap.size + 1, 0, none⟩ (.slice g1 l.length k1)).setCell ⟨w.heap.size + 1, 1, none⟩ (.slice g2 r.length k2)).setCell ⟨w.heap.size + 1, 2, none⟩ (.slice g3 ps.length k3)).heap.size = w6.heap.size := by simp
  refine bodyPost_ret (v := .agg #[.slice g1 l.length k1, .slice g2 r.length k2, .slice g3 ps.length k3]) (by simp [results, Try.results38, go_sem, q0, q1, q2]) rfl ⟨_, w1.heap.size, rfl, by omega, ?_, Z.below⟩
  rw [hsz]
  rw [← p3] at O1
  rw [← p5] at O2
  exact ⟨_, _, _, _, _, rfl, O1, O2, O3⟩

theorem toCracker_any (v : Value) (l r : List Int) (ps : List Pv) (w : World) (B : Nat) (hv : Ck w B v l r ps) (hB : B ≤ w.heap.size) (hl : l.length ≤ 1048576) (hr : r.length ≤ 1048576) (hp : ps.length ≤ 1048576) :
    Calls Try.prog 38 #[v] w fun e w' => ∃ a1 c1 a2 c2 a3 c3, e = .returned (.agg #[.slice a1 l.length c1, .slice a2 r.length c2, .slice a3 ps.length c3]) ∧ Ck w' w'.heap.size (.agg #[.slice a1 l.length c1, .slice a2 r.length c2, .slice a3 ps.length c3]) l r ps ∧ Below w.heap.size w w' := by
  obtain ⟨h1, h2, h3, h4⟩ := hv.wf
  refine (toCracker_own v l r ps w B hv hB hl hr hp).mono ?_
  rintro e w' ⟨u, lo, rfl, _, ho, hb⟩
  have hc := ho.ck h1 h2 h3 h4
  obtain ⟨a1, c1, a2, c2, a3, c3, rfl, _⟩ := hc.form
  exact ⟨_, _, _, _, _, _, rfl, hc, hb⟩

set_option maxHeartbeats 1000000 in
theorem eqCracker_same (v u : Value) (l r : List Int) (ps : List Pv) (w : World) (B : Nat) (hB : B ≤ w.heap.size) (hv : Ck w B v l r ps) (hu : Ck w B u l r ps) :
    Calls Try.prog 42 #[v, u] w (RetB1 w true) := by
  obtain ⟨a1, c1, a2, c2, a3, c3, rfl, i1, i2, i3⟩ := hv.form
  obtain ⟨b1, k1, b2, k2, b3, k3, rfl, j1, j2, j3⟩ := hu.form
  have X := hide (Kn.two w #[.slice a1 l.length c1, .slice a2 r.length c2, .slice a3 ps.length c3] #[.slice b1 l.length k1, .slice b2 r.length k2, .slice b3 ps.length k3] 25 25)
  obtain ⟨w1, hw1⟩ : ∃ w1, w1 = (w.alloc (.cells #[.slice a1 l.length c1, .slice a2 r.length c2, .slice a3 ps.length c3] 25)).alloc (.cells #[.slice b1 l.length k1, .slice b2 r.length k2, .slice b3 ps.length k3] 25) := ⟨_, rfl⟩
  rw [← hw1] at X
  have H1 := hide (fun (W : World) (h : Below w.heap.size w W) => And.intro (i1.below h hB) (j1.below h hB))
  have H2 := hide (fun (W : World) (h : Below w.heap.size w W) => And.intro (i2.below h hB) (j2.below h hB))
  have H3 := hide (fun (W : World) (h : Below w.heap.size w W) => And.intro (i3.below h hB) (j3.below h hB))
  clear i1 i2 i3 j1 j2 j3 hv hu
  have d0 := X.out.cell 0 0 rfl rfl
  have d1 := X.out.cell 1 0 rfl rfl
  go_enter Try.func42, Try.ntmps42
  go_wp2_with fail
  rw [← hw1]
  clear hw1
  go_at_call 19
  refine (eqIntS_alike _ _ l _ B (H1.out _ X.out.below).1 (H1.out _ X.out.below).2).mono ?_
  rintro e w2 ⟨rfl, hb⟩
  have X := hide (X.out.up hb)
  clear hb d0 d1
  have d0 := X.out.cell 0 1 rfl rfl
  have d1 := X.out.cell 1 1 rfl rfl
  go_wp2_with fail
  go_at_call 19
  refine (eqIntS_alike _ _ r _ B (H2.out _ X.out.below).1 (H2.out _ X.out.below).2).mono ?_
  rintro e w3 ⟨rfl, hb⟩
  have X := hide (X.out.up hb)
  clear hb d0 d1
  have d0 := X.out.cell 0 2 rfl rfl
  have d1 := X.out.cell 1 2 rfl rfl
  go_wp2_with fail
  go_at_call 109
  refine (eqPivotS_same _ _ ps _ B (H3.out _ X.out.below).1 (H3.out _ X.out.below).2 (Nat.le_trans hB X.out.below.size)).mono ?_
  rintro e w4 ⟨rfl, hb⟩
  have X := hide (X.out.up hb)
  go_wp2_with fail
  go_ret
  exact ⟨rfl, X.out.below⟩

theorem ints_in' {H : Type} {enc : TypeId × Value → H} {W : World} {v : Value} {x : DataW H × List MemPlace} (h : ∃ fuel, DataW.trod enc Try.prog W 0 (fun _ => true) true fuel 22 [v] = some x) : ∃ l, Ints W W.heap.size v l ∧ Cap v := by
  obtain ⟨fuel, hf⟩ := h
  rcases open_ints Try.underlying22 Try.underlying3 (by kernel_rfl) hf with ⟨hcs, _⟩ | ⟨x, len, cap, zs, hcs, _, hl, hm, hz, _, hcell, hwz⟩
  · simp at hcs
    subst hcs
    exact ⟨[], ⟨_, _, rfl, by simp, by simp, fun j hj => by simp at hj⟩, _, _, _, rfl, Nat.le_refl _, fun _ => rfl⟩
  · simp at hcs
    subst hcs
    have hz' : zs.length = cap := by simpa using hz
    have htl : (zs.take len).length = len := by simp; omega
    refine ⟨zs.take len, ⟨some x, cap, by rw [htl], by unfold maxLen at hm; omega, ?_, ?_⟩, _, _, _, rfl, hl, fun h => by cases h⟩
    · intro y hy
      have := bounds_i64 (hwz y (List.mem_of_mem_take hy))
      exact ⟨by omega, by omega⟩
    · intro j hj
      have hj2 : j < len := by omega
      obtain ⟨b, off, spot⟩ := x
      have hspot : spot = none := by simpa [Addr.add] using World.cell?_spot (hcell 0 (by omega))
      subst hspot
      have hc := hcell j (by omega)
      rw [Addr.add_lit] at hc
      refine ⟨b, off, rfl, World.block_lt_of_cell? _ _ hc, ?_⟩
      rw [hc, List.getElem_take, List.getD_eq_getElem?_getD, List.getElem?_eq_getElem (by omega)]
      rfl

theorem open_ck {H : Type} {enc : TypeId × Value → H} {W : World} {base : Nat} {v : Value} {d : DataW H} {p : List MemPlace} (hv : Value.okWide Try.prog W .any base 36 v) (h : DataW.Trod enc Try.prog W 0 (fun _ => true) true 36 v d p) : ∃ l r ps, Ck W W.heap.size v l r ps := by
  obtain ⟨x, y, z, y0, y1, y2, n, rfl, _, _, t0, t1, t2⟩ := Joins.open_agg3 Try.underlying36 (by kernel_rfl) (by kernel_rfl) hv h
  obtain ⟨l, hl, c0⟩ := ints_in' ⟨_, t0⟩
  obtain ⟨r, hr, c1⟩ := ints_in' ⟨_, t1⟩
  obtain ⟨ps, hp, c2⟩ := pvs_in t2
  exact ⟨l, r, ps, x, y, z, rfl, hl, hr, hp, c0, c1, c2⟩

end Go.Proofs.Ytepkkeclkdlheaa
