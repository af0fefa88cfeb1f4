/- Values of type Pending (gen_struct.py): read only (Pd), owned by the call (PdO, PdOs); the laws' szPending, toPending, eqPending, markPending, heldPending. -/
import Derived.Test.YtajfhalalnlejaaRf
import Derived.Test.YtajfhalalnlejaaIv
namespace Go.Proofs.Ytajfhalalnlejaa
open Go.RowKit Go.ChangeShapes
set_option linter.unusedSimpArgs false
set_option linter.unusedVariables false
set_option maxRecDepth 100000

/-- v is a Pending that reads as l1 l2; its cells lie below block B. -/
def Pd (w : World) (B : Nat) (v : Value) (l1 : List Pv) (l2 : List Int) : Prop := ∃ x1 x2, v = .agg #[x1, x2] ∧ Pvs w B x1 l1 ∧ Ints w B x2 l2 ∧ Cap x1 ∧ Cap x2

theorem Pd.below {w w' : World} {B C : Nat} {v : Value} {l1 : List Pv} {l2 : List Int} (h : Pd w B v l1 l2) (hb : Below C w w') (hC : B ≤ C) : Pd w' B v l1 l2 := by
  obtain ⟨x1, x2, e, h1, h2, hq⟩ := h
  exact ⟨x1, x2, e, h1.below hb hC, h2.below hb hC, hq⟩

theorem Pd.mono {w : World} {B C : Nat} {v : Value} {l1 : List Pv} {l2 : List Int} (h : Pd w B v l1 l2) (hC : B ≤ C) : Pd w C v l1 l2 := by
  obtain ⟨x1, x2, e, h1, h2, hq⟩ := h
  exact ⟨x1, x2, e, h1.mono hC, h2.mono hC, hq⟩

theorem Pd.up {w w' : World} {v : Value} {l1 : List Pv} {l2 : List Int} (h : Pd w w.heap.size v l1 l2) (hb : Below w.heap.size w w') : Pd w' w'.heap.size v l1 l2 := (h.below hb (Nat.le_refl _)).mono hb.size

theorem Pd.form {w : World} {B : Nat} {v : Value} {l1 : List Pv} {l2 : List Int} (h : Pd w B v l1 l2) : ∃ a1 c1 a2 c2, v = .agg #[.slice a1 l1.length c1, .slice a2 l2.length c2] ∧ Pvs w B (.slice a1 l1.length c1) l1 ∧ Ints w B (.slice a2 l2.length c2) l2 := by
  obtain ⟨x1, x2, rfl, h1, h2, hq⟩ := h
  obtain ⟨a1, c1, rfl⟩ := h1.form
  obtain ⟨a2, c2, rfl⟩ := h2.form
  exact ⟨_, _, _, _, rfl, h1, h2⟩

/-- All numbers fit. -/
def PdWf (l1 : List Pv) (l2 : List Int) : Prop := (l1.length ≤ 9223372036854775807 ∧ ∀ p ∈ l1, I64 p.1 ∧ I64 p.2) ∧ (∀ x ∈ l2, I64 x)

theorem Pd.wf {w : World} {B : Nat} {v : Value} {l1 : List Pv} {l2 : List Int} (h : Pd w B v l1 l2) : PdWf l1 l2 := by
  obtain ⟨x1, x2, _, ⟨_, _, _, h1, g1, _⟩, ⟨_, _, _, _, h2, _⟩, _⟩ := h
  exact ⟨⟨h1, g1⟩, h2⟩

/-- A Pending of the call's own that reads as l1 l2: its rows lie apart, from block lo on, below hi. -/
structure PdO (w : World) (x1 x2 : Value) (l1 : List Pv) (l2 : List Int) (lo hi n1 h1 n2 h2 : Nat) : Prop where
  p1 : Owi w x1 l1 n1 h1
  p2 : Ow w x2 l2 n2 h2
  low : lo ≤ n1 ∧ lo ≤ n2
  high : h1 ≤ hi ∧ h2 ≤ hi
  apart : (h1 ≤ n2 ∨ h2 ≤ n1)
  top : lo ≤ hi ∧ hi ≤ w.heap.size

theorem PdO.below {w w' : World} {x1 x2 : Value} {l1 : List Pv} {l2 : List Int} {lo hi n1 h1 n2 h2 : Nat} (h : PdO w x1 x2 l1 l2 lo hi n1 h1 n2 h2) (hb : Below w.heap.size w w') : PdO w' x1 x2 l1 l2 lo hi n1 h1 n2 h2 :=
  ⟨h.p1.below hb, h.p2.below hb, h.low, h.high, h.apart, h.top.1, Nat.le_trans h.top.2 hb.size⟩

theorem PdO.seg {w w' : World} {x1 x2 : Value} {l1 : List Pv} {l2 : List Int} {lo hi n1 h1 n2 h2 : Nat} {a b : Nat} (h : PdO w x1 x2 l1 l2 lo hi n1 h1 n2 h2) (s : Seg a b w w') (d : hi ≤ a ∨ b ≤ lo) : PdO w' x1 x2 l1 l2 lo hi n1 h1 n2 h2 := by
  obtain ⟨q1, q2⟩ := h.low
  obtain ⟨r1, r2⟩ := h.high
  exact ⟨h.p1.seg s (by omega), h.p2.seg s (by omega), h.low, h.high, h.apart, h.top.1, Nat.le_trans h.top.2 s.below.size⟩

/-- The same of a value, its rows' own stretches left open. -/
def PdOs (w : World) (v : Value) (l1 : List Pv) (l2 : List Int) (lo hi : Nat) : Prop := ∃ x1 x2 n1 h1 n2 h2, v = .agg #[x1, x2] ∧ PdO w x1 x2 l1 l2 lo hi n1 h1 n2 h2

theorem PdOs.below {w w' : World} {v : Value} {l1 : List Pv} {l2 : List Int} {lo hi : Nat} (h : PdOs w v l1 l2 lo hi) (hb : Below w.heap.size w w') : PdOs w' v l1 l2 lo hi := by
  obtain ⟨x1, x2, n1, h1, n2, h2, e, h⟩ := h
  exact ⟨x1, x2, n1, h1, n2, h2, e, h.below hb⟩

theorem PdOs.seg {w w' : World} {v : Value} {l1 : List Pv} {l2 : List Int} {lo hi a b : Nat} (h : PdOs w v l1 l2 lo hi) (s : Seg a b w w') (d : hi ≤ a ∨ b ≤ lo) : PdOs w' v l1 l2 lo hi := by
  obtain ⟨x1, x2, n1, h1, n2, h2, e, h⟩ := h
  exact ⟨x1, x2, n1, h1, n2, h2, e, h.seg s d⟩

theorem PdO.on {w w' : World} {x1 x2 : Value} {l1 : List Pv} {l2 : List Int} {lo hi n1 h1 n2 h2 : Nat} (h : PdO w x1 x2 l1 l2 lo hi n1 h1 n2 h2) (hs : w.heap.size ≤ w'.heap.size) (k : ∀ b, lo ≤ b → b < hi → b < w.heap.size → w'.heap[b]? = w.heap[b]?) : PdO w' x1 x2 l1 l2 lo hi n1 h1 n2 h2 :=
  ⟨h.p1.on hs fun b a c => k b (Nat.le_trans h.low.1 a) (Nat.lt_of_lt_of_le c h.high.1), h.p2.on hs fun b a c => k b (Nat.le_trans h.low.2 a) (Nat.lt_of_lt_of_le c h.high.2), h.low, h.high, h.apart, h.top.1, Nat.le_trans h.top.2 hs⟩

theorem PdOs.on {w w' : World} {v : Value} {l1 : List Pv} {l2 : List Int} {G lo hi : Nat} (h : PdOs w v l1 l2 lo hi) (k : Kept G lo hi w w') : PdOs w' v l1 l2 lo hi := by
  obtain ⟨x1, x2, n1, h1, n2, h2, e, h⟩ := h
  exact ⟨x1, x2, n1, h1, n2, h2, e, h.on k.size k.own⟩

theorem PdOs.mono {w : World} {v : Value} {l1 : List Pv} {l2 : List Int} {lo hi lo' hi' : Nat} (h : PdOs w v l1 l2 lo hi) (k1 : lo' ≤ lo) (k2 : hi ≤ hi') (k3 : hi' ≤ w.heap.size) : PdOs w v l1 l2 lo' hi' := by
  obtain ⟨x1, x2, n1, h1, n2, h2, e, h⟩ := h
  obtain ⟨q1, q2⟩ := h.low
  obtain ⟨r1, r2⟩ := h.high
  obtain ⟨t1, t2⟩ := h.top
  exact ⟨x1, x2, n1, h1, n2, h2, e, h.p1, h.p2, ⟨by omega, by omega⟩, ⟨by omega, by omega⟩, h.apart, by omega, k3⟩

theorem PdOs.form {w : World} {v : Value} {l1 : List Pv} {l2 : List Int} {lo hi : Nat} (h : PdOs w v l1 l2 lo hi) : ∃ a1 c1 a2 c2, v = .agg #[.slice a1 l1.length c1, .slice a2 l2.length c2] := by
  obtain ⟨x1, x2, n1, h1, n2, h2, rfl, h⟩ := h
  obtain ⟨a1, c1, rfl⟩ := h.p1.own.form
  obtain ⟨a2, c2, rfl⟩ := h.p2.form
  exact ⟨_, _, _, _, rfl⟩

theorem PdOs.top {w : World} {v : Value} {l1 : List Pv} {l2 : List Int} {lo hi : Nat} (h : PdOs w v l1 l2 lo hi) : lo ≤ hi ∧ hi ≤ w.heap.size := by
  obtain ⟨x1, x2, n1, h1, n2, h2, e, h⟩ := h
  exact h.top

theorem PdOs.rd {w : World} {v : Value} {l1 : List Pv} {l2 : List Int} {lo hi : Nat} (h : PdOs w v l1 l2 lo hi) (hw : PdWf l1 l2) : Pd w w.heap.size v l1 l2 := by
  obtain ⟨x1, x2, n1, h1, n2, h2, e, h⟩ := h
  obtain ⟨k1, k2⟩ := hw
  exact ⟨x1, x2, e, h.p1.own.pvs (Nat.le_refl _) k1.1 k1.2, h.p2.ints k2, h.p1.cap, h.p2.cap⟩

set_option maxHeartbeats 1000000 in
theorem szPending_any (v : Value) (l1 : List Pv) (l2 : List Int) (left : Int) (w : World) (B : Nat) (hv : Pd w B v l1 l2) (hB : B ≤ w.heap.size) (h1 : -1 ≤ left) (h2 : left ≤ 1048576) :
    Calls Try.prog 37 #[v, .int .i64 left] w (RetI1 w (szC (l1.length + l2.length) left)) := by
  obtain ⟨a1, c1, a2, c2, rfl, i1, i2⟩ := hv.form
  clear hv
  obtain ⟨y, hy⟩ : ∃ y, y = szC (l1.length + l2.length) left := ⟨_, rfl⟩
  rw [← hy]
  unfold szC at hy
  have hb := below1 w (.cells #[.slice a1 l1.length c1, .slice a2 l2.length c2] 65)
  have I1 := hide (i1.below hb hB)
  have I2 := hide (i2.below hb hB)
  clear i1 i2 hb
  obtain ⟨z1, hz1⟩ : ∃ z, z = (if left - l1.length < 0 then -1 else left - l1.length) := ⟨_, rfl⟩
  have HZ1 := hide hz1
  by_cases q1 : z1 < 0
  · have hyf := hide (show y = -1 by rw [hy, if_pos (by split at hz1 <;> omega)])
    clear hy hz1
    go_enter Try.func37, Try.ntmps37
    go_wp2_with fail
    go_at_call 86
    refine (szItemS_any _ l1 _ _ B I1.out h1 h2).mono ?_
    rintro e wa ⟨rfl, rfl⟩
    rw [← HZ1.out]
    go_wp2_with fail
    go_ret
    exact ⟨by rw [hyf.out]; rfl, below1 _ _⟩
  · have r1 : -1 ≤ z1 ∧ z1 ≤ 1048576 := by split at hz1 <;> omega
    obtain ⟨r1, r1'⟩ := r1
    obtain ⟨z2, hz2⟩ : ∃ z, z = szI l2 z1 := ⟨_, rfl⟩
    have HZ2 := hide hz2
    unfold szI at hz2
    by_cases q2 : z2 < 0
    · have hyf := hide (show y = -1 by rw [hy]; split at hz1 <;> split at hz2 <;> split <;> omega)
      clear hy hz1 hz2
      go_enter Try.func37, Try.ntmps37
      go_wp2_with fail
      go_at_call 86
      refine (szItemS_any _ l1 _ _ B I1.out h1 h2).mono ?_
      rintro e wa ⟨rfl, rfl⟩
      rw [← HZ1.out]
      go_wp2_with fail
      go_at_call 62
      refine (szIntS_any _ l2 _ _ B I2.out r1 r1').mono ?_
      rintro e wa ⟨rfl, rfl⟩
      rw [← HZ2.out]
      go_wp2_with fail
      go_ret
      exact ⟨by rw [hyf.out]; rfl, below1 _ _⟩
    · have hyf := hide (show y = z2 by rw [hy]; split at hz1 <;> split at hz2 <;> split <;> omega)
      clear hy hz1 hz2
      go_enter Try.func37, Try.ntmps37
      go_wp2_with fail
      go_at_call 86
      refine (szItemS_any _ l1 _ _ B I1.out h1 h2).mono ?_
      rintro e wa ⟨rfl, rfl⟩
      rw [← HZ1.out]
      go_wp2_with fail
      go_at_call 62
      refine (szIntS_any _ l2 _ _ B I2.out r1 r1').mono ?_
      rintro e wa ⟨rfl, rfl⟩
      rw [← HZ2.out]
      go_wp2_with fail
      go_ret
      exact ⟨by rw [hyf.out]; rfl, below1 _ _⟩

/-- A new Pending of the call's own is returned; nothing that was there has turned. -/
def RetPdO (w : World) (l1 : List Pv) (l2 : List Int) (e : Ending) (w' : World) : Prop := ∃ v lo, e = .returned v ∧ w.heap.size ≤ lo ∧ PdOs w' v l1 l2 lo w'.heap.size ∧ Below w.heap.size w w'

set_option maxHeartbeats 2000000 in
theorem toPending_own (v : Value) (l1 : List Pv) (l2 : List Int) (w : World) (B : Nat) (hv : Pd w B v l1 l2) (hB : B ≤ w.heap.size) (k1 : l1.length ≤ 1048576) (k2 : l2.length ≤ 1048576) :
    Calls Try.prog 39 #[v] w (RetPdO w l1 l2) := by
  obtain ⟨a1, c1, a2, c2, rfl, i1, i2⟩ := hv.form
  have X := hide (Kn.three w #[.slice a1 l1.length c1, .slice a2 l2.length c2] #[.slice none 0 0, .slice none 0 0] #[.slice none 0 0, .slice none 0 0] 65 70 70)
  obtain ⟨u0, hu0⟩ : ∃ q, q = ((w.alloc (.cells #[.slice a1 l1.length c1, .slice a2 l2.length c2] 65)).alloc (.cells #[.slice none 0 0, .slice none 0 0] 70)).alloc (.cells #[.slice none 0 0, .slice none 0 0] 70) := ⟨_, rfl⟩
  rw [← hu0] at X
  have HI := hide (fun (W : World) (h : Below w.heap.size w W) => And.intro (i1.below h hB) (i2.below h hB))
  clear i1 i2 hv
  have P1 := hide (X.out.lt 2 rfl)
  have d0 := X.out.cell 0 0 rfl rfl
  go_enter Try.func39, Try.ntmps39
  go_wp2_with fail
  rw [← hu0]
  clear hu0
  go_at_call 88
  refine (toItemS_own _ l1 _ B (HI.out _ X.out.below).1 (Nat.le_trans hB X.out.below.size) k1).mono ?_
  rintro e w0a ⟨v1, rfl, O1, hb⟩
  obtain ⟨g1, m1, rfl⟩ := O1.form
  have Q1 := hide hb.size
  have O1 := hide (Owi.of O1 hb.size)
  have X := hide (X.out.up hb)
  clear hb d0
  have e0 := X.out.cell 2 0 rfl rfl
  have f0 := X.out.free 2 0 rfl
  have Y := hide (X.out.set 2 0 rfl (.slice g1 l1.length m1))
  have d1 := Y.out.cell 0 1 rfl rfl
  go_wp2_with fail
  have sg := Seg.setCell w0a (w.heap.size + 1 + 1) 0 (.slice g1 l1.length m1)
  have O1 := hide (O1.out.seg sg (.inr (by have := P1.out; have := Q1.out; omega)))
  have S1 := hide (show (w0a.setCell ⟨w.heap.size + 1 + 1, 0, none⟩ (.slice g1 l1.length m1)).heap.size = w0a.heap.size by simp)
  obtain ⟨u1, hu1⟩ : ∃ q, q = w0a.setCell ⟨w.heap.size + 1 + 1, 0, none⟩ (.slice g1 l1.length m1) := ⟨_, rfl⟩
  rw [← hu1] at Y S1 O1 ⊢
  clear hu1 d1 e0 f0 sg
  have X := Y
  clear Y
  have d0 := X.out.cell 0 1 rfl rfl
  go_at_call 11
  refine (toIntS_own _ l2 _ B (HI.out _ X.out.below).2 (Nat.le_trans hB X.out.below.size) k2).mono ?_
  rintro e w1a ⟨v2, rfl, O2, hb⟩
  obtain ⟨g2, m2, rfl⟩ := O2.form
  have Q2 := hide hb.size
  have O2 := hide (Ow.of O2 hb.size)
  have O1 := hide (O1.out.below hb)
  have X := hide (X.out.up hb)
  clear hb d0
  have e0 := X.out.cell 2 1 rfl rfl
  have f0 := X.out.free 2 1 rfl
  have Y := hide (X.out.set 2 1 rfl (.slice g2 l2.length m2))
  have r0 := Y.out.cell 2 0 rfl rfl
  have s0 := Y.out.cell 1 0 rfl rfl
  have t0 := Y.out.free 1 0 rfl
  have r1 := Y.out.cell 2 1 rfl rfl
  have s1 := Y.out.cell 1 1 rfl rfl
  have t1 := Y.out.free 1 1 rfl
  go_wp2_with fail
  have Z := ((Y.out.set 1 0 rfl (.slice g1 l1.length m1)).set 1 1 rfl (.slice g2 l2.length m2))
  have q0 := Z.cell 1 0 rfl rfl
  have q1 := Z.cell 1 1 rfl rfl
  have p1 := P1.out
  have pq0 := Q1.out
  have pq1 := Q2.out
  have ps0 := S1.out
  have sg : Seg (w.heap.size + 1) (w.heap.size + 1 + 1 + 1) w1a (((w1a.setCell ⟨w.heap.size + 1 + 1, 1, none⟩ (.slice g2 l2.length m2)).setCell ⟨w.heap.size + 1, 0, none⟩ (.slice g1 l1.length m1)).setCell ⟨w.heap.size + 1, 1, none⟩ (.slice g2 l2.length m2)) :=
    ⟨(((Below.refl (w.heap.size + 1) w1a).setCell (p := ⟨w.heap.size + 1 + 1, 1, none⟩) (by show w.heap.size + 1 ≤ w.heap.size + 1 + 1; omega) _).setCell (Nat.le_refl _) _).setCell (Nat.le_refl _) _, fun b hb _ => by
      rw [Below.heap_setCell _ _ _ _ (by show b ≠ w.heap.size + 1; omega), Below.heap_setCell _ _ _ _ (by show b ≠ w.heap.size + 1; omega), Below.heap_setCell _ _ _ _ (by show b ≠ w.heap.size + 1 + 1; omega)]⟩
  have O1 := O1.out.seg sg (.inr (by omega))
  have O2 := O2.out.seg sg (.inr (by omega))
  have hsz : (((w1a.setCell ⟨w.heap.size + 1 + 1, 1, none⟩ (.slice g2 l2.length m2)).setCell ⟨w.heap.size + 1, 0, none⟩ (.slice g1 l1.length m1)).setCell ⟨w.heap.size + 1, 1, none⟩ (.slice g2 l2.length m2)).heap.size = w1a.heap.size := by simp
  refine bodyPost_ret (v := .agg #[.slice g1 l1.length m1, .slice g2 l2.length m2]) (by simp [results, Try.results39, go_sem, q0, q1]) rfl ⟨_, u0.heap.size, rfl, by omega, ?_, Z.below⟩
  rw [hsz]
  exact ⟨_, _, _, _, _, _, rfl, ⟨O1, O2, ⟨by omega, by omega⟩, ⟨by omega, by omega⟩, .inl (by omega), by omega, by rw [hsz]; exact Nat.le_refl _⟩⟩

def RetPdO' (w : World) (l1 : List Pv) (l2 : List Int) (e : Ending) (w' : World) : Prop := ∃ v, e = .returned v ∧ PdOs w' v l1 l2 w.heap.size w'.heap.size ∧ Below w.heap.size w w'

theorem toPending_o (v : Value) (l1 : List Pv) (l2 : List Int) (w : World) (B : Nat) (hv : Pd w B v l1 l2) (hB : B ≤ w.heap.size) (k1 : l1.length ≤ 1048576) (k2 : l2.length ≤ 1048576) :
    Calls Try.prog 39 #[v] w (RetPdO' w l1 l2) := by
  refine (toPending_own v l1 l2 w B hv hB k1 k2).mono ?_
  rintro e w' ⟨u, lo, rfl, hlo, h, hb⟩
  exact ⟨_, rfl, h.mono hlo (Nat.le_refl _) (Nat.le_refl _), hb⟩

set_option maxHeartbeats 1000000 in
theorem eqPending_same (v u : Value) (l1 : List Pv) (l2 : List Int) (w : World) (B : Nat) (hB : B ≤ w.heap.size) (hv : Pd w B v l1 l2) (hu : Pd w B u l1 l2) :
    Calls Try.prog 41 #[v, u] w (RetB1 w true) := by
  obtain ⟨a1, c1, a2, c2, rfl, i1, i2⟩ := hv.form
  obtain ⟨b1, k1, b2, k2, rfl, j1, j2⟩ := hu.form
  have X := hide (Kn.two w #[.slice a1 l1.length c1, .slice a2 l2.length c2] #[.slice b1 l1.length k1, .slice b2 l2.length k2] 70 70)
  obtain ⟨u0, hu0⟩ : ∃ q, q = (w.alloc (.cells #[.slice a1 l1.length c1, .slice a2 l2.length c2] 70)).alloc (.cells #[.slice b1 l1.length k1, .slice b2 l2.length k2] 70) := ⟨_, rfl⟩
  rw [← hu0] at X
  have H1 := hide (fun (W : World) (h : Below w.heap.size w W) => And.intro (i1.below h hB) (j1.below h hB))
  have H2 := hide (fun (W : World) (h : Below w.heap.size w W) => And.intro (i2.below h hB) (j2.below h hB))
  clear i1 j1 i2 j2 hv hu
  have d0 := X.out.cell 0 0 rfl rfl
  have d1 := X.out.cell 1 0 rfl rfl
  go_enter Try.func41, Try.ntmps41
  go_wp2_with fail
  rw [← hu0]
  clear hu0
  go_at_call 91
  refine (eqItemS_same _ _ l1 _ B (H1.out _ X.out.below).1 (H1.out _ X.out.below).2 (Nat.le_trans hB X.out.below.size)).mono ?_
  rintro e w1 ⟨rfl, hb⟩
  have X := hide (X.out.up hb)
  clear hb d0 d1
  have d0 := X.out.cell 0 1 rfl rfl
  have d1 := X.out.cell 1 1 rfl rfl
  go_wp2_with fail
  go_at_call 15
  refine (eqIntS_alike _ _ l2 _ B (H2.out _ X.out.below).1 (H2.out _ X.out.below).2).mono ?_
  rintro e w2 ⟨rfl, hb⟩
  have X := hide (X.out.up hb)
  clear hb d0 d1
  go_wp2_with fail
  go_ret
  exact ⟨rfl, X.out.below⟩

/-- A number is returned, the value's own elements now read as l1 l2, only their stretch has turned. -/
def RetMPdO (w : World) (v : Value) (l1 : List Pv) (l2 : List Int) (lo hi : Nat) (k : Int) (e : Ending) (w' : World) : Prop := e = .returned (.int .i64 k) ∧ PdOs w' v l1 l2 lo hi ∧ Seg lo hi w w'

set_option maxHeartbeats 2000000 in
theorem markPending_o (v : Value) (l1 : List Pv) (l2 : List Int) (lo hi : Nat) (k : Int) (w : World) (h : PdOs w v l1 l2 lo hi) (k0 : 0 ≤ k) (k1 : k + 2 * l1.length + l2.length ≤ 4611686018427387904) :
    Calls Try.prog 44 #[v, .int .i64 k] w (RetMPdO w v (mkP k l1.length) (mkI (k + 2 * l1.length) l2.length) lo hi (k + 2 * l1.length + l2.length)) := by
  obtain ⟨x1, x2, n1, h1, n2, h2, rfl, h⟩ := h
  obtain ⟨a1, c1, rfl⟩ := h.p1.own.form
  obtain ⟨a2, c2, rfl⟩ := h.p2.form
  obtain ⟨ql1, ql2⟩ := h.low
  obtain ⟨qh1, qh2⟩ := h.high
  have qa0 := h.apart
  obtain ⟨qt1, qt2⟩ := h.top
  have hx1 := h.p1.le
  have hx2 := h.p2.le
  have X := hide (Kn.one w #[.slice a1 l1.length c1, .slice a2 l2.length c2] 70)
  obtain ⟨u0, hu0⟩ : ∃ q, q = w.alloc (.cells #[.slice a1 l1.length c1, .slice a2 l2.length c2] 70) := ⟨_, rfl⟩
  rw [← hu0] at X
  have O := hide (h.below X.out.below)
  have S0 := hide (Seg.of_below (hi := hi) X.out.below (Nat.le_trans qt1 qt2))
  have hn0 := hide (X.out.lt 0 rfl)
  have G := hide (X.out.mem 0 rfl)
  clear h
  have O1 := hide O.out.p1
  have O2 := hide O.out.p2
  clear O
  have d0 : u0.cell? ⟨w.heap.size, 0, none⟩ = some (.slice a1 l1.length c1) := cell_of_row u0 w.heap.size 0 _ _ (0, 0) G.out
  go_enter Try.func44, Try.ntmps44
  go_wp2_with fail
  rw [← hu0]
  clear hu0 X
  go_at_call 94
  refine (markIs_ow _ l1 n1 h1 (k) _ O1.out (by omega) (by omega)).mono ?_
  rintro e u1 ⟨rfl, Z, s⟩
  have O2 := hide (O2.out.seg s (by omega))
  have O1 := hide Z
  clear Z
  have G := hide ((s.over w.heap.size (by omega) hn0.out).trans G.out)
  have S1 := hide (S0.out.trans (s.mono ql1 qh1))
  have hn1 := hide (Nat.lt_of_lt_of_le hn0.out s.below.size)
  clear d0 s
  have d0 : u1.cell? ⟨w.heap.size, 1, none⟩ = some (.slice a2 l2.length c2) := cell_of_row u1 w.heap.size 1 _ _ (0, 0) G.out
  go_wp2_with fail
  go_at_call 17
  refine (markIntS_ow _ l2 n2 h2 (k + 2 * l1.length) _ O2.out (by omega) (by omega)).mono ?_
  rintro e u2 ⟨rfl, Z, s⟩
  have O1 := hide (O1.out.seg s (by omega))
  have O2 := hide Z
  clear Z
  have G := hide ((s.over w.heap.size (by omega) hn1.out).trans G.out)
  have S2 := hide (S1.out.trans (s.mono ql2 qh2))
  have hn2 := hide (Nat.lt_of_lt_of_le hn1.out s.below.size)
  clear d0 s
  go_wp2_with fail
  go_ret
  exact ⟨rfl, ⟨_, _, _, _, _, _, rfl, ⟨O1.out, O2.out, ⟨ql1, ql2⟩, ⟨qh1, qh2⟩, qa0, qt1, Nat.le_trans qt2 S2.out.below.size⟩⟩, S2.out⟩

set_option maxHeartbeats 2000000 in
theorem heldPending_o (v : Value) (r1 r2 : Nat) (lo hi : Nat) (k : Int) (w : World) (h : PdOs w v (mkP k r1) (mkI (k + 2 * (r1 : Int)) r2) lo hi) (k0 : 0 ≤ k) (k1 : k + 2 * (r1 : Int) + (r2 : Int) ≤ 4611686018427387904) :
    Calls Try.prog 45 #[v, .int .i64 k] w (RetI1 w (k + 2 * (r1 : Int) + (r2 : Int))) := by
  obtain ⟨x1, x2, n1, h1, n2, h2, rfl, h⟩ := h
  obtain ⟨a1, c1, hx1⟩ := h.p1.own.form
  rw [mkP_length] at hx1
  subst hx1
  obtain ⟨a2, c2, hx2⟩ := h.p2.form
  rw [mkI_length] at hx2
  subst hx2
  have X := hide (Kn.one w #[.slice a1 r1 c1, .slice a2 r2 c2] 70)
  obtain ⟨u0, hu0⟩ : ∃ q, q = w.alloc (.cells #[.slice a1 r1 c1, .slice a2 r2 c2] 70) := ⟨_, rfl⟩
  rw [← hu0] at X
  have O := hide (h.below X.out.below)
  clear h
  have d0 : u0.cell? ⟨w.heap.size, 0, none⟩ = some (.slice a1 r1 c1) := X.out.cell 0 0 rfl rfl
  have t0 : decide (k + 2 * (r1 : Int) < 0) = false := by simp; omega
  have d1 : u0.cell? ⟨w.heap.size, 1, none⟩ = some (.slice a2 r2 c2) := X.out.cell 0 1 rfl rfl
  have t1 : decide (k + 2 * (r1 : Int) + (r2 : Int) < 0) = false := by simp; omega
  go_enter Try.func45, Try.ntmps45
  go_wp2_with fail
  rw [← hu0]
  clear hu0
  go_at_call 95
  refine (heldIs_ow _ r1 n1 h1 (k) _ O.out.p1 (by omega) (by omega)).mono ?_
  rintro e wa ⟨rfl, rfl⟩
  go_wp2_with fail
  go_at_call 60
  refine (heldIntS_ow _ r2 n2 h2 (k + 2 * (r1 : Int)) _ O.out.p2 (by omega) (by omega)).mono ?_
  rintro e wa ⟨rfl, rfl⟩
  go_wp2_with fail
  go_ret
  exact ⟨rfl, X.out.below⟩

theorem open_pd {H : Type} {enc : TypeId × Value → H} {W : World} {base : Nat} {v : Value} {d : DataW H} {p : List MemPlace} (hv : Value.okWide Try.prog W .any base 65 v) (h : DataW.Trod enc Try.prog W 0 (fun _ => true) true 65 v d p) : ∃ l1 l2, Pd W W.heap.size v l1 l2 := by
  obtain ⟨x1, x2, y0, y1, n, rfl, _, _, t0, t1⟩ := Joins.open_agg2 Try.underlying65 (by kernel_rfl) (by kernel_rfl) hv h
  obtain ⟨l1, j1, q1⟩ := its_in t0
  obtain ⟨l2, j2, q2⟩ := ints_in' ⟨_, t1⟩
  exact ⟨l1, l2, x1, x2, rfl, j1, j2, q1, q2⟩

end Go.Proofs.Ytajfhalalnlejaa
