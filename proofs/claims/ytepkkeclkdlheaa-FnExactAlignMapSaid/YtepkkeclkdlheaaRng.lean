/- Ranges: what IsRange, InRange and MeetRanges return, of the reference and of the program; the laws' toRange and eqRange (promise 2). -/
import Derived.Test.YtepkkeclkdlheaaInts
import Derived.Test.YtepkkeclkdlheaaIn
import Derived.Lib.SmallJoins
import Derived.Deep.RegionWith
namespace Go.Proofs.Ytepkkeclkdlheaa
open Go.RowKit Go.ChangeShapes
set_option linter.unusedSimpArgs false
set_option linter.unusedVariables false
set_option maxRecDepth 100000

/-- A range from f up to t: is it valid? -/
def isR (f t : Int) : Bool := decide (-1000 ≤ f ∧ f ≤ 1000 ∧ f ≤ t ∧ t ≤ 1000)

theorem isR_true {f t : Int} (h : isR f t = true) : -1000 ≤ f ∧ f ≤ 1000 ∧ f ≤ t ∧ t ≤ 1000 := of_decide_eq_true h
theorem isR_false {f t : Int} (h : isR f t = false) : ¬ (-1000 ≤ f ∧ f ≤ 1000 ∧ f ≤ t ∧ t ≤ 1000) := of_decide_eq_false h
theorem isR_yes {f t : Int} (h : -1000 ≤ f ∧ f ≤ 1000 ∧ f ≤ t ∧ t ≤ 1000) : isR f t = true := decide_eq_true h
theorem isR_no {f t : Int} (h : ¬ (-1000 ≤ f ∧ f ≤ 1000 ∧ f ≤ t ∧ t ≤ 1000)) : isR f t = false := decide_eq_false h

/-- A range that came in as an argument of a law. -/
theorem open_rg {H : Type} {enc : TypeId × Value → H} {W : World} {base : Nat} {v : Value} {d : DataW H} {p : List MemPlace} (hv : Value.okWide Try.prog W .any base 54 v) (h : DataW.Trod enc Try.prog W 0 (fun _ => true) true 54 v d p) :
    ∃ f t : Int, v = .agg #[.int .i64 f, .int .i64 t] ∧ I64 f ∧ I64 t := by
  obtain ⟨v0, v1, y0, y1, n, rfl, _, _, t0, t1⟩ := Joins.open_agg2 Try.underlying54 (by kernel_rfl) (by kernel_rfl) hv h
  obtain ⟨f, hf, _, wf⟩ := DataW.trod_int Try.underlying3 t0
  obtain ⟨t, ht, _, wt⟩ := DataW.trod_int Try.underlying3 t1
  simp at hf ht
  subst hf; subst ht
  have b0 := bounds_i64 wf
  have b1 := bounds_i64 wt
  exact ⟨f, t, rfl, ⟨by omega, by omega⟩, ⟨by omega, by omega⟩⟩

/-- A range is returned; nothing that was there has turned. -/
def RetRg (w : World) (f t : Int) (e : Ending) (w' : World) : Prop := e = .returned (.agg #[.int .i64 f, .int .i64 t]) ∧ Below w.heap.size w w'

theorem below1 (w : World) (a : Obj) : Below w.heap.size w (w.alloc a) := (Below.refl _ _).alloc (Nat.le_refl _) _
theorem below2 (w : World) (a b : Obj) : Below w.heap.size w ((w.alloc a).alloc b) := (below1 w a).alloc (by simp) _
theorem below3 (w : World) (a b c : Obj) : Below w.heap.size w (((w.alloc a).alloc b).alloc c) := (below2 w a b).alloc (by simp; omega) _

theorem toRange_any (f t : Int) (w : World) : Calls Try.prog 40 #[.agg #[.int .i64 f, .int .i64 t]] w (RetRg w f t) := by
  go_enter Try.func40, Try.ntmps40
  go_wp2
  exact bodyPost_ret (v := .agg #[.int .i64 f, .int .i64 t]) (by simp [results, Try.results40, go_sem]) rfl ⟨rfl, below3 _ _ _ _⟩

theorem sIsR_any (f t : Int) (w : World) : Calls Try.prog 96 #[.agg #[.int .i64 f, .int .i64 t]] w (RetB1 w (isR f t)) := by
  by_cases h : -1000 ≤ f ∧ f ≤ 1000
  · obtain ⟨h1, h2⟩ := h
    by_cases h3 : f ≤ t ∧ t ≤ 1000
    · obtain ⟨h3, h4⟩ := h3
      have hv := hide (isR_yes ⟨h1, h2, h3, h4⟩)
      go_enter Try.func96, Try.ntmps96
      go_wp2_with (go_at_call 81; refine (in_yes _ _ _ _ (by omega) (by omega)).mono ?_; rintro e wa ⟨rfl, rfl⟩)
      go_ret
      exact ⟨by rw [hv.out]; rfl, below1 _ _⟩
    · have hv := hide (isR_no (f := f) (t := t) (by omega))
      go_enter Try.func96, Try.ntmps96
      go_wp2_with (first | (go_at_call 81; refine (in_yes _ _ _ _ (by omega) (by omega)).mono ?_; rintro e wa ⟨rfl, rfl⟩) | (go_at_call 81; refine (in_no _ _ _ _ (by omega)).mono ?_; rintro e wa ⟨rfl, rfl⟩))
      go_ret
      exact ⟨by rw [hv.out]; rfl, below1 _ _⟩
  · have hv := hide (isR_no (f := f) (t := t) (by omega))
    go_enter Try.func96, Try.ntmps96
    go_wp2_with (go_at_call 81; refine (in_no _ _ _ _ (by omega)).mono ?_; rintro e wa ⟨rfl, rfl⟩)
    go_ret
    exact ⟨by rw [hv.out]; rfl, below1 _ _⟩

/-- The bounds of limitRange. -/
def limF (f : Int) : Int := min (max f (-1000)) 1000
def limT (f t : Int) : Int := min (max t (limF f)) 1000

theorem lim_at (f t a b : Int) (w : World) (c1 : f < -1000 ∧ a = -1000 ∨ 1000 < f ∧ a = 1000 ∨ -1000 ≤ f ∧ f ≤ 1000 ∧ a = f) (c2 : t < a ∧ b = a ∨ a ≤ t ∧ t ≤ 1000 ∧ b = t ∨ 1000 < t ∧ b = 1000) :
    Calls Try.prog 178 #[.agg #[.int .i64 f, .int .i64 t]] w (RetRg w a b) := by
  rcases c1 with ⟨h1, rfl⟩ | ⟨h1, rfl⟩ | ⟨h1, h1', rfl⟩
  all_goals
    rcases c2 with ⟨h2, rfl⟩ | ⟨h2, h2', rfl⟩ | ⟨h2, rfl⟩
    all_goals
      go_enter Try.func178, Try.ntmps178
      go_wp2
      try exact bodyPost_ret (v := .agg #[.int .i64 _, .int .i64 _]) (by simp [results, Try.results178, go_sem]) rfl ⟨rfl, below2 _ _ _⟩

theorem lim_any (f t : Int) (w : World) : Calls Try.prog 178 #[.agg #[.int .i64 f, .int .i64 t]] w (RetRg w (limF f) (limT f t)) :=
  lim_at f t _ _ w (by unfold limF; omega) (by unfold limT limF; omega)

theorem lim_eq (f t : Int) : isR f t = true ↔ limF f = f ∧ limT f t = t := by
  constructor
  · intro h
    have := isR_true h
    unfold limT limF; omega
  · rintro ⟨h1, h2⟩
    apply isR_yes
    unfold limT limF at *; omega

/-- Since the call began (world w, that boxed a struct of two cells at once) nothing old has turned, and the box holds x and y. -/
def Box2 (w W : World) (x y : Value) : Prop := Below w.heap.size w W ∧ W.cell? ⟨w.heap.size, 0, none⟩ = some x ∧ W.cell? ⟨w.heap.size, 1, none⟩ = some y ∧ w.heap.size < W.heap.size

theorem Box2.new (w : World) (x y : Value) (t : TypeId) : Box2 w (w.alloc (.cells #[x, y] t)) x y :=
  ⟨below1 w _, cell_of_row _ _ 0 _ t (0, 0) (heap_alloc_new w _), cell_of_row _ _ 1 _ t (0, 0) (heap_alloc_new w _), by simp⟩

theorem Box2.up {w W W' : World} {x y : Value} (h : Box2 w W x y) (hb : Below W.heap.size W W') : Box2 w W' x y :=
  ⟨h.1.trans (hb.mono h.1.size), by rw [hb.cell (p := ⟨w.heap.size, 0, none⟩) h.2.2.2]; exact h.2.1, by rw [hb.cell (p := ⟨w.heap.size, 1, none⟩) h.2.2.2]; exact h.2.2.1, Nat.lt_of_lt_of_le h.2.2.2 hb.size⟩

theorem Box2.drew {w W : World} {x y : Value} (h : Box2 w W x y) : Box2 w W.drew x y := ⟨h.1.drew, h.2.1, h.2.2.1, h.2.2.2⟩

set_option maxHeartbeats 1000000 in
theorem iIsR_at (f t a b : Int) (r : Bool) (w : World) (hl : Hid (∀ W, Calls Try.prog 178 #[.agg #[.int .i64 f, .int .i64 t]] W (RetRg W a b))) (c : f = a ∧ t = b ∧ r = true ∨ f ≠ a ∧ r = false ∨ f = a ∧ t ≠ b ∧ r = false) :
    Calls Try.prog 156 #[.agg #[.int .i64 f, .int .i64 t]] w (RetB1 w r) := by
  have X1 := hide (Box2.new w (.int .i64 f) (.int .i64 t) 64)
  obtain ⟨w1, hw1⟩ : ∃ w1, w1 = w.alloc (.cells #[.int .i64 f, .int .i64 t] 64) := ⟨_, rfl⟩
  rw [← hw1] at X1
  have c0 := X1.out.2.1
  have c1 := X1.out.2.2.1
  rcases c with ⟨rfl, rfl, rfl⟩ | ⟨h, rfl⟩ | ⟨rfl, h, rfl⟩
  · have h1 : (f == f) = true := by simp
    have h2 : (t == t) = true := by simp
    go_enter Try.func156, Try.ntmps156
    go_wp2_with fail
    rw [← hw1]
    clear hw1
    go_region_with (go_at_call 178; refine (hl.out _).mono ?_; rintro e wa ⟨rfl, hb⟩; have d0 := (X1.out.drew.up hb).2.1; have d1 := (X1.out.drew.up hb).2.2.1)
    all_goals go_wp2_with fail
    all_goals go_ret
    all_goals exact ⟨rfl, (X1.out.drew.up hb).1⟩
  · have h1 : (f == a) = false := by simp; exact h
    clear h
    go_enter Try.func156, Try.ntmps156
    go_wp2_with fail
    rw [← hw1]
    clear hw1
    go_region_with (go_at_call 178; refine (hl.out _).mono ?_; rintro e wa ⟨rfl, hb⟩; have d0 := (X1.out.drew.up hb).2.1; have d1 := (X1.out.drew.up hb).2.2.1)
    all_goals go_wp2_with fail
    all_goals go_ret
    all_goals exact ⟨rfl, (X1.out.drew.up hb).1⟩
  · have h1 : (f == f) = true := by simp
    have h2 : (t == b) = false := by simp; exact h
    clear h
    go_enter Try.func156, Try.ntmps156
    go_wp2_with fail
    rw [← hw1]
    clear hw1
    go_region_with (go_at_call 178; refine (hl.out _).mono ?_; rintro e wa ⟨rfl, hb⟩; have d0 := (X1.out.drew.up hb).2.1; have d1 := (X1.out.drew.up hb).2.2.1)
    all_goals go_wp2_with fail
    all_goals go_ret
    all_goals exact ⟨rfl, (X1.out.drew.up hb).1⟩

theorem iIsR_any (f t : Int) (w : World) : Calls Try.prog 156 #[.agg #[.int .i64 f, .int .i64 t]] w (RetB1 w (isR f t)) := by
  refine iIsR_at f t (limF f) (limT f t) _ w (fun W => lim_any f t W) ?_
  have hq := lim_eq f t
  cases h : isR f t
  · rw [h] at hq
    by_cases h1 : f = limF f
    · exact .inr (.inr ⟨h1, fun h2 => by simpa using hq.2 ⟨h1.symm, h2.symm⟩, rfl⟩)
    · exact .inr (.inl ⟨h1, rfl⟩)
  · have := hq.1 h
    exact .inl ⟨this.1.symm, this.2.symm, rfl⟩

end Go.Proofs.Ytepkkeclkdlheaa
