/- Ranges: what IsRange, InRange and MeetRanges return, of the reference and of the program; the laws' toRange and eqRange (promise 2). -/
import Derived.Test.YtajfhalalnlejaaInts
import Derived.Test.YtajfhalalnlejaaIn
import Derived.Lib.SmallJoins
import Derived.Deep.RegionWith
namespace Go.Proofs.Ytajfhalalnlejaa
open Go.RowKit Go.ChangeShapes
set_option linter.unusedSimpArgs false
set_option linter.unusedVariables false
set_option maxRecDepth 100000

/-- A range from f up to t: is it valid? -/
def isR (f t : Int) : Bool := decide (-1000 ≤ f ∧ f ≤ 1000 ∧ f ≤ t ∧ t ≤ 1000)

theorem isR_true {f t : Int} (h : isR f t = true) : -1000 ≤ f ∧ f ≤ 1000 ∧ f ≤ t ∧ t ≤ 1000 := of_decide_eq_true h
theorem isR_false {f t : Int} (h : isR f t = false) : ¬ (-1000 ≤ f ∧ f ≤ 1000 ∧ f ≤ t ∧ t ≤ 1000) := of_decide_eq_false h
theorem isR_yes {f t : Int} (h : -1000 ≤ f ∧ f ≤ 1000 ∧ f ≤ t ∧ t ≤ 1000) : isR f t = true := decide_eq_true h
theorem isR_no {f t : Int} (h : ¬ (-1000 ≤ f ∧ f ≤ 1000 ∧ f ≤ t ∧ t ≤ 1000)) : isR f t = false := decide_eq_false h

/-- A range is returned; nothing that was there has turned. -/
def RetRg (w : World) (f t : Int) (e : Ending) (w' : World) : Prop := e = .returned (.agg #[.int .i64 f, .int .i64 t]) ∧ Below w.heap.size w w'

theorem below1 (w : World) (a : Obj) : Below w.heap.size w (w.alloc a) := (Below.refl _ _).alloc (Nat.le_refl _) _
theorem below2 (w : World) (a b : Obj) : Below w.heap.size w ((w.alloc a).alloc b) := (below1 w a).alloc (by simp) _
theorem below3 (w : World) (a b c : Obj) : Below w.heap.size w (((w.alloc a).alloc b).alloc c) := (below2 w a b).alloc (by simp; omega) _

/-- The bounds of limitRange. -/
def limF (f : Int) : Int := min (max f (-1000)) 1000
def limT (f t : Int) : Int := min (max t (limF f)) 1000

theorem lim_eq (f t : Int) : isR f t = true ↔ limF f = f ∧ limT f t = t := by
  constructor
  · intro h
    have := isR_true h
    unfold limT limF; omega
  · rintro ⟨h1, h2⟩
    apply isR_yes
    unfold limT limF at *; omega

/-- Since the call began (world w, that boxed a struct of two cells at once) nothing old has turned, and the box holds x and y. -/
def Box2 (w W : World) (x y : Value) : Prop := Below w.heap.size w W ∧ W.cell? ⟨w.heap.size, 0, none⟩ = some x ∧ W.cell? ⟨w.heap.size, 1, none⟩ = some y ∧ w.heap.size < W.heap.size

theorem Box2.new (w : World) (x y : Value) (t : TypeId) : Box2 w (w.alloc (.cells #[x, y] t)) x y :=
  ⟨below1 w _, cell_of_row _ _ 0 _ t (0, 0) (heap_alloc_new w _), cell_of_row _ _ 1 _ t (0, 0) (heap_alloc_new w _), by simp⟩

theorem Box2.up {w W W' : World} {x y : Value} (h : Box2 w W x y) (hb : Below W.heap.size W W') : Box2 w W' x y :=
  ⟨h.1.trans (hb.mono h.1.size), by rw [hb.cell (p := ⟨w.heap.size, 0, none⟩) h.2.2.2]; exact h.2.1, by rw [hb.cell (p := ⟨w.heap.size, 1, none⟩) h.2.2.2]; exact h.2.2.1, Nat.lt_of_lt_of_le h.2.2.2 hb.size⟩

theorem Box2.drew {w W : World} {x y : Value} (h : Box2 w W x y) : Box2 w W.drew x y := ⟨h.1.drew, h.2.1, h.2.2.1, h.2.2.2⟩

end Go.Proofs.Ytajfhalalnlejaa
