/- Ranges: what MeetRanges returns, of the reference and of the program (promise 2). -/
import Derived.Test.YtkhhlifnbelckaaRng2
import Derived.Test.YtkhhlifnbelckaaBx
namespace Go.Proofs.Ytkhhlifnbelckaa
open Go.RowKit Go.ChangeShapes
set_option linter.unusedSimpArgs false
set_option linter.unusedVariables false
set_option maxRecDepth 100000

/-- What two ranges have in common. -/
def meF (a b c d : Int) : Int := if isR a b = true ∧ isR c d = true then max a c else 0
def meT (a b c d : Int) : Int := if isR a b = true ∧ isR c d = true then max (max a c) (min b d) else 0

theorem meet_no {a b c d : Int} (h : isR a b = false ∨ isR c d = false) : meF a b c d = 0 ∧ meT a b c d = 0 := by
  unfold meF meT
  rcases h with h | h <;> simp [h]

theorem meet_yes {a b c d x y : Int} (h : isR a b = true) (k : isR c d = true) (hx : x = max a c) (hy : y = max x (min b d)) : meF a b c d = x ∧ meT a b c d = y := by
  subst hx; subst hy
  unfold meF meT
  simp [h, k]

/-- The result's variable, written, is what is returned. -/
theorem rg_end {w W : World} {os : List (Array Value × TypeId)} {p q : Value} {t : TypeId} (X : Bx w W os) (i : Nat) (h : os[i]? = some (#[p, q], t)) :
    Below w.heap.size w W ∧ W.cell? ⟨w.heap.size + i, 0, none⟩ = some p ∧ W.cell? ⟨w.heap.size + i, 1, none⟩ = some q := ⟨X.below, X.cell i 0 h rfl, X.cell i 1 h rfl⟩

section
variable (a b c d : Int) (w : World)
/-- The blocks that MeetRanges makes at once. -/
def meB (r s : Int) : List (Array Value × TypeId) := [(#[.int .i64 a, .int .i64 b], 43), (#[.int .i64 c, .int .i64 d], 43), (#[.int .i64 r, .int .i64 s], 43)]
end

/-- MeetRanges' frame, once its blocks are made. -/
theorem me_facts {a b c d r s : Int} {w W : World} (X : Bx w W (meB a b c d r s)) :
    W.cell? ⟨w.heap.size, 0, none⟩ = some (.int .i64 a) ∧ W.cell? ⟨w.heap.size, 1, none⟩ = some (.int .i64 b) ∧ W.cell? ⟨w.heap.size + 1, 0, none⟩ = some (.int .i64 c) ∧ W.cell? ⟨w.heap.size + 1, 1, none⟩ = some (.int .i64 d) ∧
    W.cell? ⟨w.heap.size + 1 + 1, 0, none⟩ = some (.int .i64 r) ∧ W.cell? ⟨w.heap.size + 1 + 1, 1, none⟩ = some (.int .i64 s) ∧ W.frozen? ⟨w.heap.size + 1 + 1, 0, none⟩ = false ∧ W.frozen? ⟨w.heap.size + 1 + 1, 1, none⟩ = false ∧ w.heap.size + 1 + 1 < W.heap.size :=
  ⟨X.cell 0 0 rfl rfl, X.cell 0 1 rfl rfl, X.cell 1 0 rfl rfl, X.cell 1 1 rfl rfl, X.cell 2 0 rfl rfl, X.cell 2 1 rfl rfl, X.free 2 0 rfl, X.free 2 1 rfl, by have := X.size; simp [meB] at this; omega⟩

theorem me_set {a b c d : Int} {w W : World} (X : Bx w W (meB a b c d 0 0)) (r s : Int) : Bx w ((W.setCell ⟨w.heap.size + 1 + 1, 0, none⟩ (.int .i64 r)).setCell ⟨w.heap.size + 1 + 1, 1, none⟩ (.int .i64 s)) (meB a b c d r s) :=
  (X.set 2 0 rfl (.int .i64 r)).set 2 1 rfl (.int .i64 s)

theorem me_out {a b c d : Int} {w W : World} (X : Bx w W (meB a b c d 0 0)) (r s : Int) (o : Obj) : Bx w (((W.setCell ⟨w.heap.size + 1 + 1, 0, none⟩ (.int .i64 r)).setCell ⟨w.heap.size + 1 + 1, 1, none⟩ (.int .i64 s)).alloc o) (meB a b c d r s) :=
  (me_set X r s).up (below1 _ _)

end Go.Proofs.Ytkhhlifnbelckaa
