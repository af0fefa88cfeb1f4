/- What the laws over tables share: the boxed argument, toTable as it reads, how small the argument is. -/
import Derived.Test.YtgeegbbcjdlkbaaGreatDoorColTo
import Derived.Test.YtgeegbbcjdlkbaaGreatDoorTblIn
namespace Go.Proofs.YtgeegbbcjdlkbaaGreatDoor
open Go.RowKit Go.ChangeShapes
set_option linter.unusedSimpArgs false
set_option linter.unusedVariables false
set_option maxRecDepth 100000

/-- Since the call began (world w, that boxed x at once) nothing old has turned, and the box holds x. -/
def Box (w W : World) (x : Value) : Prop := Below w.heap.size w W ∧ W.cell? ⟨w.heap.size, 0, none⟩ = some x ∧ w.heap.size < W.heap.size

theorem Box.new (w : World) (x : Value) (t : TypeId) : Box w (w.alloc (.cells #[x] t)) x :=
  ⟨(Below.refl _ _).alloc (Nat.le_refl _) _, cell_new w #[x] t 0, by rw [alloc_size]; omega⟩

theorem Box.up {w W W' : World} {x : Value} (h : Box w W x) (hb : Below W.heap.size W W') : Box w W' x :=
  ⟨h.1.trans (hb.mono h.1.size), by rw [hb.cell (p := ⟨w.heap.size, 0, none⟩) h.2.2]; exact h.2.1, Nat.lt_of_lt_of_le h.2.2 hb.size⟩

theorem Box.drew {w W : World} {x : Value} (h : Box w W x) : Box w W.drew x := ⟨h.1.drew, h.2.1, h.2.2⟩

/-- A cell that was made later than w, below the heap's end of W. -/
theorem cell_up {W W' : World} {g : Nat} {x : Value} (h : W.cell? ⟨g, 0, none⟩ = some x) (hg : g < W.heap.size) (hb : Below W.heap.size W W') : W'.cell? ⟨g, 0, none⟩ = some x := by
  rw [hb.cell (p := ⟨g, 0, none⟩) hg]; exact h

/-- A table small enough for the laws. -/
def Small (cs : List Col) : Prop := cs.length ≤ 1048576 ∧ ∀ c ∈ cs, c.1.size ≤ 1048576 ∧ c.2.length ≤ 1048576

theorem small_of {cs : List Col} (h : ¬ lft (totC cs) 1048576 < 0) : Small cs := by
  have h1 : totC cs ≤ 1048576 := by unfold lft at h; split at h <;> omega
  unfold totC at h1
  refine ⟨by omega, fun c hc => ?_⟩
  obtain ⟨j, hj, rfl⟩ := List.getElem_of_mem hc
  have := wC_le cs j hj
  unfold wC at this
  omega

/-- A new table is returned that reads as cs; nothing that was there has turned. -/
def RetTb (w : World) (cs : List Col) (e : Ending) (w' : World) : Prop := ∃ a cap, e = .returned (.agg #[.slice a cs.length cap]) ∧ Tbl w' w'.heap.size (.agg #[.slice a cs.length cap]) cs ∧ Below w.heap.size w w'

theorem Tbl.form {w : World} {B : Nat} {v : Value} {cs : List Col} (h : Tbl w B v cs) : ∃ a cap, v = .agg #[.slice a cs.length cap] := by
  obtain ⟨u, rfl, a, cap, rfl, _⟩ := h
  exact ⟨_, _, rfl⟩

theorem Tbl.sizes {w : World} {B : Nat} {v : Value} {cs : List Col} (h : Tbl w B v cs) : cs.length ≤ 9223372036854775807 ∧ ∀ c ∈ cs, c.1.size ≤ 9223372036854775807 ∧ c.2.length ≤ 9223372036854775807 ∧ ∀ x ∈ c.2, I64 x := by
  obtain ⟨u, rfl, a, cap, rfl, hl, hc⟩ := h
  refine ⟨hl, fun c hcm => ?_⟩
  obtain ⟨j, hj, rfl⟩ := List.getElem_of_mem hcm
  obtain ⟨b, o, u, _, _, _, _, h1, a2, cap2, _, h2, h3, _⟩ := hc j hj
  exact ⟨h1, h2, h3⟩

end Go.Proofs.YtgeegbbcjdlkbaaGreatDoor
