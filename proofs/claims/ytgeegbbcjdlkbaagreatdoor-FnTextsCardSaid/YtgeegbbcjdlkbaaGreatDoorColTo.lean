/- The laws' toColumn, toColumnS, toTable: what they make is owned by the call. -/
import Derived.Test.YtgeegbbcjdlkbaaGreatDoorColEq
namespace Go.Proofs.YtgeegbbcjdlkbaaGreatDoor
open Go.RowKit Go.ChangeShapes
set_option linter.unusedSimpArgs false
set_option linter.unusedVariables false
set_option maxRecDepth 100000

/-- A column is returned whose values are the call's own; nothing that was there has turned. -/
def RetCol (w : World) (n : ByteArray) (l : List Int) (e : Ending) (w' : World) : Prop := ∃ u, e = .returned (.agg #[.string n, u]) ∧ Is w' w.heap.size 3 u l ∧ Below w.heap.size w w'

theorem alloc_size (w : World) (o : Obj) : (w.alloc o).heap.size = w.heap.size + 1 := by unfold World.alloc; exact Array.size_push _

theorem cell_new (w : World) (c : Array Value) (t : TypeId) (j : Nat) : (w.alloc (.cells c t)).cell? ⟨w.heap.size, j, none⟩ = c[j]? := cell_of_row _ _ j c t (0, 0) (heap_alloc_new w _)

theorem froz_new (w : World) (c : Array Value) (t : TypeId) (j : Nat) : (w.alloc (.cells c t)).frozen? ⟨w.heap.size, j, none⟩ = false := frozen_of_row _ _ j c t (heap_alloc_new w _)

theorem infoC : (Tryz.prog.info? 58).map (fun i => (i.zero, i.size, i.bytes)) = some (some (.agg #[.string ⟨#[]⟩, .slice none 0 0]), 2, 40) := by kernel_rfl

/-- v owns the columns cs: the row and each column's values. -/
def OCols (w : World) (base : Nat) (v : Value) (cs : List Col) : Prop :=
  ∃ g cap xs, v = .slice (some ⟨g, 0, none⟩) cs.length cap ∧ w.ownsRow base 58 2 v cs.length xs ∧ ∀ j (h : j < cs.length), ∃ u, xs[j * 2]? = some (.string cs[j].1) ∧ xs[j * 2 + 1]? = some u ∧ Is w base 3 u cs[j].2

theorem owns_below {w w' : World} {base : Nat} {e : TypeId} {z n : Nat} {v : Value} {xs : List Value} (h : w.ownsRow base e z v n xs) (hb : Below w.heap.size w w') : w'.ownsRow base e z v n xs := by
  refine ⟨h.1, ?_⟩
  rcases h.2 with h2 | ⟨g, cap, cur, hv, hg, hh, r⟩
  · exact .inl h2
  · exact .inr ⟨g, cap, cur, hv, hg, by rw [hb.block g (Array.getElem?_eq_some_iff.1 hh).1]; exact hh, r⟩

theorem OCols.below {w w' : World} {base : Nat} {v : Value} {cs : List Col} (h : OCols w base v cs) (hb : Below w.heap.size w w') : OCols w' base v cs := by
  obtain ⟨g, cap, xs, hv, ho, hc⟩ := h
  exact ⟨g, cap, xs, hv, owns_below ho hb, fun j hj => by obtain ⟨u, h1, h2, h3⟩ := hc j hj; exact ⟨u, h1, h2, h3.below hb⟩⟩

theorem OCols.cols {w : World} {base B : Nat} {v : Value} {cs : List Col} (h : OCols w base v cs) (hB : w.heap.size ≤ B) (hl : cs.length ≤ 9223372036854775807) (hn : ∀ c ∈ cs, c.1.size ≤ 9223372036854775807 ∧ c.2.length ≤ 9223372036854775807 ∧ ∀ x ∈ c.2, I64 x) : Cols w B v cs := by
  obtain ⟨g, cap, xs, rfl, ho, hc⟩ := h
  refine ⟨_, _, rfl, hl, fun j hj => ?_⟩
  obtain ⟨u, h1, h2, h3⟩ := hc j hj
  obtain ⟨q1, q2, q3⟩ := hn _ (List.getElem_mem hj)
  refine ⟨g, 0, u, rfl, ?_, ?_, ?_, q1, h3.ints hB q2 q3⟩
  · rcases ho.2 with ⟨h', _⟩ | ⟨g', cap', cur, h', hb, hg, _⟩
    · simp at h'
    · simp only [Value.slice.injEq, Option.some.injEq, Addr.mk.injEq, and_true, true_and] at h'
      obtain ⟨rfl, rfl⟩ := h'
      exact Nat.lt_of_lt_of_le (Array.getElem?_eq_some_iff.1 hg).1 hB
  · rw [Nat.zero_add, World.ownsRow.cellAt ho (j * 2) (by omega)]; exact h1
  · rw [Nat.zero_add, World.ownsRow.cellAt ho (j * 2 + 1) (by omega)]; exact h2

/-- New columns of the call's own are returned; nothing that was there has turned. -/
def RetCols (w : World) (cs : List Col) (e : Ending) (w' : World) : Prop := ∃ v, e = .returned v ∧ OCols w' w.heap.size v cs ∧ Below w.heap.size w w'

/-- v is a table that owns the columns cs. -/
def OTbl (w : World) (base : Nat) (v : Value) (cs : List Col) : Prop := ∃ u, v = .agg #[u] ∧ OCols w base u cs

theorem OTbl.below {w w' : World} {base : Nat} {v : Value} {cs : List Col} (h : OTbl w base v cs) (hb : Below w.heap.size w w') : OTbl w' base v cs := by
  obtain ⟨u, e, h⟩ := h
  exact ⟨u, e, h.below hb⟩

theorem OCols.set {w : World} {base : Nat} {v : Value} {cs : List Col} (h : OCols w base v cs) {a : Addr} (ha : a.block < base) (x : Value) : OCols (w.setCell a x) base v cs := by
  obtain ⟨g, cap, xs, hv, ho, hc⟩ := h
  exact ⟨g, cap, xs, hv, ownsRow_setCell_below ho ha x, fun j hj => by obtain ⟨u, h1, h2, h3⟩ := hc j hj; exact ⟨u, h1, h2, ownsRow_setCell_below h3 ha x⟩⟩

theorem OCols.lower {w : World} {base B : Nat} {v : Value} {cs : List Col} (h : OCols w base v cs) (hb : B ≤ base) : OCols w B v cs := by
  obtain ⟨g, cap, xs, hv, ho, hc⟩ := h
  refine ⟨g, cap, xs, hv, ⟨ho.1, ho.2.elim .inl (fun ⟨g, cap, cur, hv, hg, r⟩ => .inr ⟨g, cap, cur, hv, Nat.le_trans hb hg, r⟩)⟩, fun j hj => by obtain ⟨u, h1, h2, h3⟩ := hc j hj; exact ⟨u, h1, h2, h3.lower hb⟩⟩

/-- A new table of the call's own is returned; nothing that was there has turned. -/
def RetTbl (w : World) (cs : List Col) (e : Ending) (w' : World) : Prop := ∃ v, e = .returned v ∧ OTbl w' w.heap.size v cs ∧ Below w.heap.size w w'

end Go.Proofs.YtgeegbbcjdlkbaaGreatDoor
