/- Slices of columns and tables: read only (Cols); the laws' szColumn.., toColumn.., eqColumn... -/
import Derived.Test.YtgeegbbcjdlkbaaGreatDoorName
namespace Go.Proofs.YtgeegbbcjdlkbaaGreatDoor
open Go.RowKit Go.ChangeShapes
set_option linter.unusedSimpArgs false
set_option linter.unusedVariables false
set_option maxRecDepth 100000

/-- A column: its name and its values. -/
abbrev Col := ByteArray × List Int

/-- v is a column that reads as c. -/
def ColV (w : World) (B : Nat) (v : Value) (c : Col) : Prop := ∃ u, v = .agg #[.string c.1, u] ∧ c.1.size ≤ 9223372036854775807 ∧ Ints w B u c.2

/-- v is a slice of columns that reads as cs; all its cells lie below block B. -/
def Cols (w : World) (B : Nat) (v : Value) (cs : List Col) : Prop :=
  ∃ a cap, v = .slice a cs.length cap ∧ cs.length ≤ 9223372036854775807 ∧ ∀ j (h : j < cs.length), ∃ b o u, a = some ⟨b, o, none⟩ ∧ b < B ∧ w.cell? ⟨b, o + j * 2, none⟩ = some (.string cs[j].1) ∧ w.cell? ⟨b, o + j * 2 + 1, none⟩ = some u ∧ cs[j].1.size ≤ 9223372036854775807 ∧ Ints w B u cs[j].2

theorem Cols.below {w w' : World} {B C : Nat} {v : Value} {cs : List Col} (h : Cols w B v cs) (hb : Below C w w') (hC : B ≤ C) : Cols w' B v cs := by
  obtain ⟨a, cap, e, h1, h3⟩ := h
  refine ⟨a, cap, e, h1, fun j hj => ?_⟩
  obtain ⟨b, o, u, e2, hB, hc, hc2, hs, hi⟩ := h3 j hj
  exact ⟨b, o, u, e2, hB, by rw [hb.cell (p := ⟨b, o + j * 2, none⟩) (Nat.lt_of_lt_of_le hB hC)]; exact hc, by rw [hb.cell (p := ⟨b, o + j * 2 + 1, none⟩) (Nat.lt_of_lt_of_le hB hC)]; exact hc2, hs, hi.below hb hC⟩

theorem Cols.mono {w : World} {B C : Nat} {v : Value} {cs : List Col} (h : Cols w B v cs) (hC : B ≤ C) : Cols w C v cs := by
  obtain ⟨a, cap, e, h1, h3⟩ := h
  refine ⟨a, cap, e, h1, fun j hj => ?_⟩
  obtain ⟨b, o, u, e2, hB, hc, hc2, hs, hi⟩ := h3 j hj
  exact ⟨b, o, u, e2, Nat.lt_of_lt_of_le hB hC, hc, hc2, hs, hi.mono hC⟩

theorem Cols.up {w w' : World} {v : Value} {cs : List Col} (h : Cols w w.heap.size v cs) (hb : Below w.heap.size w w') : Cols w' w'.heap.size v cs := (h.below hb (Nat.le_refl _)).mono hb.size

/-- How much is left behind n more. -/
def lft (n : Nat) (left : Int) : Int := if left - n < 0 then -1 else left - n

def wC (c : Col) : Nat := c.1.size + c.2.length
def sumC (cs : List Col) : Nat := (cs.map wC).sum
/-- The size of columns. -/
def totC (cs : List Col) : Nat := cs.length + sumC cs

theorem sumC_take (cs : List Col) (k : Nat) (hk : k < cs.length) : sumC (cs.take (k + 1)) = sumC (cs.take k) + wC cs[k] := by
  unfold sumC
  rw [List.take_succ_eq_append_getElem hk, List.map_append, List.sum_append]
  simp

theorem sumC_le (cs : List Col) (k : Nat) : sumC (cs.take k) ≤ sumC cs := by
  have h : sumC cs = sumC (cs.take k) + sumC (cs.drop k) := by
    unfold sumC
    conv => lhs; rw [← List.take_append_drop k cs]
    rw [List.map_append, List.sum_append]
  omega

theorem wC_le (cs : List Col) (k : Nat) (hk : k < cs.length) : wC cs[k] ≤ sumC cs := by
  have := sumC_take cs k hk
  have := sumC_le cs (k + 1)
  omega

/-- v is a table that reads as cs. -/
def Tbl (w : World) (B : Nat) (v : Value) (cs : List Col) : Prop := ∃ u, v = .agg #[u] ∧ Cols w B u cs

theorem Tbl.below {w w' : World} {B C : Nat} {v : Value} {cs : List Col} (h : Tbl w B v cs) (hb : Below C w w') (hC : B ≤ C) : Tbl w' B v cs := by
  obtain ⟨u, e, hc⟩ := h
  exact ⟨u, e, hc.below hb hC⟩

theorem Tbl.mono {w : World} {B C : Nat} {v : Value} {cs : List Col} (h : Tbl w B v cs) (hC : B ≤ C) : Tbl w C v cs := by
  obtain ⟨u, e, hc⟩ := h
  exact ⟨u, e, hc.mono hC⟩

theorem Tbl.up {w w' : World} {v : Value} {cs : List Col} (h : Tbl w w.heap.size v cs) (hb : Below w.heap.size w w') : Tbl w' w'.heap.size v cs := (h.below hb (Nat.le_refl _)).mono hb.size

end Go.Proofs.YtgeegbbcjdlkbaaGreatDoor
