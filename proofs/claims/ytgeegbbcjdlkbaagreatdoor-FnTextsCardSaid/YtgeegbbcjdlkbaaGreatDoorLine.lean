/- The text of a table, as a list of bytes. -/
import Derived.Test.YtgeegbbcjdlkbaaGreatDoorRowCnt
import Derived.Test.YtgeegbbcjdlkbaaGreatDoorFmt
import Derived.Lib.Join
namespace Go.Proofs.YtgeegbbcjdlkbaaGreatDoor
open Go.RowKit Go.ChangeShapes
set_option linter.unusedSimpArgs false
set_option linter.unusedVariables false

/-- The words of line r of a table's text: the names, then the rows. -/
def fmtW (cs : List Col) : Nat → List (List UInt8)
  | 0 => cs.map fun c => c.1.data.toList
  | q + 1 => cs.map fun c => Lib.itoa (c.2.getD q 0)

/-- A line. -/
def lineW (ws : List (List UInt8)) : List UInt8 := Lib.join ws [32] ++ [10]

/-- The first r lines. -/
def preT (cs : List Col) (r : Nat) : List UInt8 := ((List.range r).map fun k => lineW (fmtW cs k)).flatten

/-- The number of rows. -/
def rowsN (cs : List Col) : Nat := (cs.headD (ByteArray.empty, [])).2.length

/-- A table's text; none if it is no table. -/
noncomputable def fmtTab (cs : List Col) : List UInt8 := if isT cs = true then preT cs (rowsN cs + 1) else []

theorem preT_zero (cs : List Col) : preT cs 0 = [] := rfl

theorem preT_succ (cs : List Col) (r : Nat) : preT cs (r + 1) = preT cs r ++ (Lib.join (fmtW cs r) [32] ++ [10]) := by
  simp [preT, List.range_succ, lineW]

theorem fmtW_length (cs : List Col) (r : Nat) : (fmtW cs r).length = cs.length := by cases r <;> simp [fmtW]

theorem join_take_one (ws : List (List UInt8)) (h : 0 < ws.length) : Lib.join (ws.take 1) [32] = ws[0] := by
  match ws, h with
  | x :: r, _ => simp [Lib.join_one]

theorem join_take_succ (ws : List (List UInt8)) (i : Nat) (h0 : 0 < i) (h : i < ws.length) : Lib.join (ws.take (i + 1)) [32] = (Lib.join (ws.take i) [32] ++ [32]) ++ ws[i] := by
  match ws, i, h, h0 with
  | x :: r, i + 1, h, _ =>
    rw [List.take_succ_cons, List.take_succ_cons, Lib.join_cons, Lib.join_cons, Lib.joinTail_take_succ [32] r i _ (List.getElem?_eq_getElem (show i < r.length by simpa using h))]
    simp

theorem join_take_len (ws : List (List UInt8)) (hw : ∀ x ∈ ws, x.length ≤ 21) : ∀ i, i ≤ ws.length → (Lib.join (ws.take i) [32]).length ≤ 22 * i := by
  intro i
  induction i with
  | zero => intro _; simp [Lib.join_nil]
  | succ i ih =>
    intro hi
    by_cases h0 : i = 0
    · subst h0
      rw [join_take_one ws (by omega)]
      have := hw ws[0] (List.getElem_mem _)
      omega
    · rw [join_take_succ ws i (by omega) (by omega)]
      have := ih (by omega)
      have := hw ws[i] (List.getElem_mem _)
      simp
      omega

theorem isT_word {cs : List Col} (h : isT cs = true) (r : Nat) : ∀ x ∈ fmtW cs r, x.length ≤ 21 := by
  have ht := isT_ok h
  intro x hx
  cases r with
  | zero =>
    simp only [fmtW, List.mem_map] at hx
    obtain ⟨c, hc, rfl⟩ := hx
    obtain ⟨j, hj, rfl⟩ := List.getElem_of_mem hc
    have := (ht.2 j hj).1
    simp [isNm] at this
    simp
    omega
  | succ q =>
    simp only [fmtW, List.mem_map] at hx
    obtain ⟨c, hc, rfl⟩ := hx
    obtain ⟨j, hj, rfl⟩ := List.getElem_of_mem hc
    have hv := (ht.2 j hj).2.1
    refine itoa_len _ ?_ ?_
    all_goals
      rw [List.getD_eq_getElem?_getD]
      by_cases hq : q < cs[j].2.length
      · rw [List.getElem?_eq_getElem hq]
        simp [areVals] at hv
        have := hv.2 _ (List.getElem_mem hq)
        simp only [Option.getD_some]
        omega
      · rw [List.getElem?_eq_none (by omega)]
        simp

theorem preT_len {cs : List Col} (h : isT cs = true) : ∀ r, (preT cs r).length ≤ 89 * r := by
  have hl := (isT_len h).2
  intro r
  induction r with
  | zero => simp [preT_zero]
  | succ r ih =>
    rw [preT_succ]
    have := join_take_len (fmtW cs r) (isT_word h r) (fmtW cs r).length (Nat.le_refl _)
    rw [List.take_of_length_le (Nat.le_refl _), fmtW_length] at this
    simp
    omega

theorem isT_rows {cs : List Col} (h : isT cs = true) : rowsN cs ≤ 64 ∧ ∀ j (hj : j < cs.length), cs[j].2.length = rowsN cs := by
  have ht := isT_ok h
  have hl := isT_len h
  have e : rowsN cs = (cs[0]'(by omega)).2.length := by
    match cs, hl with
    | c :: r, _ => simp [rowsN]
  refine ⟨?_, fun j hj => by rw [e]; exact (ht.2 j hj).2.2.1⟩
  rw [e]
  have hv := (ht.2 0 (by omega)).2.1
  simp [areVals] at hv
  exact hv.1

theorem rowsC_N {cs : List Col} (h : isT cs = true) : rowsC cs = rowsN cs := by unfold rowsC rowsN; rw [if_pos h]

theorem fmtW_zero (cs : List Col) (i : Nat) (h : i < cs.length) : (fmtW cs 0)[i]'(by rw [fmtW_length]; exact h) = cs[i].1.data.toList := by simp [fmtW]

theorem fmtW_row (cs : List Col) (q i : Nat) (h : i < cs.length) (hq : q < cs[i].2.length) : (fmtW cs (q + 1))[i]'(by rw [fmtW_length]; exact h) = Lib.itoa cs[i].2[q] := by
  simp [fmtW, List.getD_eq_getElem?_getD, List.getElem?_eq_getElem hq]

end Go.Proofs.YtgeegbbcjdlkbaaGreatDoor
