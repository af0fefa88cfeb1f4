/- Columns and tables of the call's own, by footprint: the laws' markText, markColumnS, markTable, heldColumnS, heldTable, and what toTable makes. -/
import Derived.Test.YtgeegbbcjdlkbaaGreatDoorOwn
import Derived.Test.YtgeegbbcjdlkbaaGreatDoorDecT
import Derived.Test.YtgeegbbcjdlkbaaGreatDoorFix
import Derived.Test.YtgeegbbcjdlkbaaGreatDoorColTo
namespace Go.Proofs.YtgeegbbcjdlkbaaGreatDoor
open Go.RowKit Go.ChangeShapes
set_option linter.unusedSimpArgs false
set_option linter.unusedVariables false
set_option maxRecDepth 100000

/-- The text of a mark. -/
def mt (k : Nat) : List UInt8 := 109 :: decT k

def mtB (k : Nat) : ByteArray := ⟨(mt k).toArray⟩

/-- A column's cells: its name, and a slice that owns its values. -/
def colE : Pr Col := fun w c d F => ∃ u, c = [.string d.1, u] ∧ OI w 3 u d.2 F

theorem colE_good : Good colE 2 where
  kept := by
    rintro w w' c d F ⟨u, rfl, h⟩ hb
    exact ⟨u, rfl, h.eq hb⟩
  lt := by
    rintro w c d F ⟨u, rfl, h⟩
    exact h.lt
  size := by
    rintro w c d F ⟨u, rfl, h⟩
    rfl

/-- v owns columns. -/
abbrev colsE (w : World) (v : Value) (cs : List Col) (F : List Nat) : Prop := slE 58 2 colE w v cs F

/-- How many marks columns take. -/
def cnt : List Col → Nat
  | [] => 0
  | c :: cs => 1 + c.2.length + cnt cs

/-- The columns that a mark from k on leaves. -/
def mkC : Nat → List Col → List Col
  | _, [] => []
  | k, c :: cs => (mtB k, mkI (k + 1 : Nat) c.2.length) :: mkC (k + 1 + c.2.length) cs

theorem mkC_length : ∀ (cs : List Col) (k : Nat), (mkC k cs).length = cs.length
  | [], _ => rfl
  | c :: cs, k => by simp [mkC, mkC_length cs]

theorem cnt_take (cs : List Col) (j : Nat) (hj : j < cs.length) : cnt (cs.take (j + 1)) = cnt (cs.take j) + (1 + cs[j].2.length) := by
  induction cs generalizing j with
  | nil => simp at hj
  | cons c cs ih =>
    cases j with
    | zero => simp [cnt]
    | succ j =>
      simp only [List.take_succ_cons, cnt, List.getElem_cons_succ]
      rw [ih j (by simpa using hj)]
      omega

theorem cnt_le (cs : List Col) (j : Nat) : cnt (cs.take j) ≤ cnt cs := by
  induction cs generalizing j with
  | nil => simp [cnt]
  | cons c cs ih =>
    cases j with
    | zero => simp [cnt]
    | succ j => simp only [List.take_succ_cons, cnt]; have := ih j; omega

theorem cnt_eq (cs : List Col) : cnt cs = cs.length + (cs.map fun c => c.2.length).sum := by
  induction cs with
  | nil => rfl
  | cons c cs ih => simp [cnt, ih]; omega

theorem mkC_get (cs : List Col) (k j : Nat) (hj : j < cs.length) : (mkC k cs)[j]'(by rw [mkC_length]; exact hj) = (mtB (k + cnt (cs.take j)), mkI (k + cnt (cs.take j) + 1 : Nat) cs[j].2.length) := by
  induction cs generalizing j k with
  | nil => simp at hj
  | cons c cs ih =>
    cases j with
    | zero => simp [mkC, cnt]
    | succ j =>
      simp only [mkC, List.getElem_cons_succ, List.take_succ_cons, cnt]
      rw [ih (k + 1 + c.2.length) j (by simpa using hj)]
      congr 2
      · omega
      · congr 1
        omega

/-- Columns whose first j are marked. -/
def mixC (k : Nat) (cs : List Col) (j : Nat) : List Col := (mkC k cs).take j ++ cs.drop j

theorem mixC_length (k : Nat) (cs : List Col) (j : Nat) : (mixC k cs j).length = cs.length := by simp [mixC, mkC_length]; omega

theorem mixC_at (k : Nat) (cs : List Col) (j : Nat) (hj : j < cs.length) : (mixC k cs j)[j]'(by rw [mixC_length]; exact hj) = cs[j] := by
  unfold mixC
  have e : ((mkC k cs).take j).length = j := by simp [mkC_length]; omega
  rw [List.getElem_append_right (by omega)]
  simp [e]

theorem mixC_set (k : Nat) (cs : List Col) (j : Nat) (hj : j < cs.length) : (mixC k cs j).set j (mtB (k + cnt (cs.take j)), mkI (k + cnt (cs.take j) + 1 : Nat) cs[j].2.length) = mixC k cs (j + 1) := by
  unfold mixC
  have e : ((mkC k cs).take j).length = j := by simp [mkC_length]; omega
  have hj' : j < (mkC k cs).length := by rw [mkC_length]; exact hj
  rw [List.set_append_right _ _ (by omega), e, Nat.sub_self, List.drop_eq_getElem_cons hj, List.set_cons_zero, List.take_succ_eq_append_getElem hj', mkC_get cs k j hj, List.append_assoc, List.singleton_append]

/-- A number is returned, v's own columns now read as ds, nothing else has turned. -/
def RetMC (w : World) (v : Value) (F : List Nat) (x : Int) (ds : List Col) (e : Ending) (w' : World) : Prop := e = .returned (.int .i64 x) ∧ colsE w' v ds F ∧ Only F w w'

/-- What owned columns read as. -/
theorem colsE_cols {w : World} {v : Value} {cs : List Col} {F : List Nat} (h : colsE w v cs F) {B : Nat} (hB : w.heap.size ≤ B) (hn : ∀ c ∈ cs, c.1.size ≤ 9223372036854775807 ∧ ∀ x ∈ c.2, I64 x) : Cols w B v cs := by
  obtain ⟨a, cap, rfl, hl⟩ := h.form
  refine ⟨_, _, rfl, hl, fun j hj => ?_⟩
  obtain ⟨g, cap', c, Fj, hv, hgF, hgs, hgj, hsub, hE, hcl, hcell, hfro, hput, hsto⟩ := slE.at colE_good h j hj
  simp only [Value.slice.injEq] at hv
  obtain ⟨u, rfl, ho⟩ := hE
  obtain ⟨q1, q2⟩ := hn _ (List.getElem_mem hj)
  have c0 := hcell 0 (by omega)
  have c1 := hcell 1 (by omega)
  simp only [Nat.add_zero, List.getElem?_cons_zero, List.getElem?_cons_succ] at c0 c1
  obtain ⟨_, _, _, hlen⟩ := ho.form
  exact ⟨g, 0, u, hv.1, Nat.lt_of_lt_of_le hgs hB, by rw [Nat.zero_add]; exact c0, by rw [Nat.zero_add]; exact c1, q1, ho.1.ints hB hlen q2⟩

theorem take_set2 (xs : List Value) (k : Nat) (a b : Value) (h : k * 2 + 1 < xs.length) : ((xs.set (k * 2) a).set (k * 2 + 1) b).take ((k + 1) * 2) = xs.take (k * 2) ++ [a, b] := by
  have e : (k + 1) * 2 = k * 2 + 1 + 1 := by omega
  rw [e, List.take_succ_eq_append_getElem (by simp; omega), List.take_succ_eq_append_getElem (by simp; omega)]
  simp [List.getElem_set, List.take_set_of_le]

/-- New columns of the call's own are returned; nothing that was there has turned. -/
def RetOC (w : World) (cs : List Col) (e : Ending) (w' : World) : Prop := ∃ v F, e = .returned v ∧ colsE w' v cs F ∧ (∀ b ∈ F, w.heap.size ≤ b) ∧ Below w.heap.size w w'

/-- A new table of the call's own is returned; nothing that was there has turned. -/
def RetOT (w : World) (cs : List Col) (e : Ending) (w' : World) : Prop := ∃ a cap F, e = .returned (.agg #[.slice a cs.length cap]) ∧ colsE w' (.slice a cs.length cap) cs F ∧ (∀ b ∈ F, w.heap.size ≤ b) ∧ Below w.heap.size w w'

/-- A number is returned, v's own table now reads as ds, nothing else has turned (the box of the argument is new). -/
def RetMT (w : World) (v : Value) (F : List Nat) (x : Int) (ds : List Col) (e : Ending) (w' : World) : Prop := e = .returned (.int .i64 x) ∧ colsE w' v ds F ∧ Only F w w'

end Go.Proofs.YtgeegbbcjdlkbaaGreatDoor
