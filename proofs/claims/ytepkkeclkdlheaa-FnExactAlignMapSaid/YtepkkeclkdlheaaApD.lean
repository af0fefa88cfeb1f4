/- What ApplySwaps does, in numbers (promise 3). Any program. -/
import Derived.Test.YtepkkeclkdlheaaSwp
namespace Go.Proofs.Ytepkkeclkdlheaa
open Go.RowKit Go.ChangeShapes
set_option linter.unusedSimpArgs false
set_option linter.unusedVariables false

/-- The places of a swap lie in a row of n. -/
def swOk (n : Nat) (p : Pv) : Bool := decide (0 ≤ p.1 ∧ p.1 ≤ (n : Int) - 1) && decide (0 ≤ p.2 ∧ p.2 ≤ (n : Int) - 1)
/-- The row with the swaps done, the first one first. -/
def swaps (l : List Int) : List Pv → List Int
  | [] => l
  | p :: ps => swaps (swapAt l p.1.toNat p.2.toNat) ps
/-- Whether the swaps can be done. -/
def canSwap (l r : List Int) (sw : List Pv) : Bool := decide (r.length = l.length) && sw.all (swOk l.length)
/-- The values and the rows behind ApplySwaps. -/
def apL (l r : List Int) (sw : List Pv) : List Int := if canSwap l r sw = true then swaps l sw else l
def apR (l r : List Int) (sw : List Pv) : List Int := if canSwap l r sw = true then swaps r sw else r

theorem swaps_length (l : List Int) (sw : List Pv) : (swaps l sw).length = l.length := by
  induction sw generalizing l with
  | nil => rfl
  | cons p ps ih => rw [swaps, ih, swapAt_length]

theorem swaps_take (l : List Int) (sw : List Pv) (k : Nat) (h : k < sw.length) : swaps l (sw.take (k + 1)) = swapAt (swaps l (sw.take k)) sw[k].1.toNat sw[k].2.toNat := by
  induction sw generalizing l k with
  | nil => simp at h
  | cons p ps ih =>
    cases k with
    | zero => simp [swaps]
    | succ k => simp only [List.take_succ_cons, swaps, List.getElem_cons_succ]; exact ih _ k (by simpa using h)

theorem all_take (f : Pv → Bool) (sw : List Pv) (k : Nat) (h : k < sw.length) : (sw.take (k + 1)).all f = ((sw.take k).all f && f sw[k]) := by
  rw [List.take_succ_eq_append_getElem h, List.all_append]
  simp

theorem swaps_mem {n : Nat} : ∀ (sw : List Pv) (l : List Int), l.length = n → sw.all (swOk n) = true → ∀ x ∈ swaps l sw, x ∈ l
  | [], l, _, _, x, hx => hx
  | p :: ps, l, hn, h, x, hx => by
    simp only [List.all_cons, Bool.and_eq_true] at h
    have h1 := h.1
    unfold swOk at h1
    simp only [Bool.and_eq_true, decide_eq_true_eq] at h1
    have := swaps_mem ps (swapAt l p.1.toNat p.2.toNat) (by rw [swapAt_length]; exact hn) h.2 x hx
    exact swapAt_mem (by omega) (by omega) x this

theorem apL_length (l r : List Int) (sw : List Pv) : (apL l r sw).length = l.length := by unfold apL; split; exact swaps_length _ _; rfl
theorem apR_length (l r : List Int) (sw : List Pv) : (apR l r sw).length = r.length := by unfold apR; split; exact swaps_length _ _; rfl

theorem apL_wf {l r : List Int} {sw : List Pv} (h : ∀ x ∈ l, I64 x) : ∀ x ∈ apL l r sw, I64 x := by
  unfold apL
  split
  · rename_i hc
    unfold canSwap at hc
    simp only [Bool.and_eq_true, decide_eq_true_eq] at hc
    exact fun x hx => h x (swaps_mem sw l rfl hc.2 x hx)
  · exact h

theorem apR_wf {l r : List Int} {sw : List Pv} (h : ∀ x ∈ r, I64 x) : ∀ x ∈ apR l r sw, I64 x := by
  unfold apR
  split
  · rename_i hc
    unfold canSwap at hc
    simp only [Bool.and_eq_true, decide_eq_true_eq] at hc
    exact fun x hx => h x (swaps_mem sw r hc.1 hc.2 x hx)
  · exact h

/-- A column of the call's own and a bool are returned; nothing that was there has turned. -/
def RetOCB (w : World) (l r : List Int) (ps : List Pv) (b : Bool) (e : Ending) (w' : World) : Prop := ∃ x y z lo hi n1 h1 n2 h2 n3 h3, e = .returned (.tuple #[.agg #[x, y, z], .bool b]) ∧ w.heap.size ≤ lo ∧ hi ≤ w'.heap.size ∧ OC w' x y z l r ps lo hi n1 h1 n2 h2 n3 h3 ∧ Below w.heap.size w w'

end Go.Proofs.Ytepkkeclkdlheaa
