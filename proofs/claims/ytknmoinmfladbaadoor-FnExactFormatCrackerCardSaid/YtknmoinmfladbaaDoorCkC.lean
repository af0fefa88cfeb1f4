/- What CountPieces and LargestPiece of the reference return (promise 3). -/
import Derived.Test.YtknmoinmfladbaaDoorCkT
namespace Go.Proofs.YtknmoinmfladbaaDoor
open Go.RowKit Go.ChangeShapes
set_option linter.unusedSimpArgs false
set_option linter.unusedVariables false
set_option maxRecDepth 100000

/-- The places at which pieces end. -/
def endsP (l : List Int) (ps : List Pv) : List Int := ps.map (·.2) ++ [(l.length : Int)]

/-- The lengths of the pieces that end at es, the first beginning at f. -/
def difs : List Int → Int → List Int
  | [], _ => []
  | e :: es, f => (e - f) :: difs es e

/-- How many are above zero. -/
def cntD : List Int → Nat
  | [] => 0
  | d :: ds => (if 0 < d then 1 else 0) + cntD ds

/-- The greatest of them and m. -/
def maxD : List Int → Int → Int
  | [], m => m
  | d :: ds, m => maxD ds (max m d)

/-- How many pieces are not empty; none if the column is not valid. -/
noncomputable def cntPc (l r : List Int) (ps : List Pv) : Int := if isCk l r ps = true then (cntD (difs (endsP l ps) 0) : Int) else 0

/-- The length of the largest piece; none if the column is not valid. -/
noncomputable def maxPc (l r : List Int) (ps : List Pv) : Int := if isCk l r ps = true then maxD (difs (endsP l ps) 0) 0 else 0

theorem endsP_length (l : List Int) (ps : List Pv) : (endsP l ps).length = ps.length + 1 := by simp [endsP]

theorem difs_at (es : List Int) (f : Int) (k : Nat) (h : k < es.length) : difs (es.drop k) f = (es[k] - f) :: difs (es.drop (k + 1)) es[k] := by
  rw [List.drop_eq_getElem_cons h]; rfl

theorem ends_bound {l r : List Int} {ps : List Pv} : isCk l r ps = true → ∀ x ∈ endsP l ps, 0 ≤ x ∧ x ≤ 64 := by
  intro h x hx
  obtain ⟨h1, h2, h3, h4⟩ := isCk_parts h
  have h5 := areVals_len h1
  unfold endsP at hx
  rcases List.mem_append.1 hx with hx | hx
  · obtain ⟨p, hp, rfl⟩ := List.mem_map.1 hx
    obtain ⟨j, hj, rfl⟩ := List.getElem_of_mem hp
    have := (h4 j hj).2.2
    exact ⟨this.1, by have := this.2.1; omega⟩
  · obtain rfl : x = l.length := by simpa using hx
    omega

theorem endsP_wf {w : World} {B : Nat} {v : Value} {l r : List Int} {ps : List Pv} (h : Ck w B v l r ps) : ∀ x ∈ endsP l ps, I64 x := by
  obtain ⟨x, y, z, _, ⟨_, _, _, hl, _⟩, _, ⟨_, _, _, _, h4, _⟩, _⟩ := h
  intro e he
  unfold endsP at he
  rcases List.mem_append.1 he with he | he
  · obtain ⟨p, hp, rfl⟩ := List.mem_map.1 he
    exact (h4 p hp).2
  · obtain rfl : e = l.length := by simpa using he
    exact ⟨by omega, by omega⟩

end Go.Proofs.YtknmoinmfladbaaDoor
