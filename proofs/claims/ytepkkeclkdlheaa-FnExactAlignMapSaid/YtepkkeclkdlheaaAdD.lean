/- What AddPivot does, in numbers (promise 3): the place of a new pivot, and validity without it. Any program. -/
import Derived.Test.YtepkkeclkdlheaaCkM
namespace Go.Proofs.Ytepkkeclkdlheaa
set_option linter.unusedSimpArgs false
set_option linter.unusedVariables false

/-- How many pivots stand before the first one whose value is greater. -/
def behind (ps : List Pv) (v : Int) : Nat := (ps.takeWhile fun q => decide (q.1 ≤ v)).length

theorem behind_le (ps : List Pv) (v : Int) : behind ps v ≤ ps.length := by
  unfold behind
  induction ps with
  | nil => simp
  | cons q ps ih =>
    rw [List.takeWhile_cons]
    split
    · simpa using ih
    · simp

theorem behind_before : ∀ (ps : List Pv) (v : Int) (k : Nat) (hk : k < ps.length), k < behind ps v → ps[k].1 ≤ v
  | q :: ps, v, k, hk, h => by
    unfold behind at h
    rw [List.takeWhile_cons] at h
    by_cases hq : q.1 ≤ v
    · rw [if_pos (by simpa using hq)] at h
      cases k with
      | zero => exact hq
      | succ k => exact behind_before ps v k (by simpa using hk) (by unfold behind; simpa using h)
    · rw [if_neg (by simpa using hq)] at h
      simp at h

theorem behind_at : ∀ (ps : List Pv) (v : Int) (h : behind ps v < ps.length), v < (ps[behind ps v]'h).1
  | [], v, h => by simp at h
  | q :: ps, v, h => by
    by_cases hq : q.1 ≤ v
    · have e : behind (q :: ps) v = behind ps v + 1 := by unfold behind; rw [List.takeWhile_cons, if_pos (by simpa using hq)]; simp
      simp only [e] at h ⊢
      rw [List.getElem_cons_succ]
      exact behind_at ps v (by simpa using h)
    · have e : behind (q :: ps) v = 0 := by unfold behind; rw [List.takeWhile_cons, if_neg (by simpa using hq)]; simp
      simp only [e]
      rw [List.getElem_cons_zero]
      omega

/-- The pivots as pairs in ascending order of value, each within bounds and with its own fit: PvsOk said element by element. -/
def Asc (ps : List Pv) : Prop := ps.Pairwise fun a b => a.1 < b.1

theorem pvsOk_asc {l : List Int} {ps : List Pv} : PvsOk l ps ↔ Asc ps ∧ ∀ q ∈ ps, -1001 < q.1 ∧ q.1 ≤ 1000 ∧ Fits l q.1 q.2 := by
  constructor
  · intro h
    have low : ∀ k (hk : k < ps.length), -1001 < ps[k].1 := by
      intro k
      induction k with
      | zero =>
        intro hk
        have := (h 0 hk).1
        simpa [prevV] using this
      | succ k ih =>
        intro hk
        have h1 := (h (k + 1) hk).1
        rw [prevV_succ ps k (by omega)] at h1
        have := ih (by omega)
        omega
    have step : ∀ i j (hij : i < j) (hj : j < ps.length), (ps[i]'(by omega)).1 < ps[j].1 := by
      intro i j hij
      induction j with
      | zero => omega
      | succ j ih =>
        intro hj
        have h1 := (h (j + 1) hj).1
        rw [prevV_succ ps j (by omega)] at h1
        by_cases e : i = j
        · subst e; exact h1
        · have := ih (by omega) (by omega)
          omega
    refine ⟨List.pairwise_iff_getElem.2 fun i j hi hj hij => step i j hij hj, fun q hq => ?_⟩
    obtain ⟨k, hk, rfl⟩ := List.getElem_of_mem hq
    exact ⟨low k hk, (h k hk).2.1, (h k hk).2.2⟩
  · rintro ⟨ha, hq⟩ k hk
    obtain ⟨q1, q2, q3⟩ := hq _ (List.getElem_mem hk)
    refine ⟨?_, q2, q3⟩
    cases k with
    | zero => simpa [prevV] using q1
    | succ k =>
      rw [prevV_succ ps k (by omega)]
      exact List.pairwise_iff_getElem.1 ha k (k + 1) (by omega) hk (by omega)

theorem isCk_sub {l r : List Int} {ps qs : List Pv} (hs : ps.Sublist qs) (h : isCk l r qs = true) : isCk l r ps = true := by
  obtain ⟨h1, h2, h3, h4⟩ := isCk_parts h
  obtain ⟨a1, a2⟩ := pvsOk_asc.1 h4
  have h5 : PvsOk l ps := pvsOk_asc.2 ⟨a1.sublist hs, fun q hq => a2 q (hs.subset hq)⟩
  unfold isCk
  rw [h1, decide_eq_true h2, rowsOk_iff.2 h3, pvsOk_iff.2 h5]
  rfl

end Go.Proofs.Ytepkkeclkdlheaa
