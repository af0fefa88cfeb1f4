/- Columns with pieces: when one is valid, in numbers; no program. -/
import Derived.Test.YtepkkeclkdlheaaInts
namespace Go.Proofs.Ytepkkeclkdlheaa
set_option linter.unusedSimpArgs false
set_option linter.unusedVariables false

/-- A pivot: its value and its place. -/
abbrev Pv := Int × Int

/-- Exactly the elements before place A are less than V. -/
def Fits (l : List Int) (V A : Int) : Prop := 0 ≤ A ∧ A ≤ l.length ∧ ∀ i (h : i < l.length), l[i] < V ↔ (i : Int) < A

/-- The value of the pivot before pivot k; one less than the least for the first. -/
def prevV (ps : List Pv) (k : Nat) : Int := if k = 0 then -1001 else (ps.getD (k - 1) (0, 0)).1

def PvOk (l : List Int) (ps : List Pv) (k : Nat) (h : k < ps.length) : Prop := prevV ps k < ps[k].1 ∧ ps[k].1 ≤ 1000 ∧ Fits l ps[k].1 ps[k].2
def PvsOk (l : List Int) (ps : List Pv) : Prop := ∀ k (h : k < ps.length), PvOk l ps k h
def RowOk (r : List Int) (i : Nat) (h : i < r.length) : Prop := 0 ≤ r[i] ∧ r[i] ≤ 999 ∧ ∀ k (hk : k < i), r[k] ≠ r[i]
def RowsOk (r : List Int) : Prop := ∀ i (h : i < r.length), RowOk r i h

open Classical in
noncomputable def pvsOk (l : List Int) (ps : List Pv) : Bool := decide (PvsOk l ps)

open Classical in
noncomputable def rowsOk (r : List Int) : Bool := decide (RowsOk r)

theorem pvsOk_iff {l : List Int} {ps : List Pv} : pvsOk l ps = true ↔ PvsOk l ps := by unfold pvsOk; simp
theorem rowsOk_iff {r : List Int} : rowsOk r = true ↔ RowsOk r := by unfold rowsOk; simp
theorem pvs_bad {l : List Int} {ps : List Pv} {k : Nat} (h : k < ps.length) (hb : ¬ PvOk l ps k h) : pvsOk l ps = false := by
  cases hp : pvsOk l ps with
  | false => rfl
  | true => exact absurd (pvsOk_iff.1 hp k h) hb
theorem rows_bad {r : List Int} {i : Nat} (h : i < r.length) (hb : ¬ RowOk r i h) : rowsOk r = false := by
  cases hp : rowsOk r with
  | false => rfl
  | true => exact absurd (rowsOk_iff.1 hp i h) hb

/-- Is the column valid? -/
noncomputable def isCk (l r : List Int) (ps : List Pv) : Bool := areVals l && (decide (r.length = l.length) && (rowsOk r && pvsOk l ps))

theorem isCk_parts {l r : List Int} {ps : List Pv} (h : isCk l r ps = true) : areVals l = true ∧ r.length = l.length ∧ RowsOk r ∧ PvsOk l ps := by
  unfold isCk at h
  simp only [Bool.and_eq_true, decide_eq_true_eq, rowsOk_iff, pvsOk_iff] at h
  exact ⟨h.1, h.2.1, h.2.2.1, h.2.2.2⟩

theorem areVals_len {l : List Int} (h : areVals l = true) : l.length ≤ 64 := by
  simp [areVals] at h; exact h.1

theorem prevV_succ (ps : List Pv) (k : Nat) (h : k < ps.length) : prevV ps (k + 1) = ps[k].1 := by
  unfold prevV
  rw [if_neg (by omega), Nat.add_sub_cancel, List.getD_eq_getElem?_getD, List.getElem?_eq_getElem h]
  rfl

/-- All pivots before pivot k are as asked. -/
def PvPre (l : List Int) (ps : List Pv) (k : Nat) : Prop := ∀ j (_ : j < k) (h : j < ps.length), PvOk l ps j h

theorem pvPre_zero (l : List Int) (ps : List Pv) : PvPre l ps 0 := fun j hj => by omega
theorem pvPre_step {l : List Int} {ps : List Pv} {k : Nat} (hp : PvPre l ps k) (hk : k < ps.length) (h : PvOk l ps k hk) : PvPre l ps (k + 1) := by
  intro j hj h2
  by_cases e : j = k
  · subst e; exact h
  · exact hp j (by omega) h2
theorem pvPre_all {l : List Int} {ps : List Pv} (hp : PvPre l ps ps.length) : pvsOk l ps = true := pvsOk_iff.2 fun k h => hp k h h

theorem prevV_low {l : List Int} {ps : List Pv} : ∀ {k : Nat}, PvPre l ps k → k ≤ ps.length → -1001 ≤ prevV ps k
  | 0, _, _ => by unfold prevV; simp
  | k + 1, hp, hk => by
    rw [prevV_succ ps k (by omega)]
    have h1 := (hp k (by omega) (by omega)).1
    have h2 := prevV_low (k := k) (fun j hj => hp j (by omega)) (by omega)
    omega

theorem prevV_high {l : List Int} {ps : List Pv} : ∀ {k : Nat}, PvPre l ps k → k ≤ ps.length → prevV ps k ≤ 1000
  | 0, _, _ => by unfold prevV; simp
  | k + 1, hp, hk => by
    rw [prevV_succ ps k (by omega)]
    exact (hp k (by omega) (by omega)).2.1

/-- The places of valid pivots go up. -/
theorem at_mono {l : List Int} {ps : List Pv} {k : Nat} (hk : k + 1 < ps.length) (h1 : PvOk l ps k (by omega)) (h2 : PvOk l ps (k + 1) hk) : (ps[k]'(by omega)).2 ≤ ps[k + 1].2 := by
  obtain ⟨a1, a2, a3, a4, a5⟩ := h1
  obtain ⟨b1, b2, b3, b4, b5⟩ := h2
  rw [prevV_succ ps k (by omega)] at b1
  generalize hx : (ps[k]'(by omega)).2 = x at *
  generalize hy : (ps[k + 1]).2 = y at *
  by_cases h : x ≤ y
  · exact h
  · exfalso
    have hi : y.toNat < l.length := by omega
    have e1 := (a5 y.toNat hi).2 (by omega)
    have e2 := (b5 y.toNat hi).1 (by omega)
    omega

/-- The counts of elements less than V: those before place A, those from there on; among the first k. -/
def cntL (l : List Int) (V A : Int) : Nat → Nat × Nat
  | 0 => (0, 0)
  | k + 1 => if V ≤ l.getD k 0 then cntL l V A k else if (k : Int) < A then ((cntL l V A k).1 + 1, (cntL l V A k).2) else ((cntL l V A k).1, (cntL l V A k).2 + 1)

theorem cntL_succ (l : List Int) (V A : Int) (k : Nat) : cntL l V A (k + 1) = if V ≤ l.getD k 0 then cntL l V A k else if (k : Int) < A then ((cntL l V A k).1 + 1, (cntL l V A k).2) else ((cntL l V A k).1, (cntL l V A k).2 + 1) := rfl

theorem cntL_le (l : List Int) (V A : Int) : ∀ k, (cntL l V A k).1 ≤ k ∧ (cntL l V A k).2 ≤ k
  | 0 => by simp [cntL]
  | k + 1 => by
    have := cntL_le l V A k
    unfold cntL
    split
    · omega
    · split <;> simp only <;> omega

theorem cntL_is (l : List Int) (V A : Int) : ∀ k, k ≤ l.length → ((cntL l V A k).1 ≤ k ∧ ((cntL l V A k).1 : Int) ≤ max A 0) ∧ (((cntL l V A k).1 : Int) = min (k : Int) (max A 0) ↔ ∀ i (h : i < l.length), i < k → (i : Int) < A → l[i] < V) ∧ ((cntL l V A k).2 = 0 ↔ ∀ i (h : i < l.length), i < k → A ≤ (i : Int) → ¬ l[i] < V)
  | 0, _ => by
    refine ⟨by simp [cntL]; omega, ⟨fun _ i h hi => by omega, fun _ => by simp [cntL]; omega⟩, ⟨fun _ i h hi => by omega, fun _ => by simp [cntL]⟩⟩
  | k + 1, hk => by
    obtain ⟨⟨h1, h2⟩, h3, h4⟩ := cntL_is l V A k (by omega)
    have hkl : k < l.length := by omega
    have e : l.getD k 0 = l[k] := by rw [List.getD_eq_getElem?_getD, List.getElem?_eq_getElem hkl]; rfl
    have step : ∀ (p : Nat → Prop), (∀ i, i < k + 1 → p i) ↔ ((∀ i, i < k → p i) ∧ p k) := fun p =>
      ⟨fun h => ⟨fun i hi => h i (by omega), h k (by omega)⟩, fun h i hi => by
        by_cases e : i = k
        · subst e; exact h.2
        · exact h.1 i (by omega)⟩
    have s1 : (∀ i (h : i < l.length), i < k + 1 → (i : Int) < A → l[i] < V) ↔ ((∀ i (h : i < l.length), i < k → (i : Int) < A → l[i] < V) ∧ ((k : Int) < A → l[k] < V)) := by
      constructor
      · exact fun h => ⟨fun i hi hik => h i hi (by omega), h k hkl (by omega)⟩
      · intro h i hi hik
        by_cases e : i = k
        · subst e; exact h.2
        · exact h.1 i hi (by omega)
    have s2 : (∀ i (h : i < l.length), i < k + 1 → A ≤ (i : Int) → ¬ l[i] < V) ↔ ((∀ i (h : i < l.length), i < k → A ≤ (i : Int) → ¬ l[i] < V) ∧ (A ≤ (k : Int) → ¬ l[k] < V)) := by
      constructor
      · exact fun h => ⟨fun i hi hik => h i hi (by omega), h k hkl (by omega)⟩
      · intro h i hi hik
        by_cases e : i = k
        · subst e; exact h.2
        · exact h.1 i hi (by omega)
    rw [s1, s2, ← h3, ← h4, cntL_succ, e]
    clear h3 h4 s1 s2 e step
    generalize hp : cntL l V A k = p at *
    obtain ⟨c0, c1⟩ := p
    generalize l[k] = x at *
    simp only at h1 h2 ⊢
    clear hp
    by_cases hv : V ≤ x
    · rw [if_pos hv]
      have n1 : ¬ x < V := by omega
      refine ⟨by simp only; omega, ?_, ?_⟩
      · by_cases ha : (k : Int) < A
        · simp only [ha, n1, true_implies, and_false, iff_false]; omega
        · simp only [ha, false_implies, and_true]; constructor <;> intro h <;> omega
      · simp only [n1, not_false_eq_true, implies_true, and_true]
    · rw [if_neg hv]
      have n1 : x < V := by omega
      by_cases ha : (k : Int) < A
      · rw [if_pos ha]
        refine ⟨by simp only; omega, ?_, ?_⟩
        · simp only [n1, implies_true, and_true]; constructor <;> intro h <;> omega
        · have n2 : ¬ A ≤ (k : Int) := by omega
          simp only [n2, false_implies, and_true]
      · rw [if_neg ha]
        refine ⟨by simp only; omega, ?_, ?_⟩
        · simp only [n1, implies_true, and_true]; constructor <;> intro h <;> omega
        · have n2 : A ≤ (k : Int) := by omega
          simp [n2, n1]

theorem fits_iff (l : List Int) (V A : Int) : ((cntL l V A l.length).1 : Int) = A ∧ (cntL l V A l.length).2 = 0 ↔ Fits l V A := by
  obtain ⟨⟨h1, h2⟩, h3, h4⟩ := cntL_is l V A l.length (Nat.le_refl _)
  constructor
  · rintro ⟨e1, e2⟩
    have q1 := h3.1 (by omega)
    have q2 := h4.1 e2
    refine ⟨by omega, by omega, fun i h => ⟨fun hl => ?_, fun hi => q1 i h h hi⟩⟩
    by_cases hi : (i : Int) < A
    · exact hi
    · exact absurd hl (q2 i h h (by omega))
  · rintro ⟨f1, f2, f3⟩
    have q1 := h3.2 fun i h _ hi => (f3 i h).2 hi
    have q2 := h4.2 fun i h _ hi hl => by have := (f3 i h).1 hl; omega
    exact ⟨by omega, q2⟩

end Go.Proofs.Ytepkkeclkdlheaa
