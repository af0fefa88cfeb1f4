/- What dividing does to a column: it stays valid and the same pairs, the value is a pivot then, and once more does nothing; dividing at both ends of a range (promises 3 and 4). -/
import Derived.Test.YtepkkeclkdlheaaCrM
import Derived.Test.YtepkkeclkdlheaaCkV
import Derived.Test.YtepkkeclkdlheaaSrtS
import Derived.Test.YtepkkeclkdlheaaRng2
namespace Go.Proofs.Ytepkkeclkdlheaa
open Go.RowKit Go.ChangeShapes
set_option linter.unusedSimpArgs false
set_option linter.unusedVariables false
set_option maxRecDepth 100000

theorem crack_eqs {l r : List Int} {ps : List Pv} {v : Int} (h : crDiv l r ps v = true) :
    ∃ a b t : Nat, Divided l r ps v (crL l r ps v) (crR l r ps v) a b t ∧ crP l r ps v = adIn ps (v, (t : Int)) ∧ crS l r ps v = (crPt l r ps v).1 := by
  obtain ⟨a, b, t, d⟩ := crack_divided h
  have e1 : crL l r ps v = swaps l (crPt l r ps v).1 := by unfold crL apL; rw [if_pos h, if_pos d.can]
  have e2 : crR l r ps v = swaps r (crPt l r ps v).1 := by unfold crR apR; rw [if_pos h, if_pos d.can]
  refine ⟨a, b, t, by rw [e1, e2]; exact d, ?_, by unfold crS; rw [if_pos h]⟩
  unfold crP adP
  rw [if_pos h]
  have e3 : apL l r (crPt l r ps v).1 = swaps l (crPt l r ps v).1 := by unfold apL; rw [if_pos d.can]
  have e4 : apR l r (crPt l r ps v).1 = swaps r (crPt l r ps v).1 := by unfold apR; rw [if_pos d.can]
  rw [e3, e4, d.pl, if_pos (show adOk _ _ ps (v, (t : Int)) = true from d.ok)]

theorem crack_none {l r : List Int} {ps : List Pv} {v : Int} (h : ¬ crDiv l r ps v = true) : crL l r ps v = l ∧ crR l r ps v = r ∧ crP l r ps v = ps ∧ crS l r ps v = [] := by
  unfold crL crR crP crS
  rw [if_neg h, if_neg h, if_neg h, if_neg h]
  exact ⟨rfl, rfl, rfl, rfl⟩

theorem crack_isCk {l r : List Int} {ps : List Pv} {v : Int} (h : isCk l r ps = true) : isCk (crL l r ps v) (crR l r ps v) (crP l r ps v) = true := by
  by_cases hd : crDiv l r ps v = true
  · obtain ⟨a, b, t, d, e, -⟩ := crack_eqs hd
    rw [e]; exact d.ok
  · obtain ⟨e1, e2, e3, -⟩ := crack_none hd
    rw [e1, e2, e3]; exact h

theorem crack_found {l r : List Int} {ps : List Pv} {v : Int} (h : crOk l r ps v = true) : (fndP (crP l r ps v) v).2 = true := by
  by_cases hd : crDiv l r ps v = true
  · obtain ⟨a, b, t, d, e, -⟩ := crack_eqs hd
    rw [e]
    have hn : (fndP ps v).2 = false := by
      unfold crDiv at hd
      simp only [Bool.and_eq_true, Bool.not_eq_true'] at hd
      exact hd.2
    have := fnd_ins' (p := (v, (t : Int))) hn
    simp only at this
    rw [this]
  · rw [(crack_none hd).2.2.1]
    unfold crDiv at hd
    rw [h] at hd
    simpa using hd

theorem crack_keeps {l r : List Int} {ps : List Pv} {v f : Int} (h : (fndP ps f).2 = true) : fndP (crP l r ps v) f = fndP ps f := by
  by_cases hd : crDiv l r ps v = true
  · obtain ⟨a, b, t, d, e, -⟩ := crack_eqs hd
    rw [e]
    refine fnd_ins (p := (v, (t : Int))) ?_
    intro hv
    simp only at hv
    subst hv
    unfold crDiv at hd
    rw [h] at hd
    simp at hd
  · rw [(crack_none hd).2.2.1]

theorem crack_zip (l r : List Int) (ps : List Pv) (v : Int) : ((crL l r ps v).zip (crR l r ps v)).Perm (l.zip r) := by
  unfold crL crR
  by_cases hd : crDiv l r ps v = true
  · rw [if_pos hd, if_pos hd]; exact zip_ap _ _ _
  · rw [if_neg hd, if_neg hd]

theorem crack_again {l r : List Int} {ps : List Pv} {v : Int} (h : crOk l r ps v = true) : ¬ crDiv (crL l r ps v) (crR l r ps v) (crP l r ps v) v = true := by
  unfold crDiv
  rw [crack_found h]
  simp

/-- There are at most as many pivots as there are bounds. -/
theorem pvs_len {l : List Int} {ps : List Pv} (h : PvsOk l ps) : ps.length ≤ 2001 := by
  have low : ∀ k (hk : k < ps.length), -1000 + (k : Int) ≤ ps[k].1 := by
    intro k
    induction k with
    | zero =>
      intro hk
      have := (h 0 hk).1
      simp only [prevV, if_true] at this
      omega
    | succ k ih =>
      intro hk
      have h1 := (h (k + 1) hk).1
      rw [prevV_succ ps k (by omega)] at h1
      have := ih (by omega)
      omega
  by_cases hc : ps.length ≤ 2001
  · exact hc
  · have h1 := low 2001 (by omega)
    have h2 := (h 2001 (by omega)).2.1
    omega

/-- Both ends of a range: whether the column is divided there. -/
noncomputable def seOk (l r : List Int) (ps : List Pv) (f t : Int) : Bool := isCk l r ps && isR f t
noncomputable def seL (l r : List Int) (ps : List Pv) (f t : Int) : List Int := if seOk l r ps f t = true then crL (crL l r ps f) (crR l r ps f) (crP l r ps f) t else l
noncomputable def seR (l r : List Int) (ps : List Pv) (f t : Int) : List Int := if seOk l r ps f t = true then crR (crL l r ps f) (crR l r ps f) (crP l r ps f) t else r
noncomputable def seP (l r : List Int) (ps : List Pv) (f t : Int) : List Pv := if seOk l r ps f t = true then crP (crL l r ps f) (crR l r ps f) (crP l r ps f) t else ps
noncomputable def seF (l r : List Int) (ps : List Pv) (f t : Int) : Int := if seOk l r ps f t = true then (fndP (seP l r ps f t) f).1 else 0
noncomputable def seT (l r : List Int) (ps : List Pv) (f t : Int) : Int := if seOk l r ps f t = true then (fndP (seP l r ps f t) t).1 else 0
noncomputable def seN (l r : List Int) (ps : List Pv) (f t : Int) : Nat := if seOk l r ps f t = true then (crS l r ps f).length + (crS (crL l r ps f) (crR l r ps f) (crP l r ps f) t).length else 0

theorem crOk_of {l r : List Int} {ps : List Pv} {v : Int} (h : isCk l r ps = true) (h1 : -1000 ≤ v) (h2 : v ≤ 1000) : crOk l r ps v = true := by
  unfold crOk
  rw [h, decide_eq_true ⟨h1, h2⟩]; rfl

/-- The second division leaves the pivot of the first one at its place. -/
theorem se_first {l r : List Int} {ps : List Pv} {f t : Int} (h : seOk l r ps f t = true) : (fndP (crP l r ps f) f).1 = seF l r ps f t := by
  unfold seF seP
  rw [if_pos h, if_pos h]
  unfold seOk at h
  simp only [Bool.and_eq_true] at h
  have hr := isR_true h.2
  rw [crack_keeps (crack_found (crOk_of h.1 hr.1 hr.2.1))]

theorem se_isCk {l r : List Int} {ps : List Pv} {f t : Int} (h : isCk l r ps = true) : isCk (seL l r ps f t) (seR l r ps f t) (seP l r ps f t) = true := by
  unfold seL seR seP
  by_cases hs : seOk l r ps f t = true
  · rw [if_pos hs, if_pos hs, if_pos hs]; exact crack_isCk (crack_isCk h)
  · rw [if_neg hs, if_neg hs, if_neg hs]; exact h

theorem se_zip (l r : List Int) (ps : List Pv) (f t : Int) : ((seL l r ps f t).zip (seR l r ps f t)).Perm (l.zip r) := by
  unfold seL seR
  by_cases hs : seOk l r ps f t = true
  · rw [if_pos hs, if_pos hs]; exact (crack_zip _ _ _ _).trans (crack_zip _ _ _ _)
  · rw [if_neg hs, if_neg hs]

/-- What a column of the call's own needs. -/
def Wf (l r : List Int) (ps : List Pv) (n : Nat) : Prop := l.length ≤ 1048576 ∧ r.length ≤ 1048576 ∧ ps.length ≤ n ∧ (∀ x ∈ l, I64 x) ∧ (∀ x ∈ r, I64 x) ∧ ∀ p ∈ ps, I64 p.1 ∧ I64 p.2

theorem crack_Wf {l r : List Int} {ps : List Pv} {v : Int} {n : Nat} (h : Wf l r ps n) (hn : n ≤ 1048576) (hv : I64 v) : Wf (crL l r ps v) (crR l r ps v) (crP l r ps v) (n + 1) ∧ (crS l r ps v).length ≤ 1048576 ∧ ∀ p ∈ crS l r ps v, I64 p.1 ∧ I64 p.2 := by
  obtain ⟨h1, h2, h3, h4, h5, h6⟩ := h
  obtain ⟨q1, q2, q3, q4, q5, q6, q7, q8⟩ := crack_wf l r ps v h1 h2 (by omega) h4 h5 h6 hv
  refine ⟨⟨q1, q2, ?_, q4, q5, q6⟩, q7, q8⟩
  by_cases hd : crDiv l r ps v = true
  · obtain ⟨a, b, t, d, e, -⟩ := crack_eqs hd
    rw [e, adIn_length]; omega
  · rw [(crack_none hd).2.2.1]; omega

theorem wf_ck {l r : List Int} {ps : List Pv} {n : Nat} (h : Wf l r ps n) (hc : isCk l r ps = true) : Wf l r ps 2001 :=
  ⟨h.1, h.2.1, pvs_len (isCk_parts hc).2.2.2, h.2.2.2⟩

theorem se_Wf {l r : List Int} {ps : List Pv} {f t : Int} (h : Wf l r ps 1048576) (hf : I64 f) (ht : I64 t) : Wf (seL l r ps f t) (seR l r ps f t) (seP l r ps f t) 1048576 ∧ seN l r ps f t ≤ 2097152 := by
  unfold seL seR seP seN
  by_cases hs : seOk l r ps f t = true
  · rw [if_pos hs, if_pos hs, if_pos hs, if_pos hs]
    have hck : isCk l r ps = true := by unfold seOk at hs; simp only [Bool.and_eq_true] at hs; exact hs.1
    obtain ⟨w1, s1, -⟩ := crack_Wf (wf_ck h hck) (by omega) hf
    obtain ⟨w2, s2, -⟩ := crack_Wf w1 (by omega) ht
    exact ⟨⟨w2.1, w2.2.1, by have := w2.2.2.1; omega, w2.2.2.2⟩, by omega⟩
  · rw [if_neg hs, if_neg hs, if_neg hs, if_neg hs]
    exact ⟨h, by omega⟩

theorem fnd_wf {ps : List Pv} {v : Int} (h : ∀ p ∈ ps, I64 p.1 ∧ I64 p.2) : I64 (fndP ps v).1 := by
  induction ps with
  | nil => exact ⟨by simp [fndP], by simp [fndP]⟩
  | cons p ps ih =>
    rw [fndP]
    split
    · exact (h p (by simp)).2
    · exact ih fun q hq => h q (by simp [hq])

/-- A column of the call's own and three numbers are returned; nothing that was there has turned. -/
def RetSel (w : World) (l r : List Int) (ps : List Pv) (f t n : Int) (e : Ending) (w' : World) : Prop := ∃ x y z lo hi n1 h1 n2 h2 n3 h3, e = .returned (.tuple #[.agg #[x, y, z], .int .i64 f, .int .i64 t, .int .i64 n]) ∧ w.heap.size ≤ lo ∧ hi ≤ w'.heap.size ∧ OC w' x y z l r ps lo hi n1 h1 n2 h2 n3 h3 ∧ Below w.heap.size w w'

end Go.Proofs.Ytepkkeclkdlheaa
