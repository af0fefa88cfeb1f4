/- Maps in numbers (promise 8): when a map is valid, what CrackMap and AlignMap make of it. -/
import Derived.Test.YtepkkeclkdlheaaCrP
namespace Go.Proofs.Ytepkkeclkdlheaa
open Go.RowKit Go.ChangeShapes
set_option linter.unusedSimpArgs false
set_option linter.unusedVariables false
set_option maxRecDepth 100000

/-- The map is valid. -/
noncomputable def isMp (l r : List Int) (ps : List Pv) (t : List Int) (a : Int) : Bool := isCk l r ps && areVals t && decide (t.length = l.length) && decide (0 ≤ a ∧ a ≤ 60)

theorem isMp_iff {l r : List Int} {ps : List Pv} {t : List Int} {a : Int} : isMp l r ps t a = true ↔ isCk l r ps = true ∧ areVals t = true ∧ t.length = l.length ∧ 0 ≤ a ∧ a ≤ 60 := by
  unfold isMp
  simp only [Bool.and_eq_true, decide_eq_true_eq, and_assoc]

/-- What NewMap makes of a head and a tail. -/
def nmOk (h t : List Int) : Bool := areVals h && areVals t && decide (h.length = t.length)
def nmL (h t : List Int) : List Int := if nmOk h t = true then h else []
def nmR (h t : List Int) : List Int := if nmOk h t = true then rowsN h.length else []
def nmT (h t : List Int) : List Int := if nmOk h t = true then t else []

/-- What CrackMap makes of a map. -/
noncomputable def mcL (l r : List Int) (ps : List Pv) (t : List Int) (a v : Int) : List Int := if isMp l r ps t a = true then crL l r ps v else l
noncomputable def mcR (l r : List Int) (ps : List Pv) (t : List Int) (a v : Int) : List Int := if isMp l r ps t a = true then crR l r ps v else r
noncomputable def mcP (l r : List Int) (ps : List Pv) (t : List Int) (a v : Int) : List Pv := if isMp l r ps t a = true then crP l r ps v else ps
noncomputable def mcT (l r : List Int) (ps : List Pv) (t : List Int) (a v : Int) : List Int := if isMp l r ps t a = true then swaps t (crS l r ps v) else t
noncomputable def mcB (l r : List Int) (ps : List Pv) (t : List Int) (a v : Int) : Bool := isMp l r ps t a && decide (-1000 ≤ v ∧ v ≤ 1000)

theorem crS_in {l r : List Int} {ps : List Pv} {v : Int} (hl : l.length ≤ 1048576) : ∀ q ∈ crS l r ps v, 0 ≤ q.1 ∧ q.1 < q.2 ∧ q.2 < (l.length : Int) := by
  unfold crS
  split
  · exact (partP_nums l (pieceP l r ps v).1 (pieceP l r ps v).2 v hl).1
  · intro q hq; simp at hq

theorem crS_ok {l r : List Int} {ps : List Pv} {v : Int} {n : Nat} (hl : l.length ≤ 1048576) (hn : n = l.length) : (crS l r ps v).all (swOk n) = true := by
  rw [List.all_eq_true]
  intro q hq
  have := crS_in hl q hq
  unfold swOk
  simp only [Bool.and_eq_true, decide_eq_true_eq]
  omega

/-- Outside of the bounds nothing is divided. -/
theorem crack_out {l r : List Int} {ps : List Pv} {v : Int} (h : ¬ (-1000 ≤ v ∧ v ≤ 1000)) : crL l r ps v = l ∧ crR l r ps v = r ∧ crP l r ps v = ps ∧ crS l r ps v = [] :=
  crack_none (by unfold crDiv crOk; rw [decide_eq_false h]; simp)

theorem mc_isMp {l r : List Int} {ps : List Pv} {t : List Int} {a b v : Int} (h : isMp l r ps t a = true) (hb : 0 ≤ b ∧ b ≤ 60) : isMp (mcL l r ps t a v) (mcR l r ps t a v) (mcP l r ps t a v) (mcT l r ps t a v) b = true := by
  have h' := isMp_iff.1 h
  obtain ⟨h1, h2, h3, h4⟩ := h'
  have hl : l.length ≤ 1048576 := by have := areVals_len (isCk_parts h1).1; omega
  have hs := crS_ok (l := l) (r := r) (ps := ps) (v := v) hl h3
  unfold mcL mcR mcP mcT
  rw [if_pos h, if_pos h, if_pos h, if_pos h]
  have hc := crack_isCk (v := v) h1
  refine isMp_iff.2 ⟨hc, ?_, ?_, hb⟩
  · rw [areVals_perm (swaps_perm _ _ hs)]; exact h2
  · rw [swaps_length, h3]
    unfold crL
    split
    · exact (apL_length _ _ _).symm
    · rfl

/-- The size of a valid map. -/
theorem isMp_len {l r : List Int} {ps : List Pv} {t : List Int} {a : Int} (h : isMp l r ps t a = true) : l.length ≤ 64 ∧ r.length ≤ 64 ∧ ps.length ≤ 2001 ∧ t.length ≤ 64 := by
  obtain ⟨h1, h2, h3, h4⟩ := isMp_iff.1 h
  have hp := isCk_parts h1
  have := areVals_len hp.1
  have := pvs_len hp.2.2.2
  have := hp.2.1
  exact ⟨by omega, by omega, by omega, by omega⟩

theorem swaps_wf {t : List Int} {sw : List Pv} (h : sw.all (swOk t.length) = true) (ht : ∀ x ∈ t, I64 x) : ∀ x ∈ swaps t sw, I64 x := fun x hx => ht x (swaps_mem sw t rfl h x hx)

/-- What CrackMap leaves is small and fits. -/
theorem mc_wf {l r : List Int} {ps : List Pv} {t : List Int} {a v : Int} (hl : l.length ≤ 1048576) (hr : r.length ≤ 1048576) (hp : ps.length ≤ 1048576) (wl : ∀ x ∈ l, I64 x) (wr : ∀ x ∈ r, I64 x) (wp : ∀ p ∈ ps, I64 p.1 ∧ I64 p.2) (wt : ∀ x ∈ t, I64 x) (ht : t.length ≤ 1048576) (hv : I64 v) :
    ((mcL l r ps t a v).length ≤ 1048576 ∧ (mcR l r ps t a v).length ≤ 1048576 ∧ (mcP l r ps t a v).length ≤ 1048577 ∧ (mcT l r ps t a v).length ≤ 1048576) ∧ (∀ x ∈ mcL l r ps t a v, I64 x) ∧ (∀ x ∈ mcR l r ps t a v, I64 x) ∧ (∀ p ∈ mcP l r ps t a v, I64 p.1 ∧ I64 p.2) ∧ ∀ x ∈ mcT l r ps t a v, I64 x := by
  unfold mcL mcR mcP mcT
  by_cases h : isMp l r ps t a = true
  · rw [if_pos h, if_pos h, if_pos h, if_pos h]
    obtain ⟨q1, q2, q3, q4, q5, q6, q7, q8⟩ := crack_wf l r ps v hl hr hp wl wr wp hv
    have hs := crS_ok (l := l) (r := r) (ps := ps) (v := v) hl (isMp_iff.1 h).2.2.1
    exact ⟨⟨q1, q2, q3, by rw [swaps_length]; exact ht⟩, q4, q5, q6, swaps_wf hs wt⟩
  · rw [if_neg h, if_neg h, if_neg h, if_neg h]
    exact ⟨⟨hl, hr, by omega, ht⟩, wl, wr, wp, wt⟩

/-- A map in numbers. -/
structure Mv where
  l : List Int
  r : List Int
  p : List Pv
  t : List Int
  a : Int

/-- One step of a history. -/
noncomputable def Mv.step (m : Mv) (v : Int) : Mv := ⟨mcL m.l m.r m.p m.t m.a v, mcR m.l m.r m.p m.t m.a v, mcP m.l m.r m.p m.t m.a v, mcT m.l m.r m.p m.t m.a v, m.a + 1⟩
noncomputable def Mv.steps (m : Mv) : List Int → Mv
  | [] => m
  | v :: h => (m.step v).steps h

theorem Mv.steps_app (m : Mv) (g : List Int) (v : Int) : m.steps (g ++ [v]) = (m.steps g).step v := by
  induction g generalizing m with
  | nil => rfl
  | cons x g ih => exact ih _

/-- The history is valid. -/
def isHist (h : List Int) : Bool := h.all (fun v => decide (-1000 ≤ v ∧ v ≤ 1000)) && decide (h.length ≤ 60)
noncomputable def alB (m : Mv) (h : List Int) : Bool := isMp m.l m.r m.p m.t m.a && isHist h && decide (m.a ≤ h.length)
noncomputable def alM (m : Mv) (h : List Int) : Mv := if alB m h = true then m.steps (h.drop m.a.toNat) else m
noncomputable def alN (m : Mv) (h : List Int) : Int := if alB m h = true then h.length - m.a else 0

/-- A valid map stays valid behind the first n steps. -/
theorem steps_isMp (m : Mv) (h : List Int) (hm : isMp m.l m.r m.p m.t m.a = true) : ∀ g : List Int, m.a + g.length ≤ 60 → isMp (m.steps g).l (m.steps g).r (m.steps g).p (m.steps g).t (m.steps g).a = true ∧ (m.steps g).a = m.a + g.length := by
  intro g
  induction g generalizing m with
  | nil => intro _; exact ⟨hm, by simp [Mv.steps]⟩
  | cons v g ih =>
    intro hg
    have h4 := (isMp_iff.1 hm).2.2.2
    have hg' : m.a + 1 + g.length ≤ 60 := by simp at hg; omega
    have := ih (m.step v) (mc_isMp hm ⟨by show 0 ≤ m.a + 1; omega, by show m.a + 1 ≤ 60; omega⟩) hg'
    refine ⟨this.1, ?_⟩
    show ((m.step v).steps g).a = _
    rw [this.2]
    simp [Mv.step]
    omega

theorem steps_wf (m : Mv) (hm : isMp m.l m.r m.p m.t m.a = true) (wl : ∀ x ∈ m.l, I64 x) (wr : ∀ x ∈ m.r, I64 x) (wp : ∀ p ∈ m.p, I64 p.1 ∧ I64 p.2) (wt : ∀ x ∈ m.t, I64 x) : ∀ g : List Int, (∀ v ∈ g, I64 v) → m.a + g.length ≤ 60 → (∀ x ∈ (m.steps g).l, I64 x) ∧ (∀ x ∈ (m.steps g).r, I64 x) ∧ (∀ p ∈ (m.steps g).p, I64 p.1 ∧ I64 p.2) ∧ ∀ x ∈ (m.steps g).t, I64 x := by
  intro g
  induction g generalizing m with
  | nil => intro _ _; exact ⟨wl, wr, wp, wt⟩
  | cons v g ih =>
    intro hv hg
    have h4 := (isMp_iff.1 hm).2.2.2
    have hn := isMp_len hm
    have hg' : m.a + 1 + g.length ≤ 60 := by simp at hg; omega
    have hw := (mc_wf (a := m.a) (v := v) (by omega : m.l.length ≤ 1048576) (by omega : m.r.length ≤ 1048576) (by omega : m.p.length ≤ 1048576) wl wr wp wt (by omega : m.t.length ≤ 1048576) (hv v (List.mem_cons_self ..))).2
    exact ih (m.step v) (mc_isMp hm ⟨by show 0 ≤ m.a + 1; omega, by show m.a + 1 ≤ 60; omega⟩) hw.1 hw.2.1 hw.2.2.1 hw.2.2.2 (fun x hx => hv x (List.mem_cons_of_mem _ hx)) hg'

end Go.Proofs.Ytepkkeclkdlheaa
