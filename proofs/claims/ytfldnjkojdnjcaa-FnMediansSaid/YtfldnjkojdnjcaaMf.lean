/- Several texts in one: PlA, PlM, MdM. -/
import Derived.Test.YtfldnjkojdnjcaaInts
import Derived.Test.YtfldnjkojdnjcaaCb
/- Policies, in numbers: seeds and settings (promise 4). No function of the program. -/
namespace Go.Proofs.Ytfldnjkojdnjcaa

/-- The next seed. -/
def nsF (n : Int) : Int := ((n % 10007) * 1103 + 2345) % 10007
theorem nsF_range (n : Int) : 0 ≤ nsF n ∧ nsF n ≤ 10006 := by unfold nsF; omega

/-- Are the settings valid? -/
def isSet (p t s : Int) : Bool := decide (0 ≤ p ∧ p ≤ 2 ∧ 1 ≤ t ∧ t ≤ 64 ∧ 0 ≤ s ∧ s ≤ 10006)
theorem isSet_true {p t s : Int} (h : isSet p t s = true) : 0 ≤ p ∧ p ≤ 2 ∧ 1 ≤ t ∧ t ≤ 64 ∧ 0 ≤ s ∧ s ≤ 10006 := of_decide_eq_true h

end Go.Proofs.Ytfldnjkojdnjcaa

/- Policies, in numbers (promise 4): seeds, medians, the choice of a value, dividing by a policy: each round's piece is smaller. No function of the program. -/
namespace Go.Proofs.Ytfldnjkojdnjcaa
set_option linter.unusedSimpArgs false
set_option linter.unusedVariables false
set_option maxRecDepth 100000

/-- The median. -/
def medL (l : List Int) : Int := if l.length = 0 ∨ 64 < l.length then 0 else (sortL l).getD ((l.length - 1) / 2) 0
theorem medL_mem {l : List Int} (h : 0 < l.length) (h2 : l.length ≤ 64) : medL l ∈ l := by
  unfold medL
  rw [if_neg (by omega)]
  have h3 := (sortL_perm l).length_eq
  rw [List.getD_eq_getElem?_getD, List.getElem?_eq_getElem (show (l.length - 1) / 2 < (sortL l).length by omega), Option.getD_some]
  exact (sortL_perm l).mem_iff.1 (List.getElem_mem _)

/-- The elements between two places. -/
def cutL (l : List Int) (a b : Int) : List Int := (l.drop a.toNat).take (b.toNat - a.toNat)
theorem cutL_length {l : List Int} {a b : Int} (h : 0 ≤ a ∧ a < b ∧ b ≤ l.length) : ((cutL l a b).length : Int) = b - a := by
  unfold cutL; rw [List.length_take, List.length_drop]; omega

noncomputable def chOk (l r : List Int) (ps : List Pv) (p t s a b : Int) : Bool := isCk l r ps && isSet p t s && decide (0 ≤ a ∧ a < b ∧ b ≤ l.length)
/-- The value that is chosen. -/
noncomputable def chM (l r : List Int) (ps : List Pv) (p t s a b : Int) : Int := if chOk l r ps p t s a b = true then (if p = 2 then l.getD (a + nsF s % (b - a)).toNat 0 else medL (cutL l a b)) else 0
/-- The seed behind it. -/
noncomputable def chS (l r : List Int) (ps : List Pv) (p t s a b : Int) : Int := if chOk l r ps p t s a b = true then (if p = 2 then nsF s else s) else s

theorem chS_range {l r : List Int} {ps : List Pv} {p t s a b : Int} (h : 0 ≤ s ∧ s ≤ 10006) : 0 ≤ chS l r ps p t s a b ∧ chS l r ps p t s a b ≤ 10006 := by
  unfold chS
  split
  · split
    · exact nsF_range s
    · exact h
  · exact h

theorem chM_at {l r : List Int} {ps : List Pv} {p t s a b : Int} (h : chOk l r ps p t s a b = true) : ∃ (i : Nat) (hi : i < l.length), a ≤ i ∧ (i : Int) < b ∧ l[i] = chM l r ps p t s a b := by
  unfold chM
  rw [if_pos h]
  unfold chOk at h
  simp only [Bool.and_eq_true, decide_eq_true_eq] at h
  obtain ⟨⟨h1, h2⟩, h3, h4, h5⟩ := h
  by_cases hp : p = 2
  · rw [if_pos hp]
    have q := Int.emod_nonneg (nsF s) (show b - a ≠ 0 by omega)
    have q2 := Int.emod_lt_of_pos (nsF s) (show 0 < b - a by omega)
    exact ⟨(a + nsF s % (b - a)).toNat, by omega, by omega, by omega, by rw [List.getD_eq_getElem?_getD, List.getElem?_eq_getElem (by omega)]; rfl⟩
  · rw [if_neg hp]
    have hl := cutL_length (l := l) ⟨h3, h4, h5⟩
    have hn := areVals_len (isCk_parts h1).1
    obtain ⟨j, hj, e⟩ := List.getElem_of_mem (medL_mem (l := cutL l a b) (by omega) (by omega))
    refine ⟨a.toNat + j, by omega, by omega, by omega, ?_⟩
    rw [← e]
    simp [cutL]

theorem vals_in {l r : List Int} {ps : List Pv} (h : isCk l r ps = true) (i : Nat) (hi : i < l.length) : -999 ≤ l[i] ∧ l[i] ≤ 999 := by
  have h1 := (isCk_parts h).1
  unfold areVals at h1
  simp only [Bool.and_eq_true, List.all_eq_true, decide_eq_true_eq] at h1
  exact h1.2 _ (List.getElem_mem hi)

theorem lo_mem : ∀ (ps : List Pv) (v a : Int), loP ps v a = a ∨ ∃ q ∈ ps, q.1 ≤ v ∧ loP ps v a = q.2
  | [], v, a => .inl rfl
  | p :: ps, v, a => by
    rw [loP]
    rcases lo_mem ps v (if p.1 ≤ v then p.2 else a) with e | ⟨q, hq, h1, h2⟩
    · by_cases c : p.1 ≤ v
      · rw [if_pos c] at e ⊢
        exact .inr ⟨p, by simp, c, e⟩
      · rw [if_neg c] at e ⊢
        exact .inl e
    · exact .inr ⟨q, by simp [hq], h1, h2⟩

theorem hi_mem : ∀ (ps : List Pv) (v n : Int), hiP ps v n = n ∨ ∃ q ∈ ps, v ≤ q.1 ∧ hiP ps v n = q.2
  | [], v, n => .inl rfl
  | p :: ps, v, n => by
    rw [hiP]
    by_cases c : v ≤ p.1
    · rw [if_pos c]
      exact .inr ⟨p, by simp, c, rfl⟩
    · rw [if_neg c]
      rcases hi_mem ps v n with e | ⟨q, hq, h1, h2⟩
      · exact .inl e
      · exact .inr ⟨q, by simp [hq], h1, h2⟩

/-- The piece of a pivot has no elements. -/
theorem piece_pivot : ∀ {ps : List Pv} {v : Int}, Asc ps → ∀ (a n : Int), ∀ q ∈ ps, q.1 = v → loP ps v a = q.2 ∧ hiP ps v n = q.2
  | [], _, _, _, _, q, hq, _ => by simp at hq
  | p :: ps, v, hs, a, n, q, hq, e => by
    obtain ⟨s1, s2⟩ := hs.cons
    rw [loP, hiP]
    rcases List.mem_cons.1 hq with rfl | hq
    · rw [if_pos (by omega), if_pos (by omega)]
      exact ⟨loP_above v ps _ fun x hx => by have := s1 x hx; omega, rfl⟩
    · have := s1 q hq
      rw [if_pos (show p.1 ≤ v by omega), if_neg (show ¬ v ≤ p.1 by omega)]
      exact piece_pivot s2 _ _ q hq e

theorem fnd_memb : ∀ {ps : List Pv} {v : Int}, (fndP ps v).2 = true → ∃ q ∈ ps, q.1 = v ∧ q.2 = (fndP ps v).1
  | [], v, h => by simp [fndP] at h
  | p :: ps, v, h => by
    rw [fndP] at h ⊢
    by_cases c : p.1 = v
    · rw [if_pos c]; exact ⟨p, by simp, c, rfl⟩
    · rw [if_neg c] at h ⊢
      obtain ⟨q, hq, h1⟩ := fnd_memb h
      exact ⟨q, by simp [hq], h1⟩

theorem pieceP_eq {l r : List Int} {ps : List Pv} {v : Int} (h : isCk l r ps = true) (h1 : -1000 ≤ v) (h2 : v ≤ 1000) : pieceP l r ps v = (loP ps v 0, hiP ps v l.length) := by
  unfold pieceP; rw [if_pos ⟨h, h1, h2⟩]

theorem piece_found {l r : List Int} {ps : List Pv} {v : Int} (h : isCk l r ps = true) (h1 : -1000 ≤ v) (h2 : v ≤ 1000) (hf : (fndP ps v).2 = true) : (pieceP l r ps v).2 = (pieceP l r ps v).1 := by
  obtain ⟨q, hq, e, -⟩ := fnd_memb hf
  have := piece_pivot (pvsOk_asc.1 (isCk_parts h).2.2.2).1 0 l.length q hq e
  rw [pieceP_eq h h1 h2]
  show hiP ps v l.length = loP ps v 0
  rw [this.1, this.2]

theorem piece_in {l r : List Int} {ps : List Pv} {v : Int} (h : isCk l r ps = true) : 0 ≤ (pieceP l r ps v).1 ∧ (pieceP l r ps v).1 ≤ l.length ∧ 0 ≤ (pieceP l r ps v).2 ∧ (pieceP l r ps v).2 ≤ l.length := by
  obtain ⟨c1, c2, c3, c4⟩ := isCk_parts h
  have hf := (pvsOk_asc.1 c4).2
  unfold pieceP
  split
  · have g1 := lo_mem ps v 0
    have g2 := hi_mem ps v l.length
    have k1 : 0 ≤ loP ps v 0 ∧ loP ps v 0 ≤ l.length := by
      rcases g1 with e | ⟨q, hq, -, e⟩
      · rw [e]; omega
      · rw [e]; exact ⟨(hf q hq).2.2.1, (hf q hq).2.2.2.1⟩
    have k2 : 0 ≤ hiP ps v l.length ∧ hiP ps v l.length ≤ l.length := by
      rcases g2 with e | ⟨q, hq, -, e⟩
      · rw [e]; omega
      · rw [e]; exact ⟨(hf q hq).2.2.1, (hf q hq).2.2.2.1⟩
    exact ⟨k1.1, k1.2, k2.1, k2.2⟩
  · simp

theorem crack_sub {l r : List Int} {ps : List Pv} {v : Int} : ∀ q ∈ ps, q ∈ crP l r ps v := by
  intro q hq
  by_cases hd : crDiv l r ps v = true
  · obtain ⟨a, b, t, d, e, -⟩ := crack_eqs hd
    rw [e]
    exact (adIn_sub ps _).subset hq
  · rw [(crack_none hd).2.2.1]; exact hq

theorem crack_perm {l r : List Int} {ps : List Pv} {v : Int} (h : isCk l r ps = true) : (crL l r ps v).Perm l := by
  have h1 := (crack_zip l r ps v).map Prod.fst
  have e1 := (isCk_parts h).2.1
  have e2 := (isCk_parts (crack_isCk (v := v) h)).2.1
  rwa [List.map_fst_zip (by omega), List.map_fst_zip (by omega)] at h1

/-- A piece is smaller once the column is divided at one of its values and behind it. -/
theorem piece_less {l r l' r' : List Int} {ps qs : List Pv} {v m : Int} (h : isCk l r ps = true) (h' : isCk l' r' qs = true) (h1 : -1000 ≤ v) (h2 : v ≤ 1000) (hp : l'.Perm l) (hs : ∀ q ∈ ps, q ∈ qs)
    (hm : ∃ x, (m, x) ∈ qs) (hm1 : ∃ x, (m + 1, x) ∈ qs) (i : Nat) (hi : i < l.length) (hia : (pieceP l r ps v).1 ≤ i) (hib : (i : Int) < (pieceP l r ps v).2) (him : l[i] = m) :
    (pieceP l' r' qs v).2 - (pieceP l' r' qs v).1 < (pieceP l r ps v).2 - (pieceP l r ps v).1 := by
  obtain ⟨c1, c2, c3, c4⟩ := isCk_parts h
  obtain ⟨d1, d2, d3, d4⟩ := isCk_parts h'
  obtain ⟨asc, fit⟩ := pvsOk_asc.1 c4
  obtain ⟨asc', fit'⟩ := pvsOk_asc.1 d4
  rw [pieceP_eq h h1 h2] at hia hib ⊢
  rw [pieceP_eq h' h1 h2]
  simp only at hia hib ⊢
  by_cases hv : ∃ q ∈ qs, q.1 = v
  · obtain ⟨q, hq, e⟩ := hv
    have := piece_pivot asc' 0 l'.length q hq e
    rw [this.1, this.2]
    omega
  · have hne : ∀ q ∈ qs, q.1 ≠ v := fun q hq e => hv ⟨q, hq, e⟩
    obtain ⟨⟨l1, l2, l3⟩, -, l4⟩ := lo_spec qs 0 asc' (fun q hq => (fit' q hq).2.2) hne ⟨Int.le_refl _, by omega, fun i hi h => by omega, fun q hq => (fit' q hq).2.2.1⟩
    obtain ⟨⟨g1, g2, g3⟩, g4⟩ := hi_spec (v := v) qs asc' (fun q hq => (fit' q hq).2.2) hne
    have hlen := hp.length_eq
    have k1 : loP ps v 0 ≤ loP qs v 0 := by
      rcases lo_mem ps v 0 with e | ⟨q, hq, e1, e⟩
      · rw [e]; exact l1
      · rw [e]; exact l4 q (hs q hq) (by have := hne q (hs q hq); omega)
    have k2 : hiP qs v l'.length ≤ hiP ps v l.length := by
      rcases hi_mem ps v l.length with e | ⟨q, hq, e1, e⟩
      · rw [e]; omega
      · rw [e]; exact g4 q (hs q hq) (by have := hne q (hs q hq); omega)
    obtain ⟨j, hj, hjm⟩ := List.getElem_of_mem (hp.mem_iff.2 (him ▸ List.getElem_mem hi))
    obtain ⟨x, hx⟩ := hm
    obtain ⟨y, hy⟩ := hm1
    have fx := (fit' _ hx).2.2
    have fy := (fit' _ hy).2.2
    have nx := hne _ hx
    have ny := hne _ hy
    simp only at fx fy nx ny
    have ja : loP ps v 0 ≤ j := by
      rcases lo_mem ps v 0 with e | ⟨q, hq, e1, e⟩
      · rw [e]; omega
      · rw [e] at hia ⊢
        have a1 := (fit q hq).2.2.2.2 i hi
        have a2 := (fit' q (hs q hq)).2.2.2.2 j hj
        omega
    have jb : (j : Int) < hiP ps v l.length := by
      rcases hi_mem ps v l.length with e | ⟨q, hq, e1, e⟩
      · rw [e]; omega
      · rw [e] at hib ⊢
        have a1 := (fit q hq).2.2.2.2 i hi
        have a2 := (fit' q (hs q hq)).2.2.2.2 j hj
        omega
    by_cases hc : m < v
    · have b1 := l4 _ hy (by show m + 1 < v; omega)
      have b2 := fy.2.2 j hj
      simp only at b1 b2
      omega
    · have b1 := g4 _ hx (by show v < m; omega)
      have b2 := fx.2.2 j hj
      simp only at b1 b2
      omega

/-- A column while it is divided by a policy: values, rows, pivots, seed, swaps so far. -/
structure PS where
  l : List Int
  r : List Int
  ps : List Pv
  s : Int
  n : Nat

noncomputable def PS.piece (S : PS) (v : Int) : Int × Int := pieceP S.l S.r S.ps v
noncomputable def PS.m (S : PS) (p t v : Int) : Int := chM S.l S.r S.ps p t S.s (S.piece v).1 (S.piece v).2
/-- Dividing at x. -/
noncomputable def PS.crack (S : PS) (x : Int) : PS := ⟨crL S.l S.r S.ps x, crR S.l S.r S.ps x, crP S.l S.r S.ps x, S.s, S.n + (crS S.l S.r S.ps x).length⟩
/-- The seed that the choice leaves. -/
noncomputable def PS.chosen (S : PS) (p t v : Int) : PS := ⟨S.l, S.r, S.ps, chS S.l S.r S.ps p t S.s (S.piece v).1 (S.piece v).2, S.n⟩
/-- A round: a choice, and two divisions. -/
noncomputable def PS.step (S : PS) (p t v : Int) : PS := ((S.chosen p t v).crack (S.m p t v)).crack (S.m p t v + 1)
/-- Is there another round? -/
noncomputable def PS.more (S : PS) (p t v : Int) : Bool := decide (p ≠ 0) && decide (t < (S.piece v).2 - (S.piece v).1)
noncomputable def PS.run (p t v : Int) : Nat → PS → PS
  | 0, S => S
  | k + 1, S => if S.more p t v = true then PS.run p t v k (S.step p t v) else S

/-- What holds at each round. -/
def PS.Ok (S : PS) (n : Nat) : Prop := isCk S.l S.r S.ps = true ∧ Wf S.l S.r S.ps 2001 ∧ 0 ≤ S.s ∧ S.s ≤ 10006 ∧ S.n ≤ n

theorem PS.crack_ok {S : PS} {n : Nat} {x : Int} (h : S.Ok n) (hx : -1000 ≤ x ∧ x ≤ 1000) : (S.crack x).Ok (n + 1048576) := by
  obtain ⟨h1, h2, h3, h4, h5⟩ := h
  obtain ⟨w1, s1, -⟩ := crack_Wf (v := x) h2 (by omega) ⟨by omega, by omega⟩
  exact ⟨crack_isCk h1, wf_ck w1 (crack_isCk h1), h3, h4, by show S.n + (crS S.l S.r S.ps x).length ≤ _; omega⟩

theorem PS.chosen_ok {S : PS} {n : Nat} {p t v : Int} (h : S.Ok n) : (S.chosen p t v).Ok n :=
  ⟨h.1, h.2.1, (chS_range ⟨h.2.2.1, h.2.2.2.1⟩).1, (chS_range ⟨h.2.2.1, h.2.2.2.1⟩).2, h.2.2.2.2⟩

theorem PS.more_at {S : PS} {n : Nat} {p t v : Int} (h : S.Ok n) (hp : 0 ≤ p ∧ p ≤ 2) (ht : 1 ≤ t ∧ t ≤ 64) (hm : S.more p t v = true) : chOk S.l S.r S.ps p t S.s (S.piece v).1 (S.piece v).2 = true := by
  unfold PS.more at hm
  simp only [Bool.and_eq_true, decide_eq_true_eq] at hm
  have hi := piece_in (v := v) h.1
  unfold chOk
  rw [h.1, show isSet p t S.s = true from decide_eq_true ⟨hp.1, hp.2, ht.1, ht.2, h.2.2.1, h.2.2.2.1⟩]
  simp only [Bool.and_self, Bool.true_and, decide_eq_true_eq]
  unfold PS.piece at hm ⊢
  omega

theorem PS.m_in {S : PS} {n : Nat} {p t v : Int} (h : S.Ok n) (hp : 0 ≤ p ∧ p ≤ 2) (ht : 1 ≤ t ∧ t ≤ 64) (hm : S.more p t v = true) : -999 ≤ S.m p t v ∧ S.m p t v ≤ 999 := by
  obtain ⟨i, hi, -, -, e⟩ := chM_at (PS.more_at h hp ht hm)
  unfold PS.m
  rw [← e]
  exact vals_in h.1 i hi

theorem PS.step_ok {S : PS} {n : Nat} {p t v : Int} (h : S.Ok n) (hp : 0 ≤ p ∧ p ≤ 2) (ht : 1 ≤ t ∧ t ≤ 64) (hm : S.more p t v = true) : (S.step p t v).Ok (n + 2097152) := by
  have hb := PS.m_in h hp ht hm
  exact PS.crack_ok (PS.crack_ok (PS.chosen_ok h) ⟨by omega, by omega⟩) ⟨by omega, by omega⟩

theorem PS.less {S : PS} {n : Nat} {p t v : Int} (h : S.Ok n) (hp : 0 ≤ p ∧ p ≤ 2) (ht : 1 ≤ t ∧ t ≤ 64) (hv : -1000 ≤ v ∧ v ≤ 1000) (hm : S.more p t v = true) :
    ((S.step p t v).piece v).2 - ((S.step p t v).piece v).1 < (S.piece v).2 - (S.piece v).1 := by
  have hb := PS.m_in h hp ht hm
  obtain ⟨i, hi, h1, h2, e⟩ := chM_at (PS.more_at h hp ht hm)
  have k1 := crack_isCk (v := S.m p t v) h.1
  have k2 := crack_isCk (v := S.m p t v + 1) k1
  have f1 := crack_found (crOk_of (v := S.m p t v) h.1 (by omega) (by omega))
  have f2 := crack_found (crOk_of (v := S.m p t v + 1) k1 (by omega) (by omega))
  obtain ⟨q1, m1, e1, -⟩ := fnd_memb f1
  obtain ⟨q2, m2, e2, -⟩ := fnd_memb f2
  have M1 : ∃ x, (S.m p t v, x) ∈ (S.step p t v).ps := ⟨q1.2, by rw [← e1]; exact crack_sub q1 m1⟩
  have M2 : ∃ x, (S.m p t v + 1, x) ∈ (S.step p t v).ps := ⟨q2.2, by rw [← e2]; exact m2⟩
  exact piece_less h.1 k2 hv.1 hv.2 ((crack_perm k1).trans (crack_perm h.1)) (fun q hq => crack_sub q (crack_sub q hq)) M1 M2 i hi h1 h2 e

theorem PS.run_stop {S : PS} {p t v : Int} (h : S.more p t v = false) : ∀ k, PS.run p t v k S = S
  | 0 => rfl
  | k + 1 => by rw [PS.run, h]; rfl

/-- With as many rounds as the piece has elements it is at its end. -/
theorem PS.run_done {p t v : Int} (hp : 0 ≤ p ∧ p ≤ 2) (ht : 1 ≤ t ∧ t ≤ 64) (hv : -1000 ≤ v ∧ v ≤ 1000) : ∀ (k n : Nat) (S : PS), S.Ok n → (S.piece v).2 - (S.piece v).1 ≤ k → (PS.run p t v k S).more p t v = false
  | 0, n, S, h, hk => by
    rw [PS.run]
    unfold PS.more
    simp only [Bool.and_eq_false_iff, decide_eq_false_iff_not]
    omega
  | k + 1, n, S, h, hk => by
    rw [PS.run]
    cases hm : S.more p t v with
    | false => simp only [Bool.false_eq_true, if_false]; exact hm
    | true =>
      simp only [if_true]
      have := PS.less h hp ht hv hm
      exact PS.run_done hp ht hv k _ _ (PS.step_ok h hp ht hm) (by omega)

/-- Dividing by a policy. -/
noncomputable def cwOk (l r : List Int) (ps : List Pv) (p t s v : Int) : Bool := isCk l r ps && isSet p t s && decide (-1000 ≤ v ∧ v ≤ 1000)
noncomputable def cwF (l r : List Int) (ps : List Pv) (p t s v : Int) : PS := if cwOk l r ps p t s v = true then (PS.run p t v 64 ⟨l, r, ps, s, 0⟩).crack v else ⟨l, r, ps, s, 0⟩

theorem PS.run_ok {p t v : Int} (hp : 0 ≤ p ∧ p ≤ 2) (ht : 1 ≤ t ∧ t ≤ 64) : ∀ (k n : Nat) (S : PS), S.Ok n → (PS.run p t v k S).Ok (n + k * 2097152)
  | 0, n, S, h => by rw [PS.run]; simpa using h
  | k + 1, n, S, h => by
    rw [PS.run]
    cases hm : S.more p t v with
    | false => simp only [Bool.false_eq_true, if_false]; exact ⟨h.1, h.2.1, h.2.2.1, h.2.2.2.1, by have := h.2.2.2.2; omega⟩
    | true =>
      simp only [if_true]
      have := PS.run_ok (v := v) hp ht k _ _ (PS.step_ok h hp ht hm)
      rwa [show n + 2097152 + k * 2097152 = n + (k + 1) * 2097152 by omega] at this

end Go.Proofs.Ytfldnjkojdnjcaa

/- The median in numbers: at most half are less, at most half are greater (promise 5). No function of the program. -/
namespace Go.Proofs.Ytfldnjkojdnjcaa
set_option linter.unusedSimpArgs false
set_option linter.unusedVariables false
set_option maxRecDepth 100000

/-- How many of the first k are less than m; how many are greater. -/
def lsK (l : List Int) (m : Int) (k : Nat) : Nat := (l.take k).countP (fun x => decide (x < m))
def grK (l : List Int) (m : Int) (k : Nat) : Nat := (l.take k).countP (fun x => decide (m < x))
theorem lsK_succ {l : List Int} {m : Int} {k : Nat} (h : k < l.length) : lsK l m (k + 1) = lsK l m k + if decide (l[k] < m) = true then 1 else 0 := by
  unfold lsK
  rw [List.take_succ_eq_append_getElem h, List.countP_append]
  simp [List.countP_cons]
theorem grK_succ {l : List Int} {m : Int} {k : Nat} (h : k < l.length) : grK l m (k + 1) = grK l m k + if decide (m < l[k]) = true then 1 else 0 := by
  unfold grK
  rw [List.take_succ_eq_append_getElem h, List.countP_append]
  simp [List.countP_cons]
theorem lsK_le (l : List Int) (m : Int) (k : Nat) : lsK l m k ≤ l.length := Nat.le_trans (List.countP_le_length) (by simp; omega)
theorem grK_le (l : List Int) (m : Int) (k : Nat) : grK l m k ≤ l.length := Nat.le_trans (List.countP_le_length) (by simp; omega)

theorem med_half {l : List Int} (h : l.length ≤ 64) : 2 * lsK l (medL l) l.length ≤ l.length ∧ 2 * grK l (medL l) l.length ≤ l.length := by
  rcases Nat.eq_zero_or_pos l.length with h0 | h0
  · have := lsK_le l (medL l) l.length
    have := grK_le l (medL l) l.length
    omega
  have hp := sortL_perm l
  have hlen := hp.length_eq
  have hs : (sortL l).Pairwise (· ≤ ·) := sortL_asc l
  obtain ⟨s, hss⟩ : ∃ s, s = sortL l := ⟨_, rfl⟩
  obtain ⟨k, hk⟩ : ∃ k, k = (l.length - 1) / 2 := ⟨_, rfl⟩
  have hm : medL l = s.getD k 0 := by unfold medL; rw [if_neg (by omega), hk, hss]
  rw [← hss] at hp hlen hs
  have hks : k < s.length := by omega
  rw [List.getD_eq_getElem?_getD, List.getElem?_eq_getElem hks, Option.getD_some] at hm
  unfold lsK grK
  rw [List.take_length, ← hp.countP_eq, ← hp.countP_eq, hm]
  rw [List.pairwise_iff_getElem] at hs
  constructor
  · have e : s.countP (fun x => decide (x < s[k])) = (s.take k).countP (fun x => decide (x < s[k])) + (s.drop k).countP (fun x => decide (x < s[k])) := by
      rw [← List.countP_append, List.take_append_drop]
    have e2 : (s.drop k).countP (fun x => decide (x < s[k])) = 0 := by
      rw [List.countP_eq_zero]
      intro x hx
      obtain ⟨j, hj, rfl⟩ := List.getElem_of_mem hx
      simp only [List.getElem_drop, decide_eq_true_eq, Int.not_lt]
      rcases Nat.eq_zero_or_pos j with hj0 | hj0
      · subst hj0; simp
      · exact hs k (k + j) hks (by simp at hj; omega) (by omega)
    have e3 := List.countP_le_length (p := fun x => decide (x < s[k])) (l := s.take k)
    rw [List.length_take] at e3
    omega
  · have e : s.countP (fun x => decide (s[k] < x)) = (s.take (k + 1)).countP (fun x => decide (s[k] < x)) + (s.drop (k + 1)).countP (fun x => decide (s[k] < x)) := by
      rw [← List.countP_append, List.take_append_drop]
    have e2 : (s.take (k + 1)).countP (fun x => decide (s[k] < x)) = 0 := by
      rw [List.countP_eq_zero]
      intro x hx
      obtain ⟨j, hj, rfl⟩ := List.getElem_of_mem hx
      rw [List.length_take] at hj
      simp only [List.getElem_take, decide_eq_true_eq, Int.not_lt]
      rcases Nat.lt_or_ge j k with hjk | hjk
      · exact hs j k (by omega) hks hjk
      · have : j = k := by omega
        subst this; exact Int.le_refl _
    have e3 := List.countP_le_length (p := fun x => decide (s[k] < x)) (l := s.drop (k + 1))
    rw [List.length_drop] at e3
    omega

end Go.Proofs.Ytfldnjkojdnjcaa
