/- Dividing a column, in numbers (promises 3 and 4): what a partition's swaps leave, that the column stays valid and the same pairs, which pivots there are. Any program. -/
import Derived.Test.YtepkkeclkdlheaaCrD
namespace Go.Proofs.Ytepkkeclkdlheaa
set_option linter.unusedSimpArgs false
set_option linter.unusedVariables false

theorem swapAt_getD (l : List Int) (i j k : Nat) (hi : i < l.length) (hj : j < l.length) : (swapAt l i j).getD k 0 = if k = j then l.getD i 0 else if k = i then l.getD j 0 else l.getD k 0 := by
  unfold swapAt
  simp only [List.getD_eq_getElem?_getD, List.getElem?_set]
  by_cases h1 : k = j
  · subst h1; simp [hj]
  · rw [if_neg (show ¬ j = k from fun h => h1 h.symm), if_neg h1]
    by_cases h2 : k = i
    · subst h2; simp [hi]
    · rw [if_neg (show ¬ i = k from fun h => h2 h.symm), if_neg h2]

/-- Two places exchanged in any list: the same elements. -/
theorem set_set_perm' {α : Type} (L : List α) (i j : Nat) (hi : i < L.length) (hj : j < L.length) : ((L.set i L[j]).set j L[i]).Perm L := by
  have h := Array.swap_perm (xs := L.toArray) (i := i) (j := j) (by simpa using hi) (by simpa using hj)
  have h2 := h.toList
  rw [Array.toList_swap] at h2
  simpa using h2

theorem zip_swapAt (l r : List Int) (i j : Nat) (h : r.length = l.length) (hi : i < l.length) (hj : j < l.length) : ((swapAt l i j).zip (swapAt r i j)).Perm (l.zip r) := by
  have hz : (l.zip r).length = l.length := by simp; omega
  have e : (swapAt l i j).zip (swapAt r i j) = ((l.zip r).set i ((l.zip r)[j]'(by omega))).set j ((l.zip r)[i]'(by omega)) := by
    apply List.ext_getElem
    · simp [swapAt_length]
    · intro k h1 h2
      simp only [List.getElem_zip, List.getElem_set, swapAt, List.getD_eq_getElem?_getD, List.getElem?_eq_getElem hi, List.getElem?_eq_getElem hj, List.getElem?_eq_getElem (show i < r.length by omega), List.getElem?_eq_getElem (show j < r.length by omega), Option.getD_some]
      split
      · rfl
      · split <;> rfl
  rw [e]
  exact set_set_perm' _ i j _ _

theorem zip_swaps : ∀ (sw : List Pv) (l r : List Int), r.length = l.length → sw.all (swOk l.length) = true → ((swaps l sw).zip (swaps r sw)).Perm (l.zip r)
  | [], l, r, _, _ => .refl _
  | p :: ps, l, r, h, ha => by
    simp only [List.all_cons, Bool.and_eq_true] at ha
    have h1 := ha.1
    unfold swOk at h1
    simp only [Bool.and_eq_true, decide_eq_true_eq] at h1
    simp only [swaps]
    exact (zip_swaps ps _ _ (by rw [swapAt_length, swapAt_length]; exact h) (by rw [swapAt_length]; exact ha.2)).trans (zip_swapAt l r _ _ h (by omega) (by omega))

theorem swaps_perm (sw : List Pv) (l : List Int) (ha : sw.all (swOk l.length) = true) : (swaps l sw).Perm l := by
  have h := (zip_swaps sw l l rfl ha).map Prod.fst
  rwa [List.map_fst_zip (Nat.le_refl _), List.map_fst_zip (Nat.le_refl _)] at h

theorem zip_ap (l r : List Int) (sw : List Pv) : ((apL l r sw).zip (apR l r sw)).Perm (l.zip r) := by
  unfold apL apR
  by_cases h : canSwap l r sw = true
  · rw [if_pos h, if_pos h]
    unfold canSwap at h
    simp only [Bool.and_eq_true, decide_eq_true_eq] at h
    exact zip_swaps sw l r h.1 h.2
  · rw [if_neg h, if_neg h]

/-- Swaps between the places i and e turn nothing outside. -/
theorem swaps_out : ∀ (sw : List Pv) (l : List Int) (i e : Nat), e ≤ l.length → (∀ q ∈ sw, (i : Int) ≤ q.1 ∧ q.1 < q.2 ∧ q.2 < (e : Int)) → ∀ k, k < i ∨ e ≤ k → (swaps l sw).getD k 0 = l.getD k 0
  | [], l, i, e, _, _, k, _ => rfl
  | p :: ps, l, i, e, he, h, k, hk => by
    have h1 := h p (by simp)
    rw [swaps, swaps_out ps _ i e (by rw [swapAt_length]; exact he) (fun q hq => h q (by simp [hq])) k hk, swapAt_getD _ _ _ _ (by omega) (by omega), if_neg (by omega), if_neg (by omega)]

/-- .. and what lies inside comes from inside. -/
theorem swaps_in : ∀ (sw : List Pv) (l : List Int) (i e : Nat), e ≤ l.length → (∀ q ∈ sw, (i : Int) ≤ q.1 ∧ q.1 < q.2 ∧ q.2 < (e : Int)) → ∀ k, i ≤ k → k < e → ∃ k', i ≤ k' ∧ k' < e ∧ (swaps l sw).getD k 0 = l.getD k' 0
  | [], l, i, e, _, _, k, h1, h2 => ⟨k, h1, h2, rfl⟩
  | p :: ps, l, i, e, he, h, k, hk1, hk2 => by
    have h1 := h p (by simp)
    obtain ⟨k', g1, g2, g3⟩ := swaps_in ps (swapAt l p.1.toNat p.2.toNat) i e (by rw [swapAt_length]; exact he) (fun q hq => h q (by simp [hq])) k hk1 hk2
    rw [swaps, g3, swapAt_getD _ _ _ _ (by omega) (by omega)]
    split
    · exact ⟨_, by omega, by omega, rfl⟩
    · split
      · exact ⟨_, by omega, by omega, rfl⟩
      · exact ⟨_, g1, g2, rfl⟩

theorem part_congr (p : Int) : ∀ (f i e : Nat) (l l' : List Int), (∀ k, i ≤ k → k < e → l.getD k 0 = l'.getD k 0) → part l p f i e = part l' p f i e
  | 0, _, _, _, _, _ => rfl
  | f + 1, i, e, l, l', h => by
    by_cases hie : i < e
    · rw [part_step _ _ _ _ _ hie, part_step _ _ _ _ _ hie, h i (Nat.le_refl _) hie, h (e - 1) (by omega) (by omega), part_congr p f (i + 1) e l l' (fun k h1 h2 => h k (by omega) h2), part_congr p f i (e - 1) l l' (fun k h1 h2 => h k h1 (by omega)), part_congr p f (i + 1) (e - 1) l l' (fun k h1 h2 => h k (by omega) (by omega))]
    · rw [part_stop _ _ _ _ _ hie, part_stop _ _ _ _ _ hie]

/-- A partition's swaps leave the smaller elements in front of its place. -/
theorem part_div (p : Int) : ∀ (f i e : Nat) (l : List Int), e - i ≤ f → e ≤ l.length → ∀ k, i ≤ k → k < e → ((swaps l (part l p f i e).1).getD k 0 < p ↔ k < (part l p f i e).2)
  | 0, i, e, l, hf, he, k, h1, h2 => by omega
  | f + 1, i, e, l, hf, he, k, h1, h2 => by
    have hie : i < e := by omega
    rw [part_step _ _ _ _ _ hie]
    by_cases c1 : l.getD i 0 < p
    · rw [if_pos c1]
      obtain ⟨n1, n2, n3, n4⟩ := part_nums l p f (i + 1) e
      by_cases hk : k = i
      · subst hk
        rw [swaps_out _ l (k + 1) e he n1 k (.inl (by omega))]
        exact ⟨fun _ => by omega, fun _ => c1⟩
      · exact part_div p f (i + 1) e l (by omega) he k (by omega) h2
    · rw [if_neg c1]
      by_cases c2 : p ≤ l.getD (e - 1) 0
      · rw [if_pos c2]
        obtain ⟨n1, n2, n3, n4⟩ := part_nums l p f i (e - 1)
        by_cases hk : k = e - 1
        · subst hk
          rw [swaps_out _ l i (e - 1) (by omega) n1 (e - 1) (.inr (Nat.le_refl _))]
          exact ⟨fun h => by omega, fun h => by omega⟩
        · exact part_div p f i (e - 1) l (by omega) (by omega) k h1 (by omega)
      · rw [if_neg c2]
        obtain ⟨n1, n2, n3, n4⟩ := part_nums l p f (i + 1) (e - 1)
        have hl' : (swapAt l i (e - 1)).length = l.length := swapAt_length _ _ _
        have hg := fun k => swapAt_getD l i (e - 1) k (by omega) (by omega)
        by_cases hie2 : i = e - 1
        · exfalso; rw [← hie2] at c2; omega
        have hc := part_congr p f (i + 1) (e - 1) l (swapAt l i (e - 1)) (fun k q1 q2 => by rw [hg k, if_neg (by omega), if_neg (by omega)])
        simp only [swaps]
        rw [show ((i : Int)).toNat = i by omega, show ((e : Int) - 1).toNat = e - 1 by omega]
        by_cases hk1 : k = i
        · subst hk1
          rw [swaps_out _ _ (k + 1) (e - 1) (by omega) n1 k (.inl (by omega)), hg k, if_neg (by omega), if_pos rfl]
          exact ⟨fun _ => by omega, fun _ => by omega⟩
        · by_cases hk2 : k = e - 1
          · subst hk2
            rw [swaps_out _ _ (i + 1) (e - 1) (by omega) n1 (e - 1) (.inr (Nat.le_refl _)), hg (e - 1), if_pos rfl]
            exact ⟨fun h => by omega, fun h => by omega⟩
          · rw [hc]
            exact part_div p f (i + 1) (e - 1) (swapAt l i (e - 1)) (by omega) (by omega) k (by omega) (by omega)

/-- The swaps go inward. -/
theorem part_inward (l : List Int) (p : Int) : ∀ (f i e : Nat), (part l p f i e).1.Pairwise fun a b => a.1 < b.1 ∧ b.2 < a.2
  | 0, _, _ => by simp [part]
  | f + 1, i, e => by
    by_cases hie : i < e
    · rw [part_step _ _ _ _ _ hie]
      split
      · exact part_inward l p f _ _
      · split
        · exact part_inward l p f _ _
        · obtain ⟨n1, -⟩ := part_nums l p f (i + 1) (e - 1)
          refine List.pairwise_cons.2 ⟨fun q hq => ?_, part_inward l p f _ _⟩
          have := n1 q hq
          exact ⟨by omega, by omega⟩
    · rw [part_stop _ _ _ _ _ hie]; simp

/-- Pivots that fit stand in the order of their values. -/
theorem fits_mono {l : List Int} {V A V' A' : Int} (h : Fits l V A) (h' : Fits l V' A') (hv : V ≤ V') : A ≤ A' := by
  obtain ⟨a1, a2, a3⟩ := h
  obtain ⟨b1, b2, b3⟩ := h'
  by_cases hc : A ≤ A'
  · exact hc
  · exfalso
    have h1 := (a3 A'.toNat (by omega)).2 (by omega)
    have h2 := (b3 A'.toNat (by omega)).1 (by omega)
    omega

theorem fnd_no : ∀ {ps : List Pv} {v : Int}, (fndP ps v).2 = false → ∀ q ∈ ps, q.1 ≠ v
  | [], _, _, q, hq => by simp at hq
  | p :: ps, v, h, q, hq => by
    rw [fndP] at h
    split at h
    · simp at h
    · rcases List.mem_cons.1 hq with rfl | hq
      · assumption
      · exact fnd_no h q hq

theorem fnd_app : ∀ (a b : List Pv) (v : Int), fndP (a ++ b) v = if (fndP a v).2 = true then fndP a v else fndP b v
  | [], b, v => by simp [fndP]
  | p :: a, b, v => by
    by_cases h : p.1 = v
    · simp [fndP, h]
    · have e1 : fndP (p :: (a ++ b)) v = fndP (a ++ b) v := by rw [fndP, if_neg h]
      have e2 : fndP (p :: a) v = fndP a v := by rw [fndP, if_neg h]
      rw [List.cons_append, e1, e2]
      exact fnd_app a b v

theorem fnd_ins {ps : List Pv} {p : Pv} {f : Int} (h : p.1 ≠ f) : fndP (adIn ps p) f = fndP ps f := by
  unfold adIn insAt
  conv => rhs; rw [← List.take_append_drop (behind ps p.1) ps]
  rw [fnd_app, fnd_app, fndP, if_neg h]

theorem fnd_ins' {ps : List Pv} {p : Pv} (h : (fndP ps p.1).2 = false) : fndP (adIn ps p) p.1 = (p.2, true) := by
  unfold adIn insAt
  have h1 : ¬ (fndP (ps.take (behind ps p.1)) p.1).2 = true := by
    intro h2
    have h3 := fnd_app (ps.take (behind ps p.1)) (ps.drop (behind ps p.1)) p.1
    rw [List.take_append_drop, if_pos h2] at h3
    rw [h3] at h
    rw [h] at h2; simp at h2
  rw [fnd_app, if_neg h1, fndP, if_pos rfl]

theorem Asc.cons {p : Pv} {ps : List Pv} (h : Asc (p :: ps)) : (∀ q ∈ ps, p.1 < q.1) ∧ Asc ps := List.pairwise_cons.1 h

theorem lo_spec {l : List Int} {v : Int} : ∀ (ps : List Pv) (a : Int), Asc ps → (∀ q ∈ ps, Fits l q.1 q.2) → (∀ q ∈ ps, q.1 ≠ v) → (0 ≤ a ∧ a ≤ l.length ∧ (∀ i (h : i < l.length), (i : Int) < a → l[i] < v) ∧ ∀ q ∈ ps, a ≤ q.2) →
    (0 ≤ loP ps v a ∧ loP ps v a ≤ l.length ∧ (∀ i (h : i < l.length), (i : Int) < loP ps v a → l[i] < v)) ∧ a ≤ loP ps v a ∧ ∀ q ∈ ps, q.1 < v → q.2 ≤ loP ps v a
  | [], a, _, _, _, h => ⟨⟨h.1, h.2.1, h.2.2.1⟩, Int.le_refl _, by simp⟩
  | p :: ps, a, hs, hf, hn, h => by
    obtain ⟨s1, s2⟩ := hs.cons
    have hp := hf p (by simp)
    have hpn := hn p (by simp)
    rw [loP]
    by_cases hc : p.1 ≤ v
    · rw [if_pos hc]
      obtain ⟨g1, g2, g3⟩ := lo_spec ps p.2 s2 (fun q hq => hf q (by simp [hq])) (fun q hq => hn q (by simp [hq]))
        ⟨hp.1, hp.2.1, fun i hi hlt => by have := (hp.2.2 i hi).2 hlt; omega, fun q hq => fits_mono hp (hf q (by simp [hq])) (by have := s1 q hq; omega)⟩
      refine ⟨g1, by have := h.2.2.2 p (by simp); omega, fun q hq hv => ?_⟩
      rcases List.mem_cons.1 hq with rfl | hq
      · exact g2
      · exact g3 q hq hv
    · rw [if_neg hc]
      obtain ⟨g1, g2, g3⟩ := lo_spec ps a s2 (fun q hq => hf q (by simp [hq])) (fun q hq => hn q (by simp [hq]))
        ⟨h.1, h.2.1, h.2.2.1, fun q hq => h.2.2.2 q (by simp [hq])⟩
      refine ⟨g1, g2, fun q hq hv => ?_⟩
      rcases List.mem_cons.1 hq with rfl | hq
      · omega
      · exact g3 q hq hv

theorem hi_spec {l : List Int} {v : Int} : ∀ (ps : List Pv), Asc ps → (∀ q ∈ ps, Fits l q.1 q.2) → (∀ q ∈ ps, q.1 ≠ v) →
    (0 ≤ hiP ps v l.length ∧ hiP ps v l.length ≤ l.length ∧ (∀ i (h : i < l.length), hiP ps v l.length ≤ (i : Int) → v ≤ l[i])) ∧ ∀ q ∈ ps, v < q.1 → hiP ps v l.length ≤ q.2
  | [], _, _, _ => ⟨⟨by simp [hiP], by simp [hiP], fun i h hle => by simp [hiP] at hle; omega⟩, by simp⟩
  | p :: ps, hs, hf, hn => by
    obtain ⟨s1, s2⟩ := hs.cons
    have hp := hf p (by simp)
    have hpn := hn p (by simp)
    rw [hiP]
    by_cases hc : v ≤ p.1
    · rw [if_pos hc]
      refine ⟨⟨hp.1, hp.2.1, fun i hi hle => ?_⟩, fun q hq hv => ?_⟩
      · have := hp.2.2 i hi
        by_cases h2 : l[i] < p.1
        · have := this.1 h2; omega
        · omega
      · rcases List.mem_cons.1 hq with rfl | hq
        · exact Int.le_refl _
        · exact fits_mono hp (hf q (by simp [hq])) (by have := s1 q hq; omega)
    · rw [if_neg hc]
      obtain ⟨g1, g2⟩ := hi_spec ps s2 (fun q hq => hf q (by simp [hq])) (fun q hq => hn q (by simp [hq]))
      refine ⟨g1, fun q hq hv => ?_⟩
      rcases List.mem_cons.1 hq with rfl | hq
      · omega
      · exact g2 q hq hv

theorem rowsOk_nodup {r : List Int} : RowsOk r ↔ (∀ x ∈ r, 0 ≤ x ∧ x ≤ 999) ∧ r.Nodup := by
  constructor
  · intro h
    refine ⟨fun x hx => ?_, List.pairwise_iff_getElem.2 fun i j hi hj hij => (h j hj).2.2 i hij⟩
    obtain ⟨i, hi, rfl⟩ := List.getElem_of_mem hx
    exact ⟨(h i hi).1, (h i hi).2.1⟩
  · rintro ⟨h1, h2⟩ i hi
    have h3 := h1 _ (List.getElem_mem hi)
    exact ⟨h3.1, h3.2, fun k hk => List.pairwise_iff_getElem.1 h2 k i (by omega) hi hk⟩

theorem areVals_perm {l m : List Int} (h : m.Perm l) : areVals m = areVals l := by
  unfold areVals
  rw [h.length_eq, h.all_eq]

/-- What a division does to a column that is divided. -/
structure Divided (l r : List Int) (ps : List Pv) (v : Int) (l' r' : List Int) (a b at' : Nat) : Prop where
  can : canSwap l r (crPt l r ps v).1 = true
  left : l' = swaps l (crPt l r ps v).1
  right : r' = swaps r (crPt l r ps v).1
  lo : (pieceP l r ps v).1 = a
  hi : (pieceP l r ps v).2 = b
  pl : (crPt l r ps v).2 = at'
  le : a ≤ at' ∧ at' ≤ b ∧ b ≤ l.length
  out : ∀ k, k < a ∨ b ≤ k → l'.getD k 0 = l.getD k 0 ∧ r'.getD k 0 = r.getD k 0
  ok : isCk l' r' (adIn ps (v, (at' : Int))) = true

theorem crack_divided {l r : List Int} {ps : List Pv} {v : Int} (h : crDiv l r ps v = true) :
    ∃ a b at' : Nat, Divided l r ps v (swaps l (crPt l r ps v).1) (swaps r (crPt l r ps v).1) a b at' := by
  unfold crDiv crOk at h
  simp only [Bool.and_eq_true, decide_eq_true_eq, Bool.not_eq_true'] at h
  obtain ⟨⟨hck, hv1, hv2⟩, hnf⟩ := h
  obtain ⟨c1, c2, c3, c4⟩ := isCk_parts hck
  obtain ⟨asc, fit⟩ := pvsOk_asc.1 c4
  have hne := fnd_no hnf
  obtain ⟨⟨l1, l2, l3⟩, -, l4⟩ := lo_spec ps 0 asc (fun q hq => (fit q hq).2.2) hne ⟨Int.le_refl _, by omega, fun i hi h => by omega, fun q hq => (fit q hq).2.2.1⟩
  obtain ⟨⟨g1, g2, g3⟩, g4⟩ := hi_spec (v := v) ps asc (fun q hq => (fit q hq).2.2) hne
  have hpc : pieceP l r ps v = (loP ps v 0, hiP ps v l.length) := by unfold pieceP; rw [if_pos ⟨hck, hv1, hv2⟩]
  obtain ⟨a, ha⟩ : ∃ a : Nat, loP ps v 0 = a := ⟨(loP ps v 0).toNat, by omega⟩
  obtain ⟨b, hb⟩ : ∃ b : Nat, hiP ps v l.length = b := ⟨(hiP ps v l.length).toNat, by omega⟩
  rw [ha] at l1 l2 l3 l4
  rw [hb] at g1 g2 g3 g4
  have hab : a ≤ b := by
    by_cases hc : a ≤ b
    · exact hc
    · have h1 := l3 b (by omega) (by omega)
      have h2 := g3 b (by omega) (by omega)
      omega
  have hpt : crPt l r ps v = ((part l v (b - a) a b).1, ((part l v (b - a) a b).2 : Int)) := by
    unfold crPt partP
    rw [hpc, ha, hb]
    simp only
    rw [if_pos (by omega)]
    simp only [Int.toNat_natCast]
    rw [show ((b : Int) - (a : Int)).toNat = b - a by omega]
  obtain ⟨n1, n2, n3, n4⟩ := part_nums l v (b - a) a b
  have hdiv := part_div v (b - a) a b l (Nat.le_refl _) (by omega)
  rw [hpt]
  simp only
  obtain ⟨sw, hsw⟩ : ∃ s, s = (part l v (b - a) a b).1 := ⟨_, rfl⟩
  obtain ⟨t, ht⟩ : ∃ s, s = (part l v (b - a) a b).2 := ⟨_, rfl⟩
  rw [← hsw, ← ht] at hpt hdiv
  rw [← hsw] at n1 n2 ⊢
  rw [← ht] at n3 n4
  have hall : sw.all (swOk l.length) = true := by
    rw [List.all_eq_true]
    intro q hq
    have := n1 q hq
    unfold swOk
    simp only [Bool.and_eq_true, decide_eq_true_eq]
    omega
  have hpl := swaps_perm sw l hall
  have hpr := swaps_perm sw r (by rw [c2]; exact hall)
  have houtl := swaps_out sw l a b (by omega) n1
  have hinl := swaps_in sw l a b (by omega) n1
  have hgl : ∀ i (hi : i < (swaps l sw).length), (swaps l sw)[i] = (swaps l sw).getD i 0 := fun i hi => by simp [List.getD_eq_getElem?_getD, List.getElem?_eq_getElem hi]
  have hg0 : ∀ i (hi : i < l.length), l[i] = l.getD i 0 := fun i hi => by simp [List.getD_eq_getElem?_getD, List.getElem?_eq_getElem hi]
  have hll := swaps_length l sw
  have fitv : Fits (swaps l sw) v t := by
    refine ⟨by omega, by omega, fun i hi => ?_⟩
    rw [hgl i hi]
    by_cases hi1 : i < a
    · rw [houtl i (.inl hi1), ← hg0 i (by omega)]
      exact ⟨fun _ => by omega, fun _ => l3 i (by omega) (by omega)⟩
    · by_cases hi2 : b ≤ i
      · rw [houtl i (.inr hi2), ← hg0 i (by omega)]
        have := g3 i (by omega) (by omega)
        exact ⟨fun h => by omega, fun h => by omega⟩
      · have := hdiv i (by omega) (by omega)
        rw [this]
        omega
  have fitq : ∀ q ∈ ps, Fits (swaps l sw) q.1 q.2 := by
    intro q hq
    obtain ⟨-, -, f1, f2, f3⟩ := fit q hq
    refine ⟨f1, by omega, fun i hi => ?_⟩
    rw [hgl i hi]
    by_cases hi1 : i < a ∨ b ≤ i
    · rw [houtl i hi1, ← hg0 i (by omega)]
      exact f3 i (by omega)
    · obtain ⟨k', k1, k2, k3⟩ := hinl i (by omega) (by omega)
      rw [k3, ← hg0 k' (by omega), f3 k' (by omega)]
      by_cases hqv : q.1 < v
      · have := l4 q hq hqv
        constructor <;> intro _ <;> omega
      · have := g4 q hq (by have := hne q hq; omega)
        constructor <;> intro _ <;> omega
  refine ⟨a, b, t, ⟨?_, by rw [hpt], by rw [hpt], by rw [hpc]; exact ha, by rw [hpc]; exact hb, by rw [hpt], ⟨by omega, by omega, by omega⟩, fun k hk => ⟨houtl k hk, ?_⟩, ?_⟩⟩
  · rw [hpt]
    unfold canSwap
    simp only [c2, decide_true, hall, Bool.and_self]
  · exact swaps_out sw r a b (by omega) n1 k hk
  · unfold isCk
    rw [areVals_perm hpl, c1]
    have r1 : RowsOk (swaps r sw) := by
      obtain ⟨q1, q2⟩ := rowsOk_nodup.1 c3
      exact rowsOk_nodup.2 ⟨fun x hx => q1 x (hpr.mem_iff.1 hx), hpr.nodup_iff.2 q2⟩
    have r2 : PvsOk (swaps l sw) (adIn ps (v, (t : Int))) := by
      refine pvsOk_asc.2 ⟨?_, ?_⟩
      · unfold adIn insAt Asc
        rw [List.pairwise_append, List.pairwise_cons]
        have d1 : ∀ x ∈ ps.take (behind ps v), x.1 < v := by
          intro x hx
          obtain ⟨k, hk, rfl⟩ := List.getElem_of_mem hx
          rw [List.length_take] at hk
          rw [List.getElem_take]
          have h1 := behind_before ps v k (by omega) (by omega)
          have h2 := hne _ (List.getElem_mem (show k < ps.length by omega))
          omega
        have d2 : ∀ x ∈ ps.drop (behind ps v), v < x.1 := by
          intro x hx
          obtain ⟨k, hk, rfl⟩ := List.getElem_of_mem hx
          rw [List.length_drop] at hk
          rw [List.getElem_drop]
          have h1 := behind_at ps v (by omega)
          cases k with
          | zero => exact h1
          | succ k =>
            have := List.pairwise_iff_getElem.1 asc (behind ps v) (behind ps v + (k + 1)) (by omega) (by omega) (by omega)
            omega
        refine ⟨asc.sublist (List.take_sublist _ _), ⟨fun x hx => d2 x hx, asc.sublist (List.drop_sublist _ _)⟩, fun x hx y hy => ?_⟩
        rcases List.mem_cons.1 hy with rfl | hy
        · exact d1 x hx
        · have := d1 x hx; have := d2 y hy; omega
      · intro q hq
        unfold adIn insAt at hq
        rcases List.mem_append.1 hq with hq | hq
        · have hq := List.mem_of_mem_take hq
          exact ⟨(fit q hq).1, (fit q hq).2.1, fitq q hq⟩
        · rcases List.mem_cons.1 hq with rfl | hq
          · exact ⟨by show -1001 < v; omega, hv2, fitv⟩
          · have hq := List.mem_of_mem_drop hq
            exact ⟨(fit q hq).1, (fit q hq).2.1, fitq q hq⟩
    rw [rowsOk_iff.2 r1, pvsOk_iff.2 r2, swaps_length, swaps_length, c2]
    simp

end Go.Proofs.Ytepkkeclkdlheaa
