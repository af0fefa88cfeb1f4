/- Several texts in one: CrD, CrM, SrtM, SrtS, Sort, Rbw, CrN. -/
import Derived.Test.YtfldnjkojdnjcaaAdC
import Derived.Test.YtfldnjkojdnjcaaCkV
import Derived.Test.YtfldnjkojdnjcaaCkF
import Derived.Test.YtfldnjkojdnjcaaPtM
import Derived.Test.YtfldnjkojdnjcaaOck
import Derived.Test.YtfldnjkojdnjcaaSwp
import Derived.Test.YtfldnjkojdnjcaaCln
import Derived.Shelf.Lay
import Derived.Shelf.Sort.AssemblyIn
import Derived.Shelf.Slices.In.SortNone
import Derived.Sort.EveryDepth
import Derived.Sort.OwnSortedInts
import Derived.Ground.NamesProg
import Derived.Test.YtfldnjkojdnjcaaCkQ
import Derived.Test.YtfldnjkojdnjcaaRng2
/- What CrackAt does, in numbers and words (promise 3). -/
namespace Go.Proofs.Ytfldnjkojdnjcaa
open Go.RowKit Go.ChangeShapes
set_option linter.unusedSimpArgs false
set_option linter.unusedVariables false
set_option maxRecDepth 100000

/-- The column is valid and v is a bound. -/
noncomputable def crOk (l r : List Int) (ps : List Pv) (v : Int) : Bool := isCk l r ps && decide (-1000 ≤ v ∧ v ≤ 1000)
/-- The column is divided: it is valid, v a bound, and no pivot has this value. -/
noncomputable def crDiv (l r : List Int) (ps : List Pv) (v : Int) : Bool := crOk l r ps v && !(fndP ps v).2
/-- The swaps of the piece, and the place. -/
noncomputable def crPt (l r : List Int) (ps : List Pv) (v : Int) : List Pv × Int := partP l (pieceP l r ps v).1 (pieceP l r ps v).2 v
noncomputable def crS (l r : List Int) (ps : List Pv) (v : Int) : List Pv := if crDiv l r ps v = true then (crPt l r ps v).1 else []
noncomputable def crL (l r : List Int) (ps : List Pv) (v : Int) : List Int := if crDiv l r ps v = true then apL l r (crPt l r ps v).1 else l
noncomputable def crR (l r : List Int) (ps : List Pv) (v : Int) : List Int := if crDiv l r ps v = true then apR l r (crPt l r ps v).1 else r
noncomputable def crP (l r : List Int) (ps : List Pv) (v : Int) : List Pv := if crDiv l r ps v = true then adP (apL l r (crPt l r ps v).1) (apR l r (crPt l r ps v).1) ps (v, (crPt l r ps v).2) else ps

theorem adP_wf {l r : List Int} {ps : List Pv} {p : Pv} (h : ∀ q ∈ ps, I64 q.1 ∧ I64 q.2) (hp : I64 p.1 ∧ I64 p.2) : (∀ q ∈ adP l r ps p, I64 q.1 ∧ I64 q.2) ∧ (adP l r ps p).length ≤ ps.length + 1 := by
  unfold adP
  split
  · exact ⟨adIn_wf h hp, by rw [adIn_length]; exact Nat.le_refl _⟩
  · exact ⟨h, by omega⟩

theorem crack_wf (l r : List Int) (ps : List Pv) (v : Int) (hl : l.length ≤ 1048576) (hr : r.length ≤ 1048576) (hp : ps.length ≤ 1048576) (wl : ∀ x ∈ l, I64 x) (wr : ∀ x ∈ r, I64 x) (wp : ∀ p ∈ ps, I64 p.1 ∧ I64 p.2) (hv : I64 v) :
    (crL l r ps v).length ≤ 1048576 ∧ (crR l r ps v).length ≤ 1048576 ∧ (crP l r ps v).length ≤ 1048577 ∧ (∀ x ∈ crL l r ps v, I64 x) ∧ (∀ x ∈ crR l r ps v, I64 x) ∧ (∀ p ∈ crP l r ps v, I64 p.1 ∧ I64 p.2) ∧ (crS l r ps v).length ≤ 1048576 ∧ ∀ p ∈ crS l r ps v, I64 p.1 ∧ I64 p.2 := by
  unfold crL crR crP crS
  by_cases h : crDiv l r ps v = true
  · simp only [h, if_true]
    obtain ⟨n1, n2, n3, n4⟩ := partP_nums l (pieceP l r ps v).1 (pieceP l r ps v).2 v hl
    have hw := partP_wf l (pieceP l r ps v).1 (pieceP l r ps v).2 v hl
    have ha := adP_wf (l := apL l r (crPt l r ps v).1) (r := apR l r (crPt l r ps v).1) (p := (v, (crPt l r ps v).2)) wp ⟨hv, by unfold crPt; exact ⟨by omega, by omega⟩⟩
    exact ⟨by rw [apL_length]; exact hl, by rw [apR_length]; exact hr, by have := ha.2; omega, apL_wf wl, apR_wf wr, ha.1, n2, hw⟩
  · simp only [h]
    exact ⟨hl, hr, by show ps.length ≤ _; omega, wl, wr, wp, by simp, by simp⟩

/-- A column and swaps of the call's own, and a bool, are returned; nothing that was there has turned. -/
def RetOCSB (w : World) (l r : List Int) (ps sw : List Pv) (b : Bool) (e : Ending) (w' : World) : Prop := ∃ x y z sv lo hi n1 h1 n2 h2 n3 h3 slo shi, e = .returned (.tuple #[.agg #[x, y, z], sv, .bool b]) ∧ (w.heap.size ≤ lo ∧ w.heap.size ≤ slo) ∧ (hi ≤ w'.heap.size ∧ shi ≤ w'.heap.size) ∧ OC w' x y z l r ps lo hi n1 h1 n2 h2 n3 h3 ∧ Osw w' sv sw slo shi ∧ (hi ≤ slo ∨ shi ≤ lo) ∧ Below w.heap.size w w'

theorem Osw.nil {w : World} {n : Nat} (h : n ≤ w.heap.size) : Osw w (.slice none 0 0) [] n n := ⟨OwS.nil _ _, fun g hg => by simp [Value.ownBlock] at hg, Nat.le_refl _, h⟩

end Go.Proofs.Ytfldnjkojdnjcaa

/- Dividing a column, in numbers (promises 3 and 4): what a partition's swaps leave, that the column stays valid and the same pairs, which pivots there are. Any program. -/
namespace Go.Proofs.Ytfldnjkojdnjcaa
set_option linter.unusedSimpArgs false
set_option linter.unusedVariables false

theorem swapAt_getD (l : List Int) (i j k : Nat) (hi : i < l.length) (hj : j < l.length) : (swapAt l i j).getD k 0 = if k = j then l.getD i 0 else if k = i then l.getD j 0 else l.getD k 0 := by
  unfold swapAt
  simp only [List.getD_eq_getElem?_getD, List.getElem?_set]
  by_cases h1 : k = j
  · subst h1; simp [hj]
  · rw [if_neg (show ¬ j = k from fun h => h1 h.symm), if_neg h1]
    by_cases h2 : k = i
    · subst h2; simp [hi]
    · rw [if_neg (show ¬ i = k from fun h => h2 h.symm), if_neg h2]

/-- Two places exchanged in any list: the same elements. -/
theorem set_set_perm' {α : Type} (L : List α) (i j : Nat) (hi : i < L.length) (hj : j < L.length) : ((L.set i L[j]).set j L[i]).Perm L := by
  have h := Array.swap_perm (xs := L.toArray) (i := i) (j := j) (by simpa using hi) (by simpa using hj)
  have h2 := h.toList
  rw [Array.toList_swap] at h2
  simpa using h2

theorem zip_swapAt (l r : List Int) (i j : Nat) (h : r.length = l.length) (hi : i < l.length) (hj : j < l.length) : ((swapAt l i j).zip (swapAt r i j)).Perm (l.zip r) := by
  have hz : (l.zip r).length = l.length := by simp; omega
  have e : (swapAt l i j).zip (swapAt r i j) = ((l.zip r).set i ((l.zip r)[j]'(by omega))).set j ((l.zip r)[i]'(by omega)) := by
    apply List.ext_getElem
    · simp [swapAt_length]
    · intro k h1 h2
      simp only [List.getElem_zip, List.getElem_set, swapAt, List.getD_eq_getElem?_getD, List.getElem?_eq_getElem hi, List.getElem?_eq_getElem hj, List.getElem?_eq_getElem (show i < r.length by omega), List.getElem?_eq_getElem (show j < r.length by omega), Option.getD_some]
      split
      · rfl
      · split <;> rfl
  rw [e]
  exact set_set_perm' _ i j _ _

theorem zip_swaps : ∀ (sw : List Pv) (l r : List Int), r.length = l.length → sw.all (swOk l.length) = true → ((swaps l sw).zip (swaps r sw)).Perm (l.zip r)
  | [], l, r, _, _ => .refl _
  | p :: ps, l, r, h, ha => by
    simp only [List.all_cons, Bool.and_eq_true] at ha
    have h1 := ha.1
    unfold swOk at h1
    simp only [Bool.and_eq_true, decide_eq_true_eq] at h1
    simp only [swaps]
    exact (zip_swaps ps _ _ (by rw [swapAt_length, swapAt_length]; exact h) (by rw [swapAt_length]; exact ha.2)).trans (zip_swapAt l r _ _ h (by omega) (by omega))

theorem swaps_perm (sw : List Pv) (l : List Int) (ha : sw.all (swOk l.length) = true) : (swaps l sw).Perm l := by
  have h := (zip_swaps sw l l rfl ha).map Prod.fst
  rwa [List.map_fst_zip (Nat.le_refl _), List.map_fst_zip (Nat.le_refl _)] at h

theorem zip_ap (l r : List Int) (sw : List Pv) : ((apL l r sw).zip (apR l r sw)).Perm (l.zip r) := by
  unfold apL apR
  by_cases h : canSwap l r sw = true
  · rw [if_pos h, if_pos h]
    unfold canSwap at h
    simp only [Bool.and_eq_true, decide_eq_true_eq] at h
    exact zip_swaps sw l r h.1 h.2
  · rw [if_neg h, if_neg h]

/-- Swaps between the places i and e turn nothing outside. -/
theorem swaps_out : ∀ (sw : List Pv) (l : List Int) (i e : Nat), e ≤ l.length → (∀ q ∈ sw, (i : Int) ≤ q.1 ∧ q.1 < q.2 ∧ q.2 < (e : Int)) → ∀ k, k < i ∨ e ≤ k → (swaps l sw).getD k 0 = l.getD k 0
  | [], l, i, e, _, _, k, _ => rfl
  | p :: ps, l, i, e, he, h, k, hk => by
    have h1 := h p (by simp)
    rw [swaps, swaps_out ps _ i e (by rw [swapAt_length]; exact he) (fun q hq => h q (by simp [hq])) k hk, swapAt_getD _ _ _ _ (by omega) (by omega), if_neg (by omega), if_neg (by omega)]

/-- .. and what lies inside comes from inside. -/
theorem swaps_in : ∀ (sw : List Pv) (l : List Int) (i e : Nat), e ≤ l.length → (∀ q ∈ sw, (i : Int) ≤ q.1 ∧ q.1 < q.2 ∧ q.2 < (e : Int)) → ∀ k, i ≤ k → k < e → ∃ k', i ≤ k' ∧ k' < e ∧ (swaps l sw).getD k 0 = l.getD k' 0
  | [], l, i, e, _, _, k, h1, h2 => ⟨k, h1, h2, rfl⟩
  | p :: ps, l, i, e, he, h, k, hk1, hk2 => by
    have h1 := h p (by simp)
    obtain ⟨k', g1, g2, g3⟩ := swaps_in ps (swapAt l p.1.toNat p.2.toNat) i e (by rw [swapAt_length]; exact he) (fun q hq => h q (by simp [hq])) k hk1 hk2
    rw [swaps, g3, swapAt_getD _ _ _ _ (by omega) (by omega)]
    split
    · exact ⟨_, by omega, by omega, rfl⟩
    · split
      · exact ⟨_, by omega, by omega, rfl⟩
      · exact ⟨_, g1, g2, rfl⟩

theorem part_congr (p : Int) : ∀ (f i e : Nat) (l l' : List Int), (∀ k, i ≤ k → k < e → l.getD k 0 = l'.getD k 0) → part l p f i e = part l' p f i e
  | 0, _, _, _, _, _ => rfl
  | f + 1, i, e, l, l', h => by
    by_cases hie : i < e
    · rw [part_step _ _ _ _ _ hie, part_step _ _ _ _ _ hie, h i (Nat.le_refl _) hie, h (e - 1) (by omega) (by omega), part_congr p f (i + 1) e l l' (fun k h1 h2 => h k (by omega) h2), part_congr p f i (e - 1) l l' (fun k h1 h2 => h k h1 (by omega)), part_congr p f (i + 1) (e - 1) l l' (fun k h1 h2 => h k (by omega) (by omega))]
    · rw [part_stop _ _ _ _ _ hie, part_stop _ _ _ _ _ hie]

/-- A partition's swaps leave the smaller elements in front of its place. -/
theorem part_div (p : Int) : ∀ (f i e : Nat) (l : List Int), e - i ≤ f → e ≤ l.length → ∀ k, i ≤ k → k < e → ((swaps l (part l p f i e).1).getD k 0 < p ↔ k < (part l p f i e).2)
  | 0, i, e, l, hf, he, k, h1, h2 => by omega
  | f + 1, i, e, l, hf, he, k, h1, h2 => by
    have hie : i < e := by omega
    rw [part_step _ _ _ _ _ hie]
    by_cases c1 : l.getD i 0 < p
    · rw [if_pos c1]
      obtain ⟨n1, n2, n3, n4⟩ := part_nums l p f (i + 1) e
      by_cases hk : k = i
      · subst hk
        rw [swaps_out _ l (k + 1) e he n1 k (.inl (by omega))]
        exact ⟨fun _ => by omega, fun _ => c1⟩
      · exact part_div p f (i + 1) e l (by omega) he k (by omega) h2
    · rw [if_neg c1]
      by_cases c2 : p ≤ l.getD (e - 1) 0
      · rw [if_pos c2]
        obtain ⟨n1, n2, n3, n4⟩ := part_nums l p f i (e - 1)
        by_cases hk : k = e - 1
        · subst hk
          rw [swaps_out _ l i (e - 1) (by omega) n1 (e - 1) (.inr (Nat.le_refl _))]
          exact ⟨fun h => by omega, fun h => by omega⟩
        · exact part_div p f i (e - 1) l (by omega) (by omega) k h1 (by omega)
      · rw [if_neg c2]
        obtain ⟨n1, n2, n3, n4⟩ := part_nums l p f (i + 1) (e - 1)
        have hl' : (swapAt l i (e - 1)).length = l.length := swapAt_length _ _ _
        have hg := fun k => swapAt_getD l i (e - 1) k (by omega) (by omega)
        by_cases hie2 : i = e - 1
        · exfalso; rw [← hie2] at c2; omega
        have hc := part_congr p f (i + 1) (e - 1) l (swapAt l i (e - 1)) (fun k q1 q2 => by rw [hg k, if_neg (by omega), if_neg (by omega)])
        simp only [swaps]
        rw [show ((i : Int)).toNat = i by omega, show ((e : Int) - 1).toNat = e - 1 by omega]
        by_cases hk1 : k = i
        · subst hk1
          rw [swaps_out _ _ (k + 1) (e - 1) (by omega) n1 k (.inl (by omega)), hg k, if_neg (by omega), if_pos rfl]
          exact ⟨fun _ => by omega, fun _ => by omega⟩
        · by_cases hk2 : k = e - 1
          · subst hk2
            rw [swaps_out _ _ (i + 1) (e - 1) (by omega) n1 (e - 1) (.inr (Nat.le_refl _)), hg (e - 1), if_pos rfl]
            exact ⟨fun h => by omega, fun h => by omega⟩
          · rw [hc]
            exact part_div p f (i + 1) (e - 1) (swapAt l i (e - 1)) (by omega) (by omega) k (by omega) (by omega)

/-- The swaps go inward. -/
theorem part_inward (l : List Int) (p : Int) : ∀ (f i e : Nat), (part l p f i e).1.Pairwise fun a b => a.1 < b.1 ∧ b.2 < a.2
  | 0, _, _ => by simp [part]
  | f + 1, i, e => by
    by_cases hie : i < e
    · rw [part_step _ _ _ _ _ hie]
      split
      · exact part_inward l p f _ _
      · split
        · exact part_inward l p f _ _
        · obtain ⟨n1, -⟩ := part_nums l p f (i + 1) (e - 1)
          refine List.pairwise_cons.2 ⟨fun q hq => ?_, part_inward l p f _ _⟩
          have := n1 q hq
          exact ⟨by omega, by omega⟩
    · rw [part_stop _ _ _ _ _ hie]; simp

/-- Pivots that fit stand in the order of their values. -/
theorem fits_mono {l : List Int} {V A V' A' : Int} (h : Fits l V A) (h' : Fits l V' A') (hv : V ≤ V') : A ≤ A' := by
  obtain ⟨a1, a2, a3⟩ := h
  obtain ⟨b1, b2, b3⟩ := h'
  by_cases hc : A ≤ A'
  · exact hc
  · exfalso
    have h1 := (a3 A'.toNat (by omega)).2 (by omega)
    have h2 := (b3 A'.toNat (by omega)).1 (by omega)
    omega

theorem fnd_no : ∀ {ps : List Pv} {v : Int}, (fndP ps v).2 = false → ∀ q ∈ ps, q.1 ≠ v
  | [], _, _, q, hq => by simp at hq
  | p :: ps, v, h, q, hq => by
    rw [fndP] at h
    split at h
    · simp at h
    · rcases List.mem_cons.1 hq with rfl | hq
      · assumption
      · exact fnd_no h q hq

theorem fnd_app : ∀ (a b : List Pv) (v : Int), fndP (a ++ b) v = if (fndP a v).2 = true then fndP a v else fndP b v
  | [], b, v => by simp [fndP]
  | p :: a, b, v => by
    by_cases h : p.1 = v
    · simp [fndP, h]
    · have e1 : fndP (p :: (a ++ b)) v = fndP (a ++ b) v := by rw [fndP, if_neg h]
      have e2 : fndP (p :: a) v = fndP a v := by rw [fndP, if_neg h]
      rw [List.cons_append, e1, e2]
      exact fnd_app a b v

theorem fnd_ins {ps : List Pv} {p : Pv} {f : Int} (h : p.1 ≠ f) : fndP (adIn ps p) f = fndP ps f := by
  unfold adIn insAt
  conv => rhs; rw [← List.take_append_drop (behind ps p.1) ps]
  rw [fnd_app, fnd_app, fndP, if_neg h]

theorem fnd_ins' {ps : List Pv} {p : Pv} (h : (fndP ps p.1).2 = false) : fndP (adIn ps p) p.1 = (p.2, true) := by
  unfold adIn insAt
  have h1 : ¬ (fndP (ps.take (behind ps p.1)) p.1).2 = true := by
    intro h2
    have h3 := fnd_app (ps.take (behind ps p.1)) (ps.drop (behind ps p.1)) p.1
    rw [List.take_append_drop, if_pos h2] at h3
    rw [h3] at h
    rw [h] at h2; simp at h2
  rw [fnd_app, if_neg h1, fndP, if_pos rfl]

theorem Asc.cons {p : Pv} {ps : List Pv} (h : Asc (p :: ps)) : (∀ q ∈ ps, p.1 < q.1) ∧ Asc ps := List.pairwise_cons.1 h

theorem lo_spec {l : List Int} {v : Int} : ∀ (ps : List Pv) (a : Int), Asc ps → (∀ q ∈ ps, Fits l q.1 q.2) → (∀ q ∈ ps, q.1 ≠ v) → (0 ≤ a ∧ a ≤ l.length ∧ (∀ i (h : i < l.length), (i : Int) < a → l[i] < v) ∧ ∀ q ∈ ps, a ≤ q.2) →
    (0 ≤ loP ps v a ∧ loP ps v a ≤ l.length ∧ (∀ i (h : i < l.length), (i : Int) < loP ps v a → l[i] < v)) ∧ a ≤ loP ps v a ∧ ∀ q ∈ ps, q.1 < v → q.2 ≤ loP ps v a
  | [], a, _, _, _, h => ⟨⟨h.1, h.2.1, h.2.2.1⟩, Int.le_refl _, by simp⟩
  | p :: ps, a, hs, hf, hn, h => by
    obtain ⟨s1, s2⟩ := hs.cons
    have hp := hf p (by simp)
    have hpn := hn p (by simp)
    rw [loP]
    by_cases hc : p.1 ≤ v
    · rw [if_pos hc]
      obtain ⟨g1, g2, g3⟩ := lo_spec ps p.2 s2 (fun q hq => hf q (by simp [hq])) (fun q hq => hn q (by simp [hq]))
        ⟨hp.1, hp.2.1, fun i hi hlt => by have := (hp.2.2 i hi).2 hlt; omega, fun q hq => fits_mono hp (hf q (by simp [hq])) (by have := s1 q hq; omega)⟩
      refine ⟨g1, by have := h.2.2.2 p (by simp); omega, fun q hq hv => ?_⟩
      rcases List.mem_cons.1 hq with rfl | hq
      · exact g2
      · exact g3 q hq hv
    · rw [if_neg hc]
      obtain ⟨g1, g2, g3⟩ := lo_spec ps a s2 (fun q hq => hf q (by simp [hq])) (fun q hq => hn q (by simp [hq]))
        ⟨h.1, h.2.1, h.2.2.1, fun q hq => h.2.2.2 q (by simp [hq])⟩
      refine ⟨g1, g2, fun q hq hv => ?_⟩
      rcases List.mem_cons.1 hq with rfl | hq
      · omega
      · exact g3 q hq hv

theorem hi_spec {l : List Int} {v : Int} : ∀ (ps : List Pv), Asc ps → (∀ q ∈ ps, Fits l q.1 q.2) → (∀ q ∈ ps, q.1 ≠ v) →
    (0 ≤ hiP ps v l.length ∧ hiP ps v l.length ≤ l.length ∧ (∀ i (h : i < l.length), hiP ps v l.length ≤ (i : Int) → v ≤ l[i])) ∧ ∀ q ∈ ps, v < q.1 → hiP ps v l.length ≤ q.2
  | [], _, _, _ => ⟨⟨by simp [hiP], by simp [hiP], fun i h hle => by simp [hiP] at hle; omega⟩, by simp⟩
  | p :: ps, hs, hf, hn => by
    obtain ⟨s1, s2⟩ := hs.cons
    have hp := hf p (by simp)
    have hpn := hn p (by simp)
    rw [hiP]
    by_cases hc : v ≤ p.1
    · rw [if_pos hc]
      refine ⟨⟨hp.1, hp.2.1, fun i hi hle => ?_⟩, fun q hq hv => ?_⟩
      · have := hp.2.2 i hi
        by_cases h2 : l[i] < p.1
        · have := this.1 h2; omega
        · omega
      · rcases List.mem_cons.1 hq with rfl | hq
        · exact Int.le_refl _
        · exact fits_mono hp (hf q (by simp [hq])) (by have := s1 q hq; omega)
    · rw [if_neg hc]
      obtain ⟨g1, g2⟩ := hi_spec ps s2 (fun q hq => hf q (by simp [hq])) (fun q hq => hn q (by simp [hq]))
      refine ⟨g1, fun q hq hv => ?_⟩
      rcases List.mem_cons.1 hq with rfl | hq
      · omega
      · exact g2 q hq hv

theorem rowsOk_nodup {r : List Int} : RowsOk r ↔ (∀ x ∈ r, 0 ≤ x ∧ x ≤ 999) ∧ r.Nodup := by
  constructor
  · intro h
    refine ⟨fun x hx => ?_, List.pairwise_iff_getElem.2 fun i j hi hj hij => (h j hj).2.2 i hij⟩
    obtain ⟨i, hi, rfl⟩ := List.getElem_of_mem hx
    exact ⟨(h i hi).1, (h i hi).2.1⟩
  · rintro ⟨h1, h2⟩ i hi
    have h3 := h1 _ (List.getElem_mem hi)
    exact ⟨h3.1, h3.2, fun k hk => List.pairwise_iff_getElem.1 h2 k i (by omega) hi hk⟩

theorem areVals_perm {l m : List Int} (h : m.Perm l) : areVals m = areVals l := by
  unfold areVals
  rw [h.length_eq, h.all_eq]

/-- What a division does to a column that is divided. -/
structure Divided (l r : List Int) (ps : List Pv) (v : Int) (l' r' : List Int) (a b at' : Nat) : Prop where
  can : canSwap l r (crPt l r ps v).1 = true
  left : l' = swaps l (crPt l r ps v).1
  right : r' = swaps r (crPt l r ps v).1
  lo : (pieceP l r ps v).1 = a
  hi : (pieceP l r ps v).2 = b
  pl : (crPt l r ps v).2 = at'
  le : a ≤ at' ∧ at' ≤ b ∧ b ≤ l.length
  out : ∀ k, k < a ∨ b ≤ k → l'.getD k 0 = l.getD k 0 ∧ r'.getD k 0 = r.getD k 0
  ok : isCk l' r' (adIn ps (v, (at' : Int))) = true

theorem crack_divided {l r : List Int} {ps : List Pv} {v : Int} (h : crDiv l r ps v = true) :
    ∃ a b at' : Nat, Divided l r ps v (swaps l (crPt l r ps v).1) (swaps r (crPt l r ps v).1) a b at' := by
  unfold crDiv crOk at h
  simp only [Bool.and_eq_true, decide_eq_true_eq, Bool.not_eq_true'] at h
  obtain ⟨⟨hck, hv1, hv2⟩, hnf⟩ := h
  obtain ⟨c1, c2, c3, c4⟩ := isCk_parts hck
  obtain ⟨asc, fit⟩ := pvsOk_asc.1 c4
  have hne := fnd_no hnf
  obtain ⟨⟨l1, l2, l3⟩, -, l4⟩ := lo_spec ps 0 asc (fun q hq => (fit q hq).2.2) hne ⟨Int.le_refl _, by omega, fun i hi h => by omega, fun q hq => (fit q hq).2.2.1⟩
  obtain ⟨⟨g1, g2, g3⟩, g4⟩ := hi_spec (v := v) ps asc (fun q hq => (fit q hq).2.2) hne
  have hpc : pieceP l r ps v = (loP ps v 0, hiP ps v l.length) := by unfold pieceP; rw [if_pos ⟨hck, hv1, hv2⟩]
  obtain ⟨a, ha⟩ : ∃ a : Nat, loP ps v 0 = a := ⟨(loP ps v 0).toNat, by omega⟩
  obtain ⟨b, hb⟩ : ∃ b : Nat, hiP ps v l.length = b := ⟨(hiP ps v l.length).toNat, by omega⟩
  rw [ha] at l1 l2 l3 l4
  rw [hb] at g1 g2 g3 g4
  have hab : a ≤ b := by
    by_cases hc : a ≤ b
    · exact hc
    · have h1 := l3 b (by omega) (by omega)
      have h2 := g3 b (by omega) (by omega)
      omega
  have hpt : crPt l r ps v = ((part l v (b - a) a b).1, ((part l v (b - a) a b).2 : Int)) := by
    unfold crPt partP
    rw [hpc, ha, hb]
    simp only
    rw [if_pos (by omega)]
    simp only [Int.toNat_natCast]
    rw [show ((b : Int) - (a : Int)).toNat = b - a by omega]
  obtain ⟨n1, n2, n3, n4⟩ := part_nums l v (b - a) a b
  have hdiv := part_div v (b - a) a b l (Nat.le_refl _) (by omega)
  rw [hpt]
  simp only
  obtain ⟨sw, hsw⟩ : ∃ s, s = (part l v (b - a) a b).1 := ⟨_, rfl⟩
  obtain ⟨t, ht⟩ : ∃ s, s = (part l v (b - a) a b).2 := ⟨_, rfl⟩
  rw [← hsw, ← ht] at hpt hdiv
  rw [← hsw] at n1 n2 ⊢
  rw [← ht] at n3 n4
  have hall : sw.all (swOk l.length) = true := by
    rw [List.all_eq_true]
    intro q hq
    have := n1 q hq
    unfold swOk
    simp only [Bool.and_eq_true, decide_eq_true_eq]
    omega
  have hpl := swaps_perm sw l hall
  have hpr := swaps_perm sw r (by rw [c2]; exact hall)
  have houtl := swaps_out sw l a b (by omega) n1
  have hinl := swaps_in sw l a b (by omega) n1
  have hgl : ∀ i (hi : i < (swaps l sw).length), (swaps l sw)[i] = (swaps l sw).getD i 0 := fun i hi => by simp [List.getD_eq_getElem?_getD, List.getElem?_eq_getElem hi]
  have hg0 : ∀ i (hi : i < l.length), l[i] = l.getD i 0 := fun i hi => by simp [List.getD_eq_getElem?_getD, List.getElem?_eq_getElem hi]
  have hll := swaps_length l sw
  have fitv : Fits (swaps l sw) v t := by
    refine ⟨by omega, by omega, fun i hi => ?_⟩
    rw [hgl i hi]
    by_cases hi1 : i < a
    · rw [houtl i (.inl hi1), ← hg0 i (by omega)]
      exact ⟨fun _ => by omega, fun _ => l3 i (by omega) (by omega)⟩
    · by_cases hi2 : b ≤ i
      · rw [houtl i (.inr hi2), ← hg0 i (by omega)]
        have := g3 i (by omega) (by omega)
        exact ⟨fun h => by omega, fun h => by omega⟩
      · have := hdiv i (by omega) (by omega)
        rw [this]
        omega
  have fitq : ∀ q ∈ ps, Fits (swaps l sw) q.1 q.2 := by
    intro q hq
    obtain ⟨-, -, f1, f2, f3⟩ := fit q hq
    refine ⟨f1, by omega, fun i hi => ?_⟩
    rw [hgl i hi]
    by_cases hi1 : i < a ∨ b ≤ i
    · rw [houtl i hi1, ← hg0 i (by omega)]
      exact f3 i (by omega)
    · obtain ⟨k', k1, k2, k3⟩ := hinl i (by omega) (by omega)
      rw [k3, ← hg0 k' (by omega), f3 k' (by omega)]
      by_cases hqv : q.1 < v
      · have := l4 q hq hqv
        constructor <;> intro _ <;> omega
      · have := g4 q hq (by have := hne q hq; omega)
        constructor <;> intro _ <;> omega
  refine ⟨a, b, t, ⟨?_, by rw [hpt], by rw [hpt], by rw [hpc]; exact ha, by rw [hpc]; exact hb, by rw [hpt], ⟨by omega, by omega, by omega⟩, fun k hk => ⟨houtl k hk, ?_⟩, ?_⟩⟩
  · rw [hpt]
    unfold canSwap
    simp only [c2, decide_true, hall, Bool.and_self]
  · exact swaps_out sw r a b (by omega) n1 k hk
  · unfold isCk
    rw [areVals_perm hpl, c1]
    have r1 : RowsOk (swaps r sw) := by
      obtain ⟨q1, q2⟩ := rowsOk_nodup.1 c3
      exact rowsOk_nodup.2 ⟨fun x hx => q1 x (hpr.mem_iff.1 hx), hpr.nodup_iff.2 q2⟩
    have r2 : PvsOk (swaps l sw) (adIn ps (v, (t : Int))) := by
      refine pvsOk_asc.2 ⟨?_, ?_⟩
      · unfold adIn insAt Asc
        rw [List.pairwise_append, List.pairwise_cons]
        have d1 : ∀ x ∈ ps.take (behind ps v), x.1 < v := by
          intro x hx
          obtain ⟨k, hk, rfl⟩ := List.getElem_of_mem hx
          rw [List.length_take] at hk
          rw [List.getElem_take]
          have h1 := behind_before ps v k (by omega) (by omega)
          have h2 := hne _ (List.getElem_mem (show k < ps.length by omega))
          omega
        have d2 : ∀ x ∈ ps.drop (behind ps v), v < x.1 := by
          intro x hx
          obtain ⟨k, hk, rfl⟩ := List.getElem_of_mem hx
          rw [List.length_drop] at hk
          rw [List.getElem_drop]
          have h1 := behind_at ps v (by omega)
          cases k with
          | zero => exact h1
          | succ k =>
            have := List.pairwise_iff_getElem.1 asc (behind ps v) (behind ps v + (k + 1)) (by omega) (by omega) (by omega)
            omega
        refine ⟨asc.sublist (List.take_sublist _ _), ⟨fun x hx => d2 x hx, asc.sublist (List.drop_sublist _ _)⟩, fun x hx y hy => ?_⟩
        rcases List.mem_cons.1 hy with rfl | hy
        · exact d1 x hx
        · have := d1 x hx; have := d2 y hy; omega
      · intro q hq
        unfold adIn insAt at hq
        rcases List.mem_append.1 hq with hq | hq
        · have hq := List.mem_of_mem_take hq
          exact ⟨(fit q hq).1, (fit q hq).2.1, fitq q hq⟩
        · rcases List.mem_cons.1 hq with rfl | hq
          · exact ⟨by show -1001 < v; omega, hv2, fitv⟩
          · have hq := List.mem_of_mem_drop hq
            exact ⟨(fit q hq).1, (fit q hq).2.1, fitq q hq⟩
    rw [rowsOk_iff.2 r1, pvsOk_iff.2 r2, swaps_length, swaps_length, c2]
    simp

end Go.Proofs.Ytfldnjkojdnjcaa

/- Sorted lists of integers: the one that a list has, and what an insertion sort keeps (promise 4). -/
namespace Go.Proofs.Ytfldnjkojdnjcaa
set_option linter.unusedSimpArgs false
set_option linter.unusedVariables false

/-- The numbers in ascending order. -/
def sortL (l : List Int) : List Int := l.mergeSort fun x y => decide (x ≤ y)

theorem sortL_perm (l : List Int) : (sortL l).Perm l := List.mergeSort_perm _ _
theorem sortL_length (l : List Int) : (sortL l).length = l.length := (sortL_perm l).length_eq
theorem sortL_mem {l : List Int} {x : Int} : x ∈ sortL l ↔ x ∈ l := (sortL_perm l).mem_iff
theorem sortL_asc (l : List Int) : (sortL l).Pairwise (· ≤ ·) := by
  have h := List.pairwise_mergeSort (le := fun (x y : Int) => decide (x ≤ y)) (by intro a b c; simp; omega) (by intro a b; simp; omega) l
  exact h.imp (by intro a b h; simpa using h)
theorem sortL_eq {l m : List Int} (hp : m.Perm l) (hs : m.Pairwise (· ≤ ·)) : m = sortL l :=
  List.Perm.eq_of_pairwise (le := (· ≤ ·)) (fun a b _ _ h1 h2 => Int.le_antisymm h1 h2) hs (sortL_asc l) (hp.trans (sortL_perm l).symm)
theorem sortL_of_perm {l m : List Int} (hp : m.Perm l) : sortL m = sortL l := sortL_eq ((sortL_perm m).trans hp) (sortL_asc m)
theorem sortL_nil : sortL [] = [] := by simp [sortL]

/-- The first i are in order. -/
def SrtO (l : List Int) (i : Nat) (m : List Int) : Prop := ∃ S D, m = S ++ D ∧ (S.length = i ∨ m = []) ∧ S.Pairwise (· ≤ ·) ∧ m.Perm l

/-- The element at k is on its way down; without it the first i + 1 are in order. -/
def SrtI (l : List Int) (i k : Nat) (m : List Int) : Prop := ∃ A x B C, m = A ++ x :: (B ++ C) ∧ A.length = k ∧ A.length + B.length = i ∧ (A ++ B).Pairwise (· ≤ ·) ∧ (∀ b ∈ B, x ≤ b) ∧ m.Perm l

theorem SrtO.first (l : List Int) : SrtO l 1 l := by
  rcases l with _ | ⟨x, D⟩
  · exact ⟨[], [], rfl, .inr rfl, by simp, .refl _⟩
  · exact ⟨[x], D, rfl, .inl rfl, by simp, .refl _⟩

theorem SrtO.start {l m : List Int} {i : Nat} (h : SrtO l i m) (hi : i < m.length) : SrtI l i i m := by
  obtain ⟨S, D, rfl, h1, h2, h3⟩ := h
  have hS : S.length = i := by
    rcases h1 with h | h
    · exact h
    · rw [h] at hi; simp at hi
  rcases D with _ | ⟨x, D⟩
  · simp at hi; omega
  · exact ⟨S, x, [], D, by simp, hS, by simpa using hS, by simpa using h2, by simp, h3⟩

theorem SrtO.fin {l m : List Int} {i : Nat} (h : SrtO l i m) (hi : m.length ≤ i) : m = sortL l := by
  obtain ⟨S, D, rfl, h1, h2, h3⟩ := h
  have hD : D = [] := by
    rcases h1 with h | h
    · simp at hi
      exact List.eq_nil_of_length_eq_zero (by omega)
    · exact (List.append_eq_nil_iff.1 h).2
  subst hD
  simp only [List.append_nil] at h3 ⊢
  exact sortL_eq h3 h2

theorem last_split {A : List Int} {k : Nat} (h : A.length = k + 1) : ∃ A' y, A = A' ++ [y] ∧ A'.length = k := by
  rcases List.eq_nil_or_concat A with h0 | ⟨A', y, h0⟩
  · rw [h0] at h; simp at h
  · exact ⟨A', y, by rw [h0, List.concat_eq_append], by rw [h0] at h; simpa using h⟩

theorem SrtI.step {l m : List Int} {i k : Nat} (h : SrtI l i (k + 1) m) (hgt : m.getD (k + 1) 0 < m.getD k 0) : SrtI l i k (swapAt m k (k + 1)) := by
  obtain ⟨A, x, B, C, rfl, h1, h2, h3, h4, h5⟩ := h
  obtain ⟨A', y, rfl, hA⟩ := last_split h1
  subst hA
  have e1 : (A' ++ [y] ++ x :: (B ++ C)).getD A'.length 0 = y := by simp [List.getD]
  have e2 : (A' ++ [y] ++ x :: (B ++ C)).getD (A'.length + 1) 0 = x := by simp [List.getD, List.getElem?_append_right]
  rw [e1, e2] at hgt
  have e3 : swapAt (A' ++ [y] ++ x :: (B ++ C)) A'.length (A'.length + 1) = A' ++ x :: (y :: B ++ C) := by
    unfold swapAt
    rw [e1, e2]
    simp [List.set_append]
  rw [e3]
  refine ⟨A', x, y :: B, C, rfl, rfl, by simp at h2 ⊢; omega, by simpa using h3, ?_, ?_⟩
  · intro b hb
    rcases List.mem_cons.1 hb with rfl | hb
    · omega
    · exact h4 b hb
  · refine List.Perm.trans ?_ h5
    simp only [List.append_assoc, List.singleton_append, List.cons_append]
    exact (List.Perm.swap y x (B ++ C)).append_left A'

theorem SrtI.done {l m : List Int} {i k : Nat} (h : SrtI l i k m) (he : k = 0 ∨ ∃ j, k = j + 1 ∧ m.getD j 0 ≤ m.getD k 0) : SrtO l (i + 1) m := by
  obtain ⟨A, x, B, C, rfl, h1, h2, h3, h4, h5⟩ := h
  refine ⟨A ++ x :: B, C, by simp, .inl (by simp; omega), ?_, h5⟩
  rw [List.pairwise_append] at h3 ⊢
  obtain ⟨q1, q2, q3⟩ := h3
  refine ⟨q1, List.pairwise_cons.2 ⟨h4, q2⟩, ?_⟩
  intro a ha b hb
  rcases List.mem_cons.1 hb with rfl | hb
  · rcases he with he | ⟨j, he, hle⟩
    · have : A = [] := List.eq_nil_of_length_eq_zero (by omega)
      subst this; simp at ha
    · subst he
      obtain ⟨A', y, rfl, hA⟩ := last_split h1
      subst hA
      have e1 : (A' ++ [y] ++ b :: (B ++ C)).getD A'.length 0 = y := by simp [List.getD]
      have e2 : (A' ++ [y] ++ b :: (B ++ C)).getD (A'.length + 1) 0 = b := by simp [List.getD, List.getElem?_append_right]
      rw [e1, e2] at hle
      rcases List.mem_append.1 ha with ha | ha
      · rw [List.pairwise_append] at q1
        have := q1.2.2 a ha y (by simp)
        omega
      · rw [List.mem_singleton.1 ha]; exact hle
  · exact q3 a ha b hb

theorem SrtI.len {l m : List Int} {i k : Nat} (h : SrtI l i k m) : m.length = l.length ∧ k < m.length ∧ k ≤ i := by
  obtain ⟨A, x, B, C, rfl, h1, h2, -, -, h5⟩ := h
  exact ⟨h5.length_eq, by simp; omega, by omega⟩

end Go.Proofs.Ytfldnjkojdnjcaa

/- SortInts of the reference: an insertion sort of a copy (promise 4). -/
namespace Go.Proofs.Ytfldnjkojdnjcaa
open Go.RowKit Go.ChangeShapes
set_option linter.unusedSimpArgs false
set_option linter.unusedVariables false
set_option maxRecDepth 100000

/-- Integers of the call's own are returned; nothing that was there has turned. -/
def RetOw (w : World) (l : List Int) (e : Ending) (w' : World) : Prop := ∃ v hi, e = .returned v ∧ Ow w' v l w.heap.size hi ∧ Below w.heap.size w w'

theorem Ow.at {w : World} {a : Option Addr} {n c lo hi : Nat} {l : List Int} (h : Ow w (.slice a n c) l lo hi) (h0 : 0 < l.length) :
    ∃ g, a = some ⟨g, 0, none⟩ ∧ ∀ j (hj : j < l.length), w.cell? ⟨g, j, none⟩ = some (.int .i64 l[j]) := by
  obtain ⟨⟨F, ⟨o, rfl⟩, hF⟩, hle, htop⟩ := h
  have o2 := o
  rcases o2.2 with ⟨e, hn⟩ | ⟨g, cap', cur, e, -⟩
  · exfalso; omega
  · injection e with e1 e2 e3
    subst e1
    exact ⟨g, rfl, fun j hj => (o.cell j hj).1⟩

set_option maxHeartbeats 4000000 in
theorem sSort_any (a : Option Addr) (c : Nat) (l : List Int) (w : World) (B : Nat) (h : Ints w B (.slice a l.length c) l) (hn : a = none → c = 0) (hB : B ≤ w.heap.size) (hl : l.length ≤ 1048576) :
    Calls Try.prog 24 #[.slice a l.length c] w (RetOw w (sortL l)) := by
  have H := hide (h.below (below1 w (.cells #[] 3)) hB)
  obtain ⟨i0, hi0, hi1, hi2, hi3⟩ := info_parts infoI
  have HI := hide (And.intro hi0 (And.intro hi1 (And.intro hi2 hi3)))
  have hz : a = none → l.length = 0 ∧ c = 0 := fun e => ⟨by subst e; exact ints_nil h, hn e⟩
  have HZ := hide hz
  clear h hi0 hi1 hi2 hi3 hn hz
  obtain ⟨L, hL⟩ : ∃ L, L = l.length := ⟨_, rfl⟩
  have HL := hide hL
  have hLb : L ≤ 1048576 := by rw [hL]; exact hl
  rw [← hL]
  clear hL
  go_enter Try.func24, Try.ntmps24
  go_wp2_with (first | (at_builtin; refine append_list (w.alloc (.cells #[] 3)) rfl _ _ 24 rfl w.heap.size 3 i0 _ 1 8 Try.underlying24 HI.out.1 HI.out.2.1 HI.out.2.2.1 HI.out.2.2.2 (by first | rfl | decide) (by decide) (by decide) _ rfl (World.ownsRow_made w #[] 0 (Nat.le_refl _) (by unfold maxLen; omega) rfl) w.heap.size rfl a L c (intVs l) rfl (fun h => by rw [HL.out]; exact HZ.out h) (by rw [HL.out]; simp [intVs]) (by have := ints_news H.out; exact this) (intVs_cell l) (by rw [HL.out]; exact hl) (by simp) ?_; intro v' W' hown hgr) | fail)
  have hb := hide (((Below.refl w.heap.size w).alloc (Nat.le_refl _) (.cells #[] 3)).grown hgr (by simp) (by intro k hk; cases hk; exact Nat.le_refl _))
  have O := Ow.of (lo := w.heap.size) (w' := W') (l := l) (v := v') (by unfold Is; rw [← HL.out]; exact hown) hb.out.size
  obtain ⟨a', c', rfl⟩ := O.form
  rw [← HL.out] at O
  have O := hide O
  obtain ⟨hi, hhi⟩ : ∃ hi, hi = W'.heap.size := ⟨_, rfl⟩
  rw [← hhi] at O
  rw [← HL.out]
  clear hown hgr hhi 
  go_loopw [4] (fun x wr => ∃ (i : Nat) (m : List Int), 1 ≤ i ∧ x = .int .i64 i ∧ i ≤ L + 1 ∧ Hid (SrtO l i m) ∧ Hid (Ow wr (.slice a' L c') m w.heap.size hi) ∧ Hid (Below w.heap.size w wr)) (fun x _ => L + 1 - (intOf x).toNat)
  case atStart => exact ⟨1, l, Nat.le_refl _, rfl, by omega, SrtO.first l, O.out, hb.out⟩
  case round =>
    obtain ⟨i, m, hi1, rfl, hiL, hm, o, hb'⟩ := hrel
    clear O hb
    have hlen := hide (show m.length = L by
      obtain ⟨S, D, rfl, -, -, h5⟩ := hm.out
      rw [HL.out]; exact h5.length_eq)
    by_cases hlt : i < L
    · have HII := hide (hm.out.start (by rw [hlen.out]; exact hlt))
      clear hm
      go_wp2_with fail
      go_loopw [5] (fun x wi => ∃ (k : Nat) (n : List Int), x = .int .i64 k ∧ Hid (SrtI l i k n) ∧ Hid (Ow wi (.slice a' L c') n w.heap.size hi) ∧ Hid (Below w.heap.size w wi)) (fun x _ => (intOf x).toNat)
      case atStart => exact ⟨i, m, rfl, HII.out, o.out, hb'.out⟩
      case round =>
        obtain ⟨k, n, rfl, hI, o2, hb2⟩ := hrel
        clear o hb' HII
        have hll := hI.out.len
        have HN := hide (show n.length = L by rw [hll.1, HL.out])
        have hkn : k < L := by have := hll.2.1; rw [HN.out] at this; exact this
        have hki := hll.2.2
        clear hll
        by_cases hk0 : k = 0
        · subst hk0
          have hd := hide (hI.out.done (.inl rfl))
          clear hI
          go_wp2_with fail
          go_quiet (fail)
          go_wp2_with fail
          go_roundw
          case rel => exact ⟨i + 1, n, by omega, by go_num, by omega, hd.out, o2.out.below (below_drewN (Below.refl _ _) _), below_drewN hb2.out _⟩
          case measure => simp [intOf]; omega
        · obtain ⟨k, rfl⟩ : ∃ k', k = k' + 1 := ⟨k - 1, by omega⟩
          have t1 : decide (0 < k + 1) = true := by simp
          obtain ⟨g, rfl, hc⟩ := o2.out.at (by rw [HN.out]; omega)
          have e0 := hc k (by rw [HN.out]; omega)
          have e1 := hc (k + 1) (by rw [HN.out]; exact hkn)
          obtain ⟨y, hy⟩ : ∃ y, y = n.getD k 0 := ⟨_, rfl⟩
          obtain ⟨x, hx⟩ : ∃ x, x = n.getD (k + 1) 0 := ⟨_, rfl⟩
          rw [show n[k]'(by rw [HN.out]; omega) = y by rw [hy]; simp [List.getD, show k < n.length by rw [HN.out]; omega]] at e0
          rw [show n[k + 1]'(by rw [HN.out]; exact hkn) = x by rw [hx]; simp [List.getD, show k + 1 < n.length by rw [HN.out]; exact hkn]] at e1
          have HY := hide hy
          have HX := hide hx
          clear hc hy hx hk0
          by_cases hgt : x < y
          · have t2 : decide (x < y) = true := by simp [hgt]
            have hs := hide (hI.out.step (by rw [← HX.out, ← HY.out]; exact hgt))
            clear hI hgt
            go_wp2_with fail
            go_quiet (fail)
            go_wp2_with fail
            go_at_call 53
            refine (sSwap_ow _ n w.heap.size hi k (k + 1) _ (o2.out.below (below_drewN (Below.refl _ _) _)) (by rw [HN.out]; omega) (by rw [HN.out]; exact hkn)).mono ?_
            rintro e w3 ⟨⟨u, rfl⟩, o3, sg⟩
            have O3 := hide o3
            have B3 := hide ((below_drewN hb2.out _).trans sg.below)
            clear o3 sg
            go_wp2_with fail
            go_roundw
            case rel => exact ⟨k, swapAt n k (k + 1), by go_num, hs.out, O3.out, B3.out⟩
            case measure => simp [intOf]
          · have t2 : decide (x < y) = false := by simp [hgt]
            have hd := hide (hI.out.done (.inr ⟨k, rfl, by rw [← HX.out, ← HY.out]; omega⟩))
            clear hI hgt
            go_wp2_with fail
            go_quiet (fail)
            go_wp2_with fail
            go_roundw
            case rel => exact ⟨i + 1, n, by omega, by go_num, by omega, hd.out, o2.out.below (below_drewN (Below.refl _ _) _), below_drewN hb2.out _⟩
            case measure => simp [intOf]; omega
    · have hf := hide (hm.out.fin (by rw [hlen.out]; omega))
      rw [hf.out] at o
      go_wp2_with fail
      go_ret
      exact ⟨_, _, rfl, o.out, hb'.out⟩

end Go.Proofs.Ytfldnjkojdnjcaa

/- slices.Sort of integers of the call's own, by the library's contract; SortInts of the program (promise 4). -/
namespace Go.Proofs
open Go.Shelf
shelf_lay Lays.n189 Nm 189 at Try as Try.laysSort
end Go.Proofs

namespace Go.Proofs.Ytfldnjkojdnjcaa
open Go.RowKit Go.ChangeShapes Go.Sort
set_option linter.unusedSimpArgs false
set_option linter.unusedVariables false
set_option maxRecDepth 100000

/-- What slices.Sort leaves of a row of the call's own. -/
def RetSo (w : World) (lo : Nat) (v : Value) (l : List Int) (e : Ending) (w' : World) : Prop := e = .returned (.tuple #[]) ∧ Is w' lo 3 v (sortL l) ∧ w.grownBy w' v.ownBlock

theorem sort_is (v : Value) (l : List Int) (lo : Nat) (w : World) (h : Is w lo 3 v l) (hl : l.length ≤ 1048576) :
    Calls Try.prog 52 #[v] w (RetSo w lo v l) := by
  rcases h.2 with ⟨rfl, hn⟩ | ⟨g, cap, cur, rfl, hg, hb, h1, h2, h3, h4⟩
  · have hl0 : l = [] := List.eq_nil_of_length_eq_zero hn
    subst hl0
    refine (Any.slices_Sort_int_none Try.laysSort none 0 w).mono ?_
    rintro e w' ⟨rfl, rfl⟩
    exact ⟨rfl, by rw [sortL_nil]; exact h, World.grownBy.refl _ _⟩
  · have hH : Holds (Value.int .i64) w g 0 l.toArray := holds_of_blockI hb (by simpa [intVs] using h4)
    have hlt := (Array.getElem?_eq_some_iff.1 hb).1
    have hc := calls_of_every_depth fun D => AnyS.slices_Sort_int_in Try.laysSort D g 0 cap l w hH hlt (by omega)
    refine Calls.mono hc ?_
    rintro e w' ⟨rfl, n, os, rfl⟩
    refine ⟨rfl, ?_, grownBy_sortedI _⟩
    have := ownsRow_sortedI (os := os) (n := n) (base := lo) (ss := l) (ts := sortL l) (sortL_length l) hg hb h1 h2 h3
    unfold Is
    rw [sortL_length]
    exact this

theorem iSort_any (a : Option Addr) (c : Nat) (l : List Int) (w : World) (B : Nat) (h : Ints w B (.slice a l.length c) l) (hn : a = none → c = 0) (hB : B ≤ w.heap.size) (hl : l.length ≤ 1048576) :
    Calls Try.prog 23 #[.slice a l.length c] w (RetIs 3 w (sortL l)) := by
  have HC := hide (clone_i a c l w B h hn hB hl)
  have HS := hide (fun (v : Value) (w1 : World) (O : Is w1 w.heap.size 3 v l) => sort_is v l w.heap.size w1 O hl)
  clear h hn
  obtain ⟨m, hm⟩ : ∃ m, m = sortL l := ⟨_, rfl⟩
  rw [← hm]
  have HM := hide hm
  clear hm
  go_enter Try.func23, Try.ntmps23
  go_wp2_with fail
  go_at_call 51
  refine HC.out.mono ?_
  rintro e w1 ⟨v, rfl, O, hb⟩
  go_wp2_with fail
  go_at_call 52
  refine (HS.out v w1 O).mono ?_
  rintro e w2 ⟨rfl, O2, hg⟩
  rw [← HM.out] at O2
  have hB2 := hb.grown hg hb.size (by
    intro k hk
    rcases O.2 with ⟨e, _⟩ | ⟨g, cap, cur, e, h1, _⟩
    · rw [e] at hk; simp [Value.ownBlock] at hk
    · rw [e] at hk; simp [Value.ownBlock] at hk; omega)
  go_wp2_with fail
  go_ret
  exact ⟨_, rfl, O2, hB2⟩

end Go.Proofs.Ytfldnjkojdnjcaa

/- RowsBetween: of the reference and of the program (promise 4). Written by gen_rbw.py. -/
namespace Go.Proofs.Ytfldnjkojdnjcaa
open Go.RowKit Go.ChangeShapes
set_option linter.unusedSimpArgs false
set_option linter.unusedVariables false
set_option maxRecDepth 100000

/-- Whether the rows between two places can be had, and which they are. -/
noncomputable def rbOk (l r : List Int) (ps : List Pv) (f t : Int) : Bool := isCk l r ps && decide (0 ≤ f ∧ f ≤ t ∧ t ≤ (r.length : Int))
noncomputable def rbL (l r : List Int) (ps : List Pv) (f t : Int) : List Int := if rbOk l r ps f t = true then sortL ((r.drop f.toNat).take (t.toNat - f.toNat)) else []

theorem rbL_no {l r : List Int} {ps : List Pv} {f t : Int} (h : ¬(isCk l r ps = true ∧ 0 ≤ f ∧ f ≤ t ∧ t ≤ (r.length : Int))) : rbL l r ps f t = [] := by
  unfold rbL rbOk
  rw [if_neg]
  intro h2
  simp only [Bool.and_eq_true, decide_eq_true_eq] at h2
  exact h ⟨h2.1, h2.2⟩

theorem rbL_yes {l r : List Int} {ps : List Pv} {m n : Nat} (h : isCk l r ps = true) (h1 : m ≤ n) (h2 : n ≤ r.length) : rbL l r ps (m : Int) (n : Int) = sortL ((r.drop m).take (n - m)) := by
  unfold rbL rbOk
  rw [if_pos (by simp [h]; omega)]
  simp

theorem rbL_mem {l r : List Int} {ps : List Pv} {f t : Int} : ∀ x ∈ rbL l r ps f t, x ∈ r := by
  intro x hx
  unfold rbL at hx
  split at hx
  · exact List.mem_of_mem_drop (List.mem_of_mem_take (sortL_mem.1 hx))
  · simp at hx

theorem rbL_le (l r : List Int) (ps : List Pv) (f t : Int) : (rbL l r ps f t).length ≤ r.length := by
  unfold rbL
  split
  · rw [sortL_length]; simp; omega
  · simp

/-- A part of integers that are only read. -/
theorem Ints.part {w : World} {B : Nat} {a : Option Addr} {c : Nat} {r : List Int} (h : Ints w B (.slice a r.length c) r) (m n : Nat) (hm : m ≤ n) (hn : n ≤ r.length) (a' : Option Addr) (c' : Nat) (ha' : m < n → a' = Option.map (fun x => x.add m) a) :
    Ints w B (.slice a' ((r.drop m).take (n - m)).length c') ((r.drop m).take (n - m)) := by
  obtain ⟨a0, c0, e, h1, h2, h3⟩ := h
  injection e with e1 e2 e3
  subst e1 e3
  have hl : ((r.drop m).take (n - m)).length = n - m := by simp; omega
  refine ⟨a', c', rfl, by rw [hl]; omega, fun x hx => h2 x (List.mem_of_mem_drop (List.mem_of_mem_take hx)), fun j hj => ?_⟩
  rw [hl] at hj
  obtain ⟨b1, o1, rfl, e2, e3⟩ := h3 (m + j) (by omega)
  refine ⟨b1, o1 + m, by rw [ha' (by omega)]; simp [addr_add], e2, ?_⟩
  rw [Nat.add_assoc]
  simpa using e3

theorem Ow.wide {w : World} {v : Value} {l : List Int} {lo hi lo' : Nat} (h : Ow w v l lo hi) (hl : lo' ≤ lo) : Ow w v l lo' hi := by
  obtain ⟨⟨F, h, hF⟩, h1, h2⟩ := h
  exact ⟨⟨F, h, fun b hb => ⟨Nat.le_trans hl (hF b hb).1, (hF b hb).2⟩⟩, Nat.le_trans hl h1, h2⟩

/-- Sorting a part of what is only read. -/
theorem sSubSort_any {a : Option Addr} {c : Nat} {r : List Int} {W : World} {B : Nat} (h : Ints W B (.slice a r.length c) r) (hB : B ≤ W.heap.size) (hr : r.length ≤ 1048576) (m n : Nat) (hm : m ≤ n) (hn : n ≤ r.length) (a' : Option Addr) (c' : Nat) (ha' : m < n → a' = Option.map (fun x => x.add m) a) (hz : a' = none → c' = 0) :
    Calls Try.prog 24 #[.slice a' (n - m) c'] W (RetOw W (sortL ((r.drop m).take (n - m)))) := by
  have hl : ((r.drop m).take (n - m)).length = n - m := by simp; omega
  have := sSort_any a' c' _ W B (h.part m n hm hn a' c' ha') hz hB (by rw [hl]; omega)
  rwa [hl] at this

theorem iSubSort_any {a : Option Addr} {c : Nat} {r : List Int} {W : World} {B : Nat} (h : Ints W B (.slice a r.length c) r) (hB : B ≤ W.heap.size) (hr : r.length ≤ 1048576) (m n : Nat) (hm : m ≤ n) (hn : n ≤ r.length) (a' : Option Addr) (c' : Nat) (ha' : m < n → a' = Option.map (fun x => x.add m) a) (hz : a' = none → c' = 0) :
    Calls Try.prog 23 #[.slice a' (n - m) c'] W (RetOw W (sortL ((r.drop m).take (n - m)))) := by
  have hl : ((r.drop m).take (n - m)).length = n - m := by simp; omega
  have := iSort_any a' c' _ W B (h.part m n hm hn a' c' ha') hz hB (by rw [hl]; omega)
  rw [hl] at this
  refine this.mono ?_
  rintro e w' ⟨v, rfl, O, hb⟩
  exact ⟨v, _, rfl, Ow.of O hb.size, hb⟩


end Go.Proofs.Ytfldnjkojdnjcaa

/- What dividing does to a column: it stays valid and the same pairs, the value is a pivot then, and once more does nothing; dividing at both ends of a range (promises 3 and 4). -/
namespace Go.Proofs.Ytfldnjkojdnjcaa
open Go.RowKit Go.ChangeShapes
set_option linter.unusedSimpArgs false
set_option linter.unusedVariables false
set_option maxRecDepth 100000

theorem crack_eqs {l r : List Int} {ps : List Pv} {v : Int} (h : crDiv l r ps v = true) :
    ∃ a b t : Nat, Divided l r ps v (crL l r ps v) (crR l r ps v) a b t ∧ crP l r ps v = adIn ps (v, (t : Int)) ∧ crS l r ps v = (crPt l r ps v).1 := by
  obtain ⟨a, b, t, d⟩ := crack_divided h
  have e1 : crL l r ps v = swaps l (crPt l r ps v).1 := by unfold crL apL; rw [if_pos h, if_pos d.can]
  have e2 : crR l r ps v = swaps r (crPt l r ps v).1 := by unfold crR apR; rw [if_pos h, if_pos d.can]
  refine ⟨a, b, t, by rw [e1, e2]; exact d, ?_, by unfold crS; rw [if_pos h]⟩
  unfold crP adP
  rw [if_pos h]
  have e3 : apL l r (crPt l r ps v).1 = swaps l (crPt l r ps v).1 := by unfold apL; rw [if_pos d.can]
  have e4 : apR l r (crPt l r ps v).1 = swaps r (crPt l r ps v).1 := by unfold apR; rw [if_pos d.can]
  rw [e3, e4, d.pl, if_pos (show adOk _ _ ps (v, (t : Int)) = true from d.ok)]

theorem crack_none {l r : List Int} {ps : List Pv} {v : Int} (h : ¬ crDiv l r ps v = true) : crL l r ps v = l ∧ crR l r ps v = r ∧ crP l r ps v = ps ∧ crS l r ps v = [] := by
  unfold crL crR crP crS
  rw [if_neg h, if_neg h, if_neg h, if_neg h]
  exact ⟨rfl, rfl, rfl, rfl⟩

theorem crack_isCk {l r : List Int} {ps : List Pv} {v : Int} (h : isCk l r ps = true) : isCk (crL l r ps v) (crR l r ps v) (crP l r ps v) = true := by
  by_cases hd : crDiv l r ps v = true
  · obtain ⟨a, b, t, d, e, -⟩ := crack_eqs hd
    rw [e]; exact d.ok
  · obtain ⟨e1, e2, e3, -⟩ := crack_none hd
    rw [e1, e2, e3]; exact h

theorem crack_found {l r : List Int} {ps : List Pv} {v : Int} (h : crOk l r ps v = true) : (fndP (crP l r ps v) v).2 = true := by
  by_cases hd : crDiv l r ps v = true
  · obtain ⟨a, b, t, d, e, -⟩ := crack_eqs hd
    rw [e]
    have hn : (fndP ps v).2 = false := by
      unfold crDiv at hd
      simp only [Bool.and_eq_true, Bool.not_eq_true'] at hd
      exact hd.2
    have := fnd_ins' (p := (v, (t : Int))) hn
    simp only at this
    rw [this]
  · rw [(crack_none hd).2.2.1]
    unfold crDiv at hd
    rw [h] at hd
    simpa using hd

theorem crack_keeps {l r : List Int} {ps : List Pv} {v f : Int} (h : (fndP ps f).2 = true) : fndP (crP l r ps v) f = fndP ps f := by
  by_cases hd : crDiv l r ps v = true
  · obtain ⟨a, b, t, d, e, -⟩ := crack_eqs hd
    rw [e]
    refine fnd_ins (p := (v, (t : Int))) ?_
    intro hv
    simp only at hv
    subst hv
    unfold crDiv at hd
    rw [h] at hd
    simp at hd
  · rw [(crack_none hd).2.2.1]

theorem crack_zip (l r : List Int) (ps : List Pv) (v : Int) : ((crL l r ps v).zip (crR l r ps v)).Perm (l.zip r) := by
  unfold crL crR
  by_cases hd : crDiv l r ps v = true
  · rw [if_pos hd, if_pos hd]; exact zip_ap _ _ _
  · rw [if_neg hd, if_neg hd]

theorem crack_again {l r : List Int} {ps : List Pv} {v : Int} (h : crOk l r ps v = true) : ¬ crDiv (crL l r ps v) (crR l r ps v) (crP l r ps v) v = true := by
  unfold crDiv
  rw [crack_found h]
  simp

/-- There are at most as many pivots as there are bounds. -/
theorem pvs_len {l : List Int} {ps : List Pv} (h : PvsOk l ps) : ps.length ≤ 2001 := by
  have low : ∀ k (hk : k < ps.length), -1000 + (k : Int) ≤ ps[k].1 := by
    intro k
    induction k with
    | zero =>
      intro hk
      have := (h 0 hk).1
      simp only [prevV, if_true] at this
      omega
    | succ k ih =>
      intro hk
      have h1 := (h (k + 1) hk).1
      rw [prevV_succ ps k (by omega)] at h1
      have := ih (by omega)
      omega
  by_cases hc : ps.length ≤ 2001
  · exact hc
  · have h1 := low 2001 (by omega)
    have h2 := (h 2001 (by omega)).2.1
    omega

/-- Both ends of a range: whether the column is divided there. -/
noncomputable def seOk (l r : List Int) (ps : List Pv) (f t : Int) : Bool := isCk l r ps && isR f t
noncomputable def seL (l r : List Int) (ps : List Pv) (f t : Int) : List Int := if seOk l r ps f t = true then crL (crL l r ps f) (crR l r ps f) (crP l r ps f) t else l
noncomputable def seR (l r : List Int) (ps : List Pv) (f t : Int) : List Int := if seOk l r ps f t = true then crR (crL l r ps f) (crR l r ps f) (crP l r ps f) t else r
noncomputable def seP (l r : List Int) (ps : List Pv) (f t : Int) : List Pv := if seOk l r ps f t = true then crP (crL l r ps f) (crR l r ps f) (crP l r ps f) t else ps
noncomputable def seF (l r : List Int) (ps : List Pv) (f t : Int) : Int := if seOk l r ps f t = true then (fndP (seP l r ps f t) f).1 else 0
noncomputable def seT (l r : List Int) (ps : List Pv) (f t : Int) : Int := if seOk l r ps f t = true then (fndP (seP l r ps f t) t).1 else 0
noncomputable def seN (l r : List Int) (ps : List Pv) (f t : Int) : Nat := if seOk l r ps f t = true then (crS l r ps f).length + (crS (crL l r ps f) (crR l r ps f) (crP l r ps f) t).length else 0

theorem crOk_of {l r : List Int} {ps : List Pv} {v : Int} (h : isCk l r ps = true) (h1 : -1000 ≤ v) (h2 : v ≤ 1000) : crOk l r ps v = true := by
  unfold crOk
  rw [h, decide_eq_true ⟨h1, h2⟩]; rfl

/-- The second division leaves the pivot of the first one at its place. -/
theorem se_first {l r : List Int} {ps : List Pv} {f t : Int} (h : seOk l r ps f t = true) : (fndP (crP l r ps f) f).1 = seF l r ps f t := by
  unfold seF seP
  rw [if_pos h, if_pos h]
  unfold seOk at h
  simp only [Bool.and_eq_true] at h
  have hr := isR_true h.2
  rw [crack_keeps (crack_found (crOk_of h.1 hr.1 hr.2.1))]

theorem se_isCk {l r : List Int} {ps : List Pv} {f t : Int} (h : isCk l r ps = true) : isCk (seL l r ps f t) (seR l r ps f t) (seP l r ps f t) = true := by
  unfold seL seR seP
  by_cases hs : seOk l r ps f t = true
  · rw [if_pos hs, if_pos hs, if_pos hs]; exact crack_isCk (crack_isCk h)
  · rw [if_neg hs, if_neg hs, if_neg hs]; exact h

theorem se_zip (l r : List Int) (ps : List Pv) (f t : Int) : ((seL l r ps f t).zip (seR l r ps f t)).Perm (l.zip r) := by
  unfold seL seR
  by_cases hs : seOk l r ps f t = true
  · rw [if_pos hs, if_pos hs]; exact (crack_zip _ _ _ _).trans (crack_zip _ _ _ _)
  · rw [if_neg hs, if_neg hs]

/-- What a column of the call's own needs. -/
def Wf (l r : List Int) (ps : List Pv) (n : Nat) : Prop := l.length ≤ 1048576 ∧ r.length ≤ 1048576 ∧ ps.length ≤ n ∧ (∀ x ∈ l, I64 x) ∧ (∀ x ∈ r, I64 x) ∧ ∀ p ∈ ps, I64 p.1 ∧ I64 p.2

theorem crack_Wf {l r : List Int} {ps : List Pv} {v : Int} {n : Nat} (h : Wf l r ps n) (hn : n ≤ 1048576) (hv : I64 v) : Wf (crL l r ps v) (crR l r ps v) (crP l r ps v) (n + 1) ∧ (crS l r ps v).length ≤ 1048576 ∧ ∀ p ∈ crS l r ps v, I64 p.1 ∧ I64 p.2 := by
  obtain ⟨h1, h2, h3, h4, h5, h6⟩ := h
  obtain ⟨q1, q2, q3, q4, q5, q6, q7, q8⟩ := crack_wf l r ps v h1 h2 (by omega) h4 h5 h6 hv
  refine ⟨⟨q1, q2, ?_, q4, q5, q6⟩, q7, q8⟩
  by_cases hd : crDiv l r ps v = true
  · obtain ⟨a, b, t, d, e, -⟩ := crack_eqs hd
    rw [e, adIn_length]; omega
  · rw [(crack_none hd).2.2.1]; omega

theorem wf_ck {l r : List Int} {ps : List Pv} {n : Nat} (h : Wf l r ps n) (hc : isCk l r ps = true) : Wf l r ps 2001 :=
  ⟨h.1, h.2.1, pvs_len (isCk_parts hc).2.2.2, h.2.2.2⟩

theorem se_Wf {l r : List Int} {ps : List Pv} {f t : Int} (h : Wf l r ps 1048576) (hf : I64 f) (ht : I64 t) : Wf (seL l r ps f t) (seR l r ps f t) (seP l r ps f t) 1048576 ∧ seN l r ps f t ≤ 2097152 := by
  unfold seL seR seP seN
  by_cases hs : seOk l r ps f t = true
  · rw [if_pos hs, if_pos hs, if_pos hs, if_pos hs]
    have hck : isCk l r ps = true := by unfold seOk at hs; simp only [Bool.and_eq_true] at hs; exact hs.1
    obtain ⟨w1, s1, -⟩ := crack_Wf (wf_ck h hck) (by omega) hf
    obtain ⟨w2, s2, -⟩ := crack_Wf w1 (by omega) ht
    exact ⟨⟨w2.1, w2.2.1, by have := w2.2.2.1; omega, w2.2.2.2⟩, by omega⟩
  · rw [if_neg hs, if_neg hs, if_neg hs, if_neg hs]
    exact ⟨h, by omega⟩

theorem fnd_wf {ps : List Pv} {v : Int} (h : ∀ p ∈ ps, I64 p.1 ∧ I64 p.2) : I64 (fndP ps v).1 := by
  induction ps with
  | nil => exact ⟨by simp [fndP], by simp [fndP]⟩
  | cons p ps ih =>
    rw [fndP]
    split
    · exact (h p (by simp)).2
    · exact ih fun q hq => h q (by simp [hq])

/-- A column of the call's own and three numbers are returned; nothing that was there has turned. -/
def RetSel (w : World) (l r : List Int) (ps : List Pv) (f t n : Int) (e : Ending) (w' : World) : Prop := ∃ x y z lo hi n1 h1 n2 h2 n3 h3, e = .returned (.tuple #[.agg #[x, y, z], .int .i64 f, .int .i64 t, .int .i64 n]) ∧ w.heap.size ≤ lo ∧ hi ≤ w'.heap.size ∧ OC w' x y z l r ps lo hi n1 h1 n2 h2 n3 h3 ∧ Below w.heap.size w w'

end Go.Proofs.Ytfldnjkojdnjcaa
