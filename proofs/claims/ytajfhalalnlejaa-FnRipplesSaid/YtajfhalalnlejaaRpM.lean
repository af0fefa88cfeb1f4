/- Inserting and deleting, in numbers: the hole, the moves, what is left (promise 7); any program. -/
import Derived.Test.YtajfhalalnlejaaCkO
import Derived.Test.YtajfhalalnlejaaIt
namespace Go.Proofs.Ytajfhalalnlejaa
open Go.RowKit Go.ChangeShapes
set_option linter.unusedSimpArgs false
set_option linter.unusedVariables false
set_option maxRecDepth 100000

/-- A column with a hole at place h, behind n moves. -/
structure RP where
  l : List Int
  r : List Int
  ps : List Pv
  h : Nat
  n : Nat

/-- The element at place a moves into the hole, if that is another place; the hole lies there then. -/
def RP.fill (S : RP) (a : Nat) : RP := if a = S.h then S else ⟨S.l.set S.h (S.l.getD a 0), S.r.set S.h (S.r.getD a 0), S.ps, a, S.n + 1⟩
/-- Pivot k has the place p. -/
def RP.at (S : RP) (k : Nat) (p : Int) : RP := ⟨S.l, S.r, S.ps.set k ((S.ps.getD k (0, 0)).1, p), S.h, S.n⟩
/-- The place of pivot k. -/
def RP.pl (S : RP) (k : Nat) : Int := (S.ps.getD k (0, 0)).2
def RP.up (S : RP) (k : Nat) : RP := (S.fill (S.pl k).toNat).at k (S.pl k + 1)
def RP.down (S : RP) (k : Nat) : RP := (S.fill (S.pl k - 1).toNat).at k (S.pl k - 1)
/-- The pivots above v among the first k, from the last one on. -/
def RP.ups (v : Int) : Nat → RP → RP
  | 0, S => S
  | k + 1, S => if v < (S.ps.getD k (0, 0)).1 then RP.ups v k (S.up k) else S
/-- The pivots above v from number i on, m of them at most, in order. -/
def RP.downs (v : Int) : Nat → Nat → RP → RP
  | 0, _, S => S
  | m + 1, i, S => RP.downs v m (i + 1) (if v < (S.ps.getD i (0, 0)).1 then S.down i else S)
def RP.put (S : RP) (v row : Int) : RP := ⟨S.l.set S.h v, S.r.set S.h row, S.ps, S.h, S.n⟩

theorem RP.fill_ps (S : RP) (a : Nat) : (S.fill a).ps = S.ps := by unfold RP.fill; split <;> rfl
theorem RP.fill_h (S : RP) (a : Nat) : (S.fill a).h = a := by
  unfold RP.fill
  split
  · rename_i h; exact h.symm
  · rfl

/-- Two columns that differ in the hole alone. -/
def RP.Like (S T : RP) : Prop := S.ps = T.ps ∧ S.h = T.h ∧ S.n = T.n ∧ (∀ z, S.l.set S.h z = T.l.set T.h z) ∧ ∀ z, S.r.set S.h z = T.r.set T.h z

theorem set_like {l m : List Int} {h a : Nat} (e : ∀ z, l.set h z = m.set h z) (ha : a ≠ h) : l.getD a 0 = m.getD a 0 := by
  have := congrArg (fun x => x.getD a 0) (e 0)
  simp only [List.getD_eq_getElem?_getD, List.getElem?_set_ne (Ne.symm ha)] at this
  simpa [List.getD_eq_getElem?_getD] using this

theorem RP.Like.fill {S T : RP} (h : S.Like T) (a : Nat) : (S.fill a).Like (T.fill a) := by
  obtain ⟨h1, h2, h3, h4, h5⟩ := h
  unfold RP.fill
  rw [← h2] at h4 h5 ⊢
  by_cases ha : a = S.h
  · rw [if_pos ha, if_pos ha]
    exact ⟨h1, h2, h3, by rw [← h2]; exact h4, by rw [← h2]; exact h5⟩
  · rw [if_neg ha, if_neg ha]
    have e1 := set_like h4 ha
    have e2 := set_like h5 ha
    exact ⟨h1, rfl, by show S.n + 1 = T.n + 1; rw [h3], fun z => by show (S.l.set S.h _).set a z = (T.l.set S.h _).set a z; rw [e1, h4], fun z => by show (S.r.set S.h _).set a z = (T.r.set S.h _).set a z; rw [e2, h5]⟩

theorem RP.Like.at {S T : RP} (h : S.Like T) (k : Nat) (p : Int) : (S.at k p).Like (T.at k p) := by
  obtain ⟨h1, h2, h3, h4, h5⟩ := h
  exact ⟨by show S.ps.set _ _ = T.ps.set _ _; rw [h1], h2, h3, h4, h5⟩

theorem RP.Like.ups {v : Int} : ∀ (k : Nat) {S T : RP}, S.Like T → (RP.ups v k S).Like (RP.ups v k T)
  | 0, _, _, h => h
  | k + 1, S, T, h => by
    unfold RP.ups
    rw [← h.1]
    split
    · refine RP.Like.ups k ?_
      have e : S.pl k = T.pl k := by unfold RP.pl; rw [h.1]
      unfold RP.up
      rw [e]
      exact (h.fill _).at _ _
    · exact h

theorem RP.Like.put {S T : RP} (h : S.Like T) (v row : Int) : S.put v row = T.put v row := by
  obtain ⟨h1, h2, h3, h4, h5⟩ := h
  unfold RP.put
  rw [h4, h5, h1, h2, h3]

/-- What a column with a hole needs: m places, the hole among them; the pivots before number k lie among them. -/
structure RP.Ok (S : RP) (m c k : Nat) : Prop where
  l : S.l.length = m
  r : S.r.length = m
  p : S.ps.length = c
  h : S.h < m
  hm : m ≤ 1048577
  pl : ∀ j, j < k → j < c → 0 ≤ S.pl j ∧ S.pl j < m
  wl : ∀ x ∈ S.l, I64 x
  wr : ∀ x ∈ S.r, I64 x
  wp : ∀ q ∈ S.ps, I64 q.1 ∧ I64 q.2

theorem mem_getD {l : List Int} {a : Nat} (h : a < l.length) : l.getD a 0 ∈ l := by
  rw [List.getD_eq_getElem?_getD, List.getElem?_eq_getElem h]; exact List.getElem_mem h
theorem mem_getDP {l : List Pv} {a : Nat} (h : a < l.length) : l.getD a (0, 0) ∈ l := by
  rw [List.getD_eq_getElem?_getD, List.getElem?_eq_getElem h]; exact List.getElem_mem h

theorem RP.Ok.fill {S : RP} {m c k : Nat} (h : S.Ok m c k) {a : Nat} (ha : a < m) : (S.fill a).Ok m c k := by
  obtain ⟨h1, h2, h3, h4, h5, h6, h7, h8, h9⟩ := h
  unfold RP.fill
  split
  · exact ⟨h1, h2, h3, h4, h5, h6, h7, h8, h9⟩
  · refine ⟨by simp [h1], by simp [h2], h3, ha, h5, h6, fun x hx => ?_, fun x hx => ?_, h9⟩
    · rcases List.mem_or_eq_of_mem_set hx with hx | rfl
      · exact h7 x hx
      · exact h7 _ (mem_getD (by omega))
    · rcases List.mem_or_eq_of_mem_set hx with hx | rfl
      · exact h8 x hx
      · exact h8 _ (mem_getD (by omega))

theorem RP.Ok.at {S : RP} {m c k j : Nat} (h : S.Ok m c k) (p : Int) (hp : I64 p) (hj : j < c) (hk : k ≤ j) : (S.at j p).Ok m c k := by
  obtain ⟨h1, h2, h3, h4, h5, h6, h7, h8, h9⟩ := h
  refine ⟨h1, h2, by simp [RP.at, h3], h4, h5, fun i hi hc => ?_, h7, h8, fun x hx => ?_⟩
  · have := h6 i hi hc
    unfold RP.pl RP.at at *
    simp only [List.getD_eq_getElem?_getD]
    rw [List.getElem?_set_ne (by omega)]
    simpa [List.getD_eq_getElem?_getD] using this
  · unfold RP.at at hx
    rcases List.mem_or_eq_of_mem_set hx with hx | rfl
    · exact h9 x hx
    · exact ⟨(h9 _ (mem_getDP (by omega))).1, hp⟩

theorem RP.Ok.less {S : RP} {m c k j : Nat} (h : S.Ok m c k) (hj : j ≤ k) : S.Ok m c j :=
  ⟨h.l, h.r, h.p, h.h, h.hm, fun i hi hc => h.pl i (by omega) hc, h.wl, h.wr, h.wp⟩

theorem RP.Ok.up {S : RP} {m c k : Nat} (h : S.Ok m c (k + 1)) (hk : k < c) : (S.up k).Ok m c k := by
  have hq := h.pl k (by omega) hk
  have hm := h.hm
  have e : (S.fill (S.pl k).toNat).Ok m c k := (h.less (by omega)).fill (by omega)
  exact e.at _ ⟨by omega, by omega⟩ hk (Nat.le_refl _)

theorem RP.Ok.put {S : RP} {m c k : Nat} (h : S.Ok m c k) {v row : Int} (hv : I64 v) (hr : I64 row) : (S.put v row).Ok m c k := by
  obtain ⟨h1, h2, h3, h4, h5, h6, h7, h8, h9⟩ := h
  refine ⟨by simp [RP.put, h1], by simp [RP.put, h2], h3, h4, h5, h6, fun x hx => ?_, fun x hx => ?_, h9⟩
  · unfold RP.put at hx
    rcases List.mem_or_eq_of_mem_set hx with hx | rfl
    · exact h7 x hx
    · exact hv
  · unfold RP.put at hx
    rcases List.mem_or_eq_of_mem_set hx with hx | rfl
    · exact h8 x hx
    · exact hr

theorem RP.ups_zero (v : Int) (S : RP) : RP.ups v 0 S = S := rfl
theorem RP.ups_yes {v : Int} {k : Nat} {S : RP} (h : v < (S.ps.getD k (0, 0)).1) : RP.ups v (k + 1) S = RP.ups v k (S.up k) := by rw [RP.ups, if_pos h]
theorem RP.ups_no {v : Int} {k : Nat} {S : RP} (h : ¬ v < (S.ps.getD k (0, 0)).1) : RP.ups v (k + 1) S = S := by rw [RP.ups, if_neg h]

theorem RP.Ok.ups {v : Int} {m c : Nat} : ∀ (k : Nat) {S : RP}, S.Ok m c k → k ≤ c → ∃ j, (RP.ups v k S).Ok m c j
  | 0, S, h, _ => ⟨0, h⟩
  | k + 1, S, h, hk => by
    unfold RP.ups
    split
    · exact RP.Ok.ups k (h.up (by omega)) (by omega)
    · exact ⟨_, h⟩

theorem RP.fill_n {S : RP} (a : Nat) : (S.fill a).n ≤ S.n + 1 := by
  unfold RP.fill
  split
  · exact Nat.le_succ _
  · exact Nat.le_refl _
theorem RP.ups_n {v : Int} : ∀ (k : Nat) (S : RP), (RP.ups v k S).n ≤ S.n + k
  | 0, S => Nat.le_refl _
  | k + 1, S => by
    unfold RP.ups
    split
    · have h1 := RP.ups_n (v := v) k (S.up k)
      have h2 : (S.up k).n ≤ S.n + 1 := S.fill_n _
      omega
    · omega

/-- The places of the pivots of a valid column. -/
theorem pvs_place {l : List Int} {ps : List Pv} (h : PvsOk l ps) (j : Nat) (hj : j < ps.length) : 0 ≤ (ps.getD j (0, 0)).2 ∧ (ps.getD j (0, 0)).2 ≤ l.length := by
  have := (h j hj).2.2
  rw [List.getD_eq_getElem?_getD, List.getElem?_eq_getElem hj]
  exact ⟨this.1, this.2.1⟩

/-- Inserting: may it be done? -/
noncomputable def riOk (l r : List Int) (ps : List Pv) (v row : Int) : Bool := isCk l r ps && (isIt v row && (decide (rowAt r row < 0) && decide (l.length < 64)))
noncomputable def riF (l r : List Int) (ps : List Pv) (v row : Int) : RP := (RP.ups v ps.length ⟨l ++ [0], r ++ [0], ps, l.length, 0⟩).put v row
noncomputable def riL (l r : List Int) (ps : List Pv) (v row : Int) : List Int := if riOk l r ps v row = true then (riF l r ps v row).l else l
noncomputable def riR (l r : List Int) (ps : List Pv) (v row : Int) : List Int := if riOk l r ps v row = true then (riF l r ps v row).r else r
noncomputable def riP (l r : List Int) (ps : List Pv) (v row : Int) : List Pv := if riOk l r ps v row = true then (riF l r ps v row).ps else ps
noncomputable def riN (l r : List Int) (ps : List Pv) (v row : Int) : Nat := if riOk l r ps v row = true then (riF l r ps v row).n else 0

theorem ri_any (l r : List Int) (ps : List Pv) (v row a b : Int) (hlr : r.length = l.length) : (RP.ups v ps.length ⟨l ++ [a], r ++ [b], ps, l.length, 0⟩).put v row = riF l r ps v row := by
  unfold riF
  have h : RP.Like ⟨l ++ [a], r ++ [b], ps, l.length, 0⟩ ⟨l ++ [0], r ++ [0], ps, l.length, 0⟩ := by
    refine ⟨rfl, rfl, rfl, fun z => ?_, fun z => ?_⟩
    · show (l ++ [a]).set l.length z = (l ++ [0]).set l.length z
      rw [List.set_append_right _ _ (Nat.le_refl _), List.set_append_right _ _ (Nat.le_refl _)]
      simp
    · show (r ++ [b]).set l.length z = (r ++ [0]).set l.length z
      rw [← hlr, List.set_append_right _ _ (Nat.le_refl _), List.set_append_right _ _ (Nat.le_refl _)]
      simp
  exact (RP.Like.ups _ h).put v row

theorem ri_start {l r : List Int} {ps : List Pv} {a b : Int} (h : isCk l r ps = true) (hl : l.length ≤ 1048576) (wl : ∀ x ∈ l, I64 x) (wr : ∀ x ∈ r, I64 x) (wp : ∀ p ∈ ps, I64 p.1 ∧ I64 p.2) (ha : I64 a) (hb : I64 b) :
    (⟨l ++ [a], r ++ [b], ps, l.length, 0⟩ : RP).Ok (l.length + 1) ps.length ps.length := by
  obtain ⟨c1, c2, c3, c4⟩ := isCk_parts h
  refine ⟨by simp, by simp [c2], rfl, by simp, by omega, fun j hj _ => ?_, fun x hx => ?_, fun x hx => ?_, wp⟩
  · have := pvs_place c4 j hj
    exact ⟨this.1, by show (ps.getD j (0, 0)).2 < _; omega⟩
  · rcases List.mem_append.1 hx with hx | hx
    · exact wl x hx
    · simp at hx; subst hx; exact ha
  · rcases List.mem_append.1 hx with hx | hx
    · exact wr x hx
    · simp at hx; subst hx; exact hb

/-- What a column with a hole needs while an element of value v is taken out: pivots above v from number i on lie behind a place. -/
structure RP.OkD (S : RP) (v : Int) (m c i : Nat) : Prop where
  l : S.l.length = m
  r : S.r.length = m
  p : S.ps.length = c
  h : S.h < m
  hm : m ≤ 1048577
  pl : ∀ j, i ≤ j → j < c → v < (S.ps.getD j (0, 0)).1 → 1 ≤ S.pl j ∧ S.pl j ≤ m
  wl : ∀ x ∈ S.l, I64 x
  wr : ∀ x ∈ S.r, I64 x
  wp : ∀ q ∈ S.ps, I64 q.1 ∧ I64 q.2

theorem RP.OkD.ok {S : RP} {v : Int} {m c i : Nat} (h : S.OkD v m c i) : S.Ok m c 0 := ⟨h.l, h.r, h.p, h.h, h.hm, fun j hj => by omega, h.wl, h.wr, h.wp⟩

theorem RP.OkD.next {S : RP} {v : Int} {m c i : Nat} (h : S.OkD v m c i) : S.OkD v m c (i + 1) := ⟨h.l, h.r, h.p, h.h, h.hm, fun j hj hc => h.pl j (by omega) hc, h.wl, h.wr, h.wp⟩

theorem RP.OkD.down {S : RP} {v : Int} {m c i : Nat} (h : S.OkD v m c i) (hi : i < c) (hv : v < (S.ps.getD i (0, 0)).1) : (S.down i).OkD v m c (i + 1) := by
  have hp := h.pl i (Nat.le_refl _) hi hv
  have hm := h.hm
  have e := (h.ok.fill (a := (S.pl i - 1).toNat) (by omega))
  have e2 := e.at (j := i) (S.pl i - 1) ⟨by omega, by omega⟩ hi (Nat.zero_le _)
  refine ⟨e2.l, e2.r, e2.p, e2.h, h.hm, fun j hj hc => ?_, e2.wl, e2.wr, e2.wp⟩
  have q := h.pl j (by omega) hc
  unfold RP.down RP.at RP.pl at *
  simp only [RP.fill_ps, List.getD_eq_getElem?_getD] at *
  rw [List.getElem?_set_ne (by omega)]
  exact q

theorem RP.downs_zero (v : Int) (i : Nat) (S : RP) : RP.downs v 0 i S = S := rfl
theorem RP.downs_yes {v : Int} {m i : Nat} {S : RP} (h : v < (S.ps.getD i (0, 0)).1) : RP.downs v (m + 1) i S = RP.downs v m (i + 1) (S.down i) := by rw [RP.downs, if_pos h]
theorem RP.downs_no {v : Int} {m i : Nat} {S : RP} (h : ¬ v < (S.ps.getD i (0, 0)).1) : RP.downs v (m + 1) i S = RP.downs v m (i + 1) S := by rw [RP.downs, if_neg h]

theorem RP.OkD.downs {v : Int} {m c : Nat} : ∀ (k i : Nat) {S : RP}, S.OkD v m c i → i + k ≤ c → (RP.downs v k i S).OkD v m c (i + k)
  | 0, i, S, h, _ => h
  | k + 1, i, S, h, hk => by
    unfold RP.downs
    have e : i + (k + 1) = i + 1 + k := by omega
    rw [e]
    split
    · rename_i hv
      exact RP.OkD.downs k (i + 1) (h.down (by omega) hv) (by omega)
    · exact RP.OkD.downs k (i + 1) h.next (by omega)

theorem RP.downs_n {v : Int} : ∀ (k i : Nat) (S : RP), (RP.downs v k i S).n ≤ S.n + k
  | 0, i, S => Nat.le_refl _
  | k + 1, i, S => by
    unfold RP.downs
    split
    · have h1 := RP.downs_n (v := v) k (i + 1) (S.down i)
      have h2 : (S.down i).n ≤ S.n + 1 := S.fill_n _
      omega
    · have h1 := RP.downs_n (v := v) k (i + 1) S
      omega

/-- Taking out: may it be done, what is left. -/
noncomputable def rdOk (l r : List Int) (ps : List Pv) (row : Int) : Bool := isCk l r ps && decide (0 ≤ rowAt r row)
noncomputable def rdF (l r : List Int) (ps : List Pv) (row : Int) : RP := (RP.downs (l.getD (idxL r row) 0) ps.length 0 ⟨l, r, ps, idxL r row, 0⟩).fill (l.length - 1)
noncomputable def rdL (l r : List Int) (ps : List Pv) (row : Int) : List Int := if rdOk l r ps row = true then (rdF l r ps row).l.take (l.length - 1) else l
noncomputable def rdR (l r : List Int) (ps : List Pv) (row : Int) : List Int := if rdOk l r ps row = true then (rdF l r ps row).r.take (l.length - 1) else r
noncomputable def rdP (l r : List Int) (ps : List Pv) (row : Int) : List Pv := if rdOk l r ps row = true then (rdF l r ps row).ps else ps
noncomputable def rdN (l r : List Int) (ps : List Pv) (row : Int) : Nat := if rdOk l r ps row = true then (rdF l r ps row).n else 0

theorem rowAt_yes {r : List Int} {v : Int} (h : 0 ≤ rowAt r v) : rowAt r v = (idxL r v : Int) ∧ idxL r v < r.length := by
  unfold rowAt at h ⊢
  by_cases c : idxL r v < r.length
  · rw [if_pos c]; exact ⟨rfl, c⟩
  · rw [if_neg c] at h; omega

theorem rd_start {l r : List Int} {ps : List Pv} {row : Int} (h : isCk l r ps = true) (hr : 0 ≤ rowAt r row) (hl : l.length ≤ 1048576) (wl : ∀ x ∈ l, I64 x) (wr : ∀ x ∈ r, I64 x) (wp : ∀ p ∈ ps, I64 p.1 ∧ I64 p.2) :
    (⟨l, r, ps, idxL r row, 0⟩ : RP).OkD (l.getD (idxL r row) 0) l.length ps.length 0 := by
  obtain ⟨c1, c2, c3, c4⟩ := isCk_parts h
  obtain ⟨-, hx⟩ := rowAt_yes hr
  refine ⟨rfl, c2, rfl, by show idxL r row < _; omega, by omega, fun j _ hj hv => ?_, wl, wr, wp⟩
  have hk := (c4 j hj).2.2
  unfold RP.pl
  simp only [List.getD_eq_getElem?_getD, List.getElem?_eq_getElem hj, Option.getD_some] at hv ⊢
  rw [List.getElem?_eq_getElem (show idxL r row < l.length by omega), Option.getD_some] at hv
  have := (hk.2.2 _ (show idxL r row < l.length by omega)).1 hv
  exact ⟨by omega, by have := hk.2.1; omega⟩

end Go.Proofs.Ytajfhalalnlejaa
