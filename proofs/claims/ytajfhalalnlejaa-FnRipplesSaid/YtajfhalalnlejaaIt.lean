/- Items: what IsItem returns, of the reference and of the program; the laws' toItem; FindRow of both (promise 7). -/
import Derived.Test.YtajfhalalnlejaaRng2
import Derived.Test.YtajfhalalnlejaaCkL
namespace Go.Proofs.Ytajfhalalnlejaa
open Go.RowKit Go.ChangeShapes
set_option linter.unusedSimpArgs false
set_option linter.unusedVariables false
set_option maxRecDepth 100000

/-- Is an item of value v and row r valid? -/
def isIt (v r : Int) : Bool := decide (-999 ≤ v ∧ v ≤ 999 ∧ 0 ≤ r ∧ r ≤ 999)

theorem isIt_true {v r : Int} (h : isIt v r = true) : -999 ≤ v ∧ v ≤ 999 ∧ 0 ≤ r ∧ r ≤ 999 := of_decide_eq_true h
theorem isIt_yes {v r : Int} (h : -999 ≤ v ∧ v ≤ 999 ∧ 0 ≤ r ∧ r ≤ 999) : isIt v r = true := decide_eq_true h
theorem isIt_no {v r : Int} (h : ¬ (-999 ≤ v ∧ v ≤ 999 ∧ 0 ≤ r ∧ r ≤ 999)) : isIt v r = false := decide_eq_false h

/-- An item that came in as an argument of a law. -/
theorem open_it {H : Type} {enc : TypeId × Value → H} {W : World} {base : Nat} {v : Value} {d : DataW H} {p : List MemPlace} (hv : Value.okWide Try.prog W .any base 44 v) (h : DataW.Trod enc Try.prog W 0 (fun _ => true) true 44 v d p) :
    ∃ f t : Int, v = .agg #[.int .i64 f, .int .i64 t] ∧ I64 f ∧ I64 t := by
  obtain ⟨v0, v1, y0, y1, n, rfl, _, _, t0, t1⟩ := Joins.open_agg2 Try.underlying44 (by kernel_rfl) (by kernel_rfl) hv h
  obtain ⟨f, hf, _, wf⟩ := DataW.trod_int Try.underlying3 t0
  obtain ⟨t, ht, _, wt⟩ := DataW.trod_int Try.underlying3 t1
  simp at hf ht
  subst hf; subst ht
  have b0 := bounds_i64 wf
  have b1 := bounds_i64 wt
  exact ⟨f, t, rfl, ⟨by omega, by omega⟩, ⟨by omega, by omega⟩⟩

theorem toItem_any (f t : Int) (w : World) : Calls Try.prog 24 #[.agg #[.int .i64 f, .int .i64 t]] w (RetRg w f t) := by
  go_enter Try.func24, Try.ntmps24
  go_wp2
  exact bodyPost_ret (v := .agg #[.int .i64 f, .int .i64 t]) (by simp [results, Try.results24, go_sem]) rfl ⟨rfl, below3 _ _ _ _⟩

theorem sIsIt_any (f t : Int) (w : World) : Calls Try.prog 64 #[.agg #[.int .i64 f, .int .i64 t]] w (RetB1 w (isIt f t)) := by
  by_cases h : -999 ≤ f ∧ f ≤ 999
  · obtain ⟨h1, h2⟩ := h
    by_cases h3 : 0 ≤ t ∧ t ≤ 999
    · obtain ⟨h3, h4⟩ := h3
      have hv := hide (isIt_yes ⟨h1, h2, h3, h4⟩)
      go_enter Try.func64, Try.ntmps64
      go_wp2_with (go_at_call 82; refine (in_yes _ _ _ _ (by omega) (by omega)).mono ?_; rintro e wa ⟨rfl, rfl⟩)
      go_ret
      exact ⟨by rw [hv.out]; rfl, below1 _ _⟩
    · have hv := hide (isIt_no (v := f) (r := t) (by omega))
      go_enter Try.func64, Try.ntmps64
      go_wp2_with (first | (go_at_call 82; refine (in_yes _ _ _ _ (by omega) (by omega)).mono ?_; rintro e wa ⟨rfl, rfl⟩) | (go_at_call 82; refine (in_no _ _ _ _ (by omega)).mono ?_; rintro e wa ⟨rfl, rfl⟩))
      go_ret
      exact ⟨by rw [hv.out]; rfl, below1 _ _⟩
  · have hv := hide (isIt_no (v := f) (r := t) (by omega))
    go_enter Try.func64, Try.ntmps64
    go_wp2_with (go_at_call 82; refine (in_no _ _ _ _ (by omega)).mono ?_; rintro e wa ⟨rfl, rfl⟩)
    go_ret
    exact ⟨by rw [hv.out]; rfl, below1 _ _⟩

theorem iIsIt_any (f t : Int) (w : World) : Calls Try.prog 69 #[.agg #[.int .i64 f, .int .i64 t]] w (RetB1 w (isIt f t)) := by
  by_cases h1 : -999 ≤ f
  · by_cases h2 : f ≤ 999
    · by_cases h3 : 0 ≤ t
      · have b1 : decide (-999 ≤ f) = true := decide_eq_true h1
        have b2 : decide (f ≤ 999) = true := decide_eq_true h2
        have b3 : decide (0 ≤ t) = true := decide_eq_true h3
        by_cases h4 : t ≤ 999
        · have hv := hide (isIt_yes ⟨h1, h2, h3, h4⟩)
          have b4 : decide (t ≤ 999) = true := decide_eq_true h4
          go_enter Try.func69, Try.ntmps69
          go_wp2
          go_ret
          exact ⟨by rw [hv.out]; first | rfl | simp [b1, b2, b3, b4], below1 _ _⟩
        · have hv := hide (isIt_no (v := f) (r := t) (by omega))
          have b4 : decide (t ≤ 999) = false := decide_eq_false h4
          go_enter Try.func69, Try.ntmps69
          go_wp2
          go_ret
          exact ⟨by rw [hv.out]; first | rfl | simp [b1, b2, b3, b4], below1 _ _⟩
      · have hv := hide (isIt_no (v := f) (r := t) (by omega))
        have b3 : decide (0 ≤ t) = false := decide_eq_false h3
        go_enter Try.func69, Try.ntmps69
        go_wp2
        go_ret
        exact ⟨by rw [hv.out]; rfl, below1 _ _⟩
    · have hv := hide (isIt_no (v := f) (r := t) (by omega))
      have b2 : decide (f ≤ 999) = false := decide_eq_false h2
      go_enter Try.func69, Try.ntmps69
      go_wp2
      go_ret
      exact ⟨by rw [hv.out]; rfl, below1 _ _⟩
  · have hv := hide (isIt_no (v := f) (r := t) (by omega))
    have b1 : decide (-999 ≤ f) = false := decide_eq_false h1
    go_enter Try.func69, Try.ntmps69
    go_wp2
    go_ret
    exact ⟨by rw [hv.out]; rfl, below1 _ _⟩

/-- The place of the first element that is v; the list's length if there is none. -/
def idxL : List Int → Int → Nat
  | [], _ => 0
  | x :: l, v => if x = v then 0 else idxL l v + 1

theorem idxL_le (v : Int) : ∀ l : List Int, idxL l v ≤ l.length
  | [] => Nat.le_refl _
  | x :: l => by
    unfold idxL
    have := idxL_le v l
    split <;> simp <;> omega

/-- FindRow's answer. -/
def rowAt (r : List Int) (v : Int) : Int := if idxL r v < r.length then (idxL r v : Int) else -1

theorem idxL_at (v : Int) : ∀ (l : List Int), idxL l v < l.length → l.getD (idxL l v) 0 = v
  | [], h => by simp [idxL] at h
  | x :: l, h => by
    unfold idxL at h ⊢
    by_cases hx : x = v
    · rw [if_pos hx]; exact hx
    · rw [if_neg hx] at h ⊢
      simp only [List.length_cons] at h
      simpa using idxL_at v l (by omega)

theorem idxL_step (l : List Int) (v : Int) (k : Nat) (h : k + idxL (l.drop k) v = idxL l v) (hlt : k < l.length) :
    (l[k] = v → rowAt l v = k) ∧ (l[k] ≠ v → k + 1 + idxL (l.drop (k + 1)) v = idxL l v) := by
  rw [List.drop_eq_getElem_cons hlt, idxL] at h
  constructor
  · intro e
    rw [if_pos e] at h
    unfold rowAt
    rw [← h, if_pos (by omega)]
    simp
  · intro e; rw [if_neg e] at h; omega

theorem idxL_end (l : List Int) (v : Int) (h : l.length + idxL (l.drop l.length) v = idxL l v) : rowAt l v = -1 := by
  unfold rowAt
  rw [← h, if_neg (by omega)]

end Go.Proofs.Ytajfhalalnlejaa
