/- Text cut at a byte: lines, words, and what the library's Cut, SplitN do; plain lists. -/
import Derived.Test.YtgeegbbcjdlkbaaGreatDoorKit
import Derived.Lib.Join
import Derived.Lib.Split
import Derived.Lib.IndexMore
namespace Go.Proofs.YtgeegbbcjdlkbaaGreatDoor
open Go.RowKit
set_option linter.unusedSimpArgs false
set_option linter.unusedVariables false

/-- One byte more: what is done, and the part under way. -/
def cutStep (c : UInt8) (p : List (List UInt8) × List UInt8) (x : UInt8) : List (List UInt8) × List UInt8 := if x = c then (p.1 ++ [p.2], []) else (p.1, p.2 ++ [x])

def cutP (c : UInt8) (p : List (List UInt8) × List UInt8) (l : List UInt8) : List (List UInt8) × List UInt8 := l.foldl (cutStep c) p

/-- l cut at each c. -/
def cutL (c : UInt8) (l : List UInt8) : List (List UInt8) := (cutP c ([], []) l).1 ++ [(cutP c ([], []) l).2]

theorem cutP_snoc (c : UInt8) (p : List (List UInt8) × List UInt8) (l : List UInt8) (x : UInt8) : cutP c p (l ++ [x]) = cutStep c (cutP c p l) x := by simp [cutP]

theorem cutP_append (c : UInt8) (p : List (List UInt8) × List UInt8) (l m : List UInt8) : cutP c p (l ++ m) = cutP c (cutP c p l) m := by simp [cutP]

theorem cutP_free (c : UInt8) (w : List UInt8) (h : c ∉ w) : ∀ out part, cutP c (out, part) w = (out, part ++ w) := by
  induction w with
  | nil => intro out part; simp [cutP]
  | cons x w ih =>
    intro out part
    have hx : x ≠ c := fun e => h (by simp [e])
    have := ih (fun hh => h (by simp [hh])) out (part ++ [x])
    simp only [cutP, List.foldl_cons] at this ⊢
    rw [show cutStep c (out, part) x = (out, part ++ [x]) by simp [cutStep, hx], this]
    simp

theorem cutP_tail (c : UInt8) (ws : List (List UInt8)) (h : ∀ w ∈ ws, c ∉ w) : ∀ out part, (cutP c (out, part) (Lib.joinTail [c] ws)).1 ++ [(cutP c (out, part) (Lib.joinTail [c] ws)).2] = out ++ [part] ++ ws := by
  induction ws with
  | nil => intro out part; simp [Lib.joinTail, cutP]
  | cons w ws ih =>
    intro out part
    have e : Lib.joinTail [c] (w :: ws) = [c] ++ w ++ Lib.joinTail [c] ws := by simp [Lib.joinTail]
    rw [e, cutP_append, cutP_append, show cutP c (out, part) [c] = (out ++ [part], []) by simp [cutP, cutStep], cutP_free c w (h w (by simp)), ih (fun x hx => h x (by simp [hx]))]
    simp

/-- Words without c, joined by c, are found again. -/
theorem cutL_join (c : UInt8) (ws : List (List UInt8)) (h0 : ws ≠ []) (h : ∀ w ∈ ws, c ∉ w) : cutL c (Lib.join ws [c]) = ws := by
  match ws, h0 with
  | w :: ws, _ =>
    unfold cutL
    rw [Lib.join_cons, cutP_append, cutP_free c w (h w (by simp)), cutP_tail c ws (fun x hx => h x (by simp [hx]))]
    simp

/-- Lines without c, each with a c behind it. -/
theorem cutP_lines (c : UInt8) (ls : List (List UInt8)) (h : ∀ w ∈ ls, c ∉ w) : ∀ out, cutP c (out, []) (ls.map fun l => l ++ [c]).flatten = (out ++ ls, []) := by
  induction ls with
  | nil => intro out; simp [cutP]
  | cons w ls ih =>
    intro out
    rw [List.map_cons, List.flatten_cons, cutP_append, cutP_append, cutP_free c w (h w (by simp)), show ∀ o p, cutP c (o, p) [c] = (o ++ [p], []) by simp [cutP, cutStep], ih (fun x hx => h x (by simp [hx]))]
    simp

theorem cutL_lines (c : UInt8) (ls : List (List UInt8)) (h : ∀ w ∈ ls, c ∉ w) : cutL c (ls.map fun l => l ++ [c]).flatten = ls ++ [[]] := by
  unfold cutL
  rw [cutP_lines c ls h []]
  simp

/- The library's index at one byte. -/
theorem index_hit (c : UInt8) (h b : List UInt8) (hc : c ∉ h) : Lib.index (h ++ c :: b) [c] = h.length := by
  induction h with
  | nil => simp [Lib.index, List.isPrefixOf]
  | cons x h ih =>
    have hx : c ≠ x := fun e => hc (by simp [e])
    have := ih (fun hh => hc (by simp [hh]))
    simp only [List.cons_append, Lib.index]
    rw [if_neg (by simp [List.isPrefixOf, hx]), this, if_neg (by simp)]
    simp

theorem index_miss (c : UInt8) (s : List UInt8) (hc : c ∉ s) : Lib.index s [c] = -1 := by
  induction s with
  | nil => simp [Lib.index]
  | cons x s ih =>
    have hx : c ≠ x := fun e => hc (by simp [e])
    simp only [Lib.index]
    rw [if_neg (by simp [List.isPrefixOf, hx]), ih (fun hh => hc (by simp [hh]))]
    simp

theorem first_at (c : UInt8) (s : List UInt8) (h : c ∈ s) : ∃ a b, s = a ++ c :: b ∧ c ∉ a := by
  induction s with
  | nil => simp at h
  | cons x s ih =>
    by_cases hx : x = c
    · exact ⟨[], s, by simp [hx], by simp⟩
    · obtain ⟨a, b, e, ha⟩ := ih (by simpa [Ne.symm hx] using h)
      exact ⟨x :: a, b, by rw [e]; rfl, by simp [Ne.symm hx, ha]⟩

theorem cut_hit (c : UInt8) (h b : List UInt8) (hc : c ∉ h) : Lib.cut (h ++ c :: b) [c] = (h, b, true) := by
  unfold Lib.cut
  rw [index_hit c h b hc, if_pos (by omega)]
  simp

theorem cut_miss (c : UInt8) (s : List UInt8) (hc : c ∉ s) : Lib.cut s [c] = (s, [], false) := by
  unfold Lib.cut
  rw [index_miss c s hc, if_neg (by omega)]

theorem splitK_zero (c : UInt8) (s : List UInt8) : Lib.splitK [c] 0 0 s = [s] := rfl

theorem splitK_hit (c : UInt8) (k : Nat) (h b : List UInt8) (hc : c ∉ h) : Lib.splitK [c] 0 (k + 1) (h ++ c :: b) = h :: Lib.splitK [c] 0 k b := by
  rw [Lib.splitK, index_hit c h b hc, if_neg (by simp)]
  simp

theorem splitK_miss (c : UInt8) (k : Nat) (s : List UInt8) (hc : c ∉ s) : Lib.splitK [c] 0 k s = [s] := by
  cases k with
  | zero => rfl
  | succ k => rw [Lib.splitK, index_miss c s hc]; simp

/-- The parts, joined again, are the text. -/
theorem splitK_join (c : UInt8) : ∀ (k : Nat) (s : List UInt8), Lib.splitK [c] 0 k s ≠ [] ∧ Lib.join (Lib.splitK [c] 0 k s) [c] = s := by
  intro k
  induction k with
  | zero => intro s; exact ⟨by simp [splitK_zero], by rw [splitK_zero, Lib.join_one]⟩
  | succ k ih =>
    intro s
    by_cases h : c ∈ s
    · obtain ⟨a, b, rfl, ha⟩ := first_at c s h
      obtain ⟨h0, h1⟩ := ih b
      rw [splitK_hit c k a b ha]
      refine ⟨by simp, ?_⟩
      rw [Lib.join_cons]
      match hw : Lib.splitK [c] 0 k b, h0 with
      | w :: ws, _ =>
        rw [hw, Lib.join_cons] at h1
        rw [← h1]
        simp [Lib.joinTail]
    · rw [splitK_miss c _ s h]
      exact ⟨by simp, Lib.join_one _ _⟩

/-- Words without c are found again, where as many parts are asked for. -/
theorem splitK_words (c : UInt8) : ∀ (ws : List (List UInt8)) (k : Nat), ws ≠ [] → ws.length ≤ k + 1 → (∀ w ∈ ws, c ∉ w) → Lib.splitK [c] 0 k (Lib.join ws [c]) = ws := by
  intro ws
  induction ws with
  | nil => intro k h; exact absurd rfl h
  | cons w ws ih =>
    intro k _ hk hc
    cases ws with
    | nil => rw [Lib.join_one, splitK_miss c k w (hc w (by simp))]
    | cons v vs =>
      have e : Lib.join (w :: v :: vs) [c] = w ++ c :: Lib.join (v :: vs) [c] := by
        rw [Lib.join_cons, Lib.join_cons]
        simp [Lib.joinTail]
      match k, hk with
      | k + 1, hk =>
        rw [e, splitK_hit c k w _ (hc w (by simp)), ih k (by simp) (by simpa using hk) (fun x hx => hc x (by simp [hx]))]

/-- The lines of a text, each with its end; the last may lack one. -/
def linesF : Nat → List UInt8 → List (List UInt8)
  | 0, _ => []
  | f + 1, s => if s = [] then [] else if 0 ≤ Lib.indexByte s 10 then s.take ((Lib.indexByte s 10).toNat + 1) :: linesF f (s.drop ((Lib.indexByte s 10).toNat + 1)) else [s]

def linesL (s : List UInt8) : List (List UInt8) := linesF s.length s

theorem ibyte_hit (c : UInt8) (h b : List UInt8) (hc : c ∉ h) : Lib.indexByte (h ++ c :: b) c = h.length := by
  induction h with
  | nil => simp [Lib.indexByte]
  | cons x h ih =>
    have hx : x ≠ c := fun e => hc (by simp [e])
    have := ih (fun hh => hc (by simp [hh]))
    simp only [List.cons_append, Lib.indexByte]
    rw [if_neg (by simp [hx]), this, if_neg (by simp)]
    simp

theorem ibyte_miss (c : UInt8) (s : List UInt8) (hc : c ∉ s) : Lib.indexByte s c = -1 := by
  induction s with
  | nil => simp [Lib.indexByte]
  | cons x s ih =>
    have hx : x ≠ c := fun e => hc (by simp [e])
    simp only [Lib.indexByte]
    rw [if_neg (by simp [hx]), ih (fun hh => hc (by simp [hh]))]
    simp

theorem linesF_flat : ∀ (f : Nat) (s : List UInt8), s.length ≤ f → (linesF f s).flatten = s := by
  intro f
  induction f with
  | zero => intro s h; have : s = [] := List.eq_nil_of_length_eq_zero (by omega); subst this; rfl
  | succ f ih =>
    intro s h
    unfold linesF
    split
    · rename_i h0; subst h0; rfl
    · split
      · rename_i h0 h1
        rw [List.flatten_cons, ih _ (by
          rw [List.length_drop]
          have : 0 < s.length := List.length_pos_iff.2 h0
          omega), List.take_append_drop]
      · simp

theorem linesL_flat (s : List UInt8) : (linesL s).flatten = s := linesF_flat _ s (Nat.le_refl _)

theorem linesF_lines (ls : List (List UInt8)) (h : ∀ w ∈ ls, (10 : UInt8) ∉ w) : ∀ f, (ls.map fun l => l ++ [(10 : UInt8)]).flatten.length ≤ f → linesF f (ls.map fun l => l ++ [10]).flatten = ls.map fun l => l ++ [10] := by
  induction ls with
  | nil => intro f _; cases f <;> simp [linesF]
  | cons w ls ih =>
    intro f hf
    have e : (w ++ [(10 : UInt8)]) ++ (ls.map fun l => l ++ [(10 : UInt8)]).flatten = w ++ 10 :: (ls.map fun l => l ++ [10]).flatten := by simp
    rw [List.map_cons, List.flatten_cons, e] at hf ⊢
    match f, hf with
    | 0, hf => simp at hf
    | f + 1, hf =>
      unfold linesF
      rw [if_neg (by simp), ibyte_hit 10 w _ (h w (by simp)), if_pos (by omega)]
      have e1 : (w ++ 10 :: (ls.map fun l => l ++ [(10 : UInt8)]).flatten).take ((w.length : Int).toNat + 1) = w ++ [10] := by
        simp [List.take_append, List.take_of_length_le]
      have e2 : (w ++ 10 :: (ls.map fun l => l ++ [(10 : UInt8)]).flatten).drop ((w.length : Int).toNat + 1) = (ls.map fun l => l ++ [10]).flatten := by
        simp [List.drop_append]
      rw [e1, e2, ih (fun x hx => h x (by simp [hx])) f (by simp at hf ⊢; omega)]

theorem linesL_lines (ls : List (List UInt8)) (h : ∀ w ∈ ls, (10 : UInt8) ∉ w) : linesL (ls.map fun l => l ++ [10]).flatten = ls.map fun l => l ++ [10] := linesF_lines ls h _ (Nat.le_refl _)

end Go.Proofs.YtgeegbbcjdlkbaaGreatDoor
