/- Parsing a table: what the reference and the program compute are one; plain lists. -/
import Derived.Test.YtgeegbbcjdlkbaaGreatDoorLine
import Derived.Test.YtgeegbbcjdlkbaaGreatDoorCut
import Derived.Test.YtgeegbbcjdlkbaaGreatDoorEnc
namespace Go.Proofs.YtgeegbbcjdlkbaaGreatDoor
open Go.RowKit
set_option linter.unusedSimpArgs false
set_option linter.unusedVariables false
set_option maxRecDepth 100000

def bldRow : List Col → List (List UInt8) → List Col
  | c :: cs, w :: ws => (c.1, c.2 ++ [numP w]) :: bldRow cs ws
  | cs, _ => cs

def nameC (ws : List (List UInt8)) : List Col := ws.map fun w => (⟨w.toArray⟩, [])

/-- What the reference builds. -/
def bldT (s : List UInt8) : List Col := (((cutL 10 s).drop 1).dropLast).foldl (fun cs l => bldRow cs (cutL 32 l)) (nameC (cutL 32 ((cutL 10 s).headD [])))

open Classical in
/-- What the reference returns. -/
noncomputable def sP (s : List UInt8) : List Col × Bool := if isT (bldT s) = true ∧ fmtTab (bldT s) = s then (bldT s, true) else ([], false)

def addP : List Col → List (List UInt8) → Option (List Col)
  | [], [] => some []
  | c :: cs, w :: ws => if (ParI w).2 = true then (addP cs ws).map ((c.1, c.2 ++ [(ParI w).1]) :: ·) else none
  | _, _ => none

def partsP (row : List UInt8) (n : Nat) : List (List UInt8) := Lib.splitK [32] 0 (min n (row.length + 1) - 1) row

def addRowP (cs : List Col) (line : List UInt8) : Option (List Col) :=
  if Lib.hasSuffix line [10] = true ∧ (partsP (Lib.trimSuffix line [10]) (cs.length + 1)).length = cs.length then addP cs (partsP (Lib.trimSuffix line [10]) (cs.length + 1)) else none

noncomputable def rowsP : List Col → List (List UInt8) → Option (List Col)
  | cs, [] => some cs
  | cs, l :: ls => match addRowP cs l with
    | some ds => if isT ds = true then rowsP ds ls else none
    | none => none

/-- What the program computes. -/
noncomputable def implP (s : List UInt8) : Option (List Col) :=
  if (Lib.cut s [10]).2.2 = true ∧ isT (nameC (partsP (Lib.cut s [10]).1 5)) = true then rowsP (nameC (partsP (Lib.cut s [10]).1 5)) (linesL (Lib.cut s [10]).2.1) else none

def zapp (cs : List Col) (vs : List Int) : List Col := List.zipWith (fun c v => (c.1, c.2 ++ [v])) cs vs

theorem zapp_length (cs : List Col) (vs : List Int) (h : vs.length = cs.length) : (zapp cs vs).length = cs.length := by simp [zapp, h]

theorem zapp_get (cs : List Col) (vs : List Int) (i : Nat) (h : i < cs.length) (h2 : i < vs.length) : (zapp cs vs)[i]'(by simp [zapp]; omega) = (cs[i].1, cs[i].2 ++ [vs[i]]) := by simp [zapp]

theorem addP_some : ∀ (cs : List Col) (ws : List (List UInt8)) (ds : List Col), addP cs ws = some ds → ∃ vs : List Int, ws = vs.map Lib.itoa ∧ vs.length = cs.length ∧ ds = zapp cs vs := by
  intro cs
  induction cs with
  | nil =>
    intro ws ds h
    cases ws with
    | nil => simp [addP] at h; subst h; exact ⟨[], rfl, rfl, rfl⟩
    | cons w ws => simp [addP] at h
  | cons c cs ih =>
    intro ws ds h
    cases ws with
    | nil => simp [addP] at h
    | cons w ws =>
      simp only [addP] at h
      split at h
      · rename_i hp
        rw [Option.map_eq_some_iff] at h
        obtain ⟨es, he, rfl⟩ := h
        obtain ⟨vs, rfl, hl, rfl⟩ := ih ws es he
        exact ⟨(ParI w).1 :: vs, by rw [List.map_cons, par_itoa hp], by simp [hl], by simp [zapp]⟩
      · cases h

theorem addP_back : ∀ (cs : List Col) (vs : List Int), vs.length = cs.length → (∀ v ∈ vs, -999 ≤ v ∧ v ≤ 999) → addP cs (vs.map Lib.itoa) = some (zapp cs vs) := by
  intro cs
  induction cs with
  | nil => intro vs h _; have : vs = [] := List.eq_nil_of_length_eq_zero h; subst this; rfl
  | cons c cs ih =>
    intro vs h hv
    cases vs with
    | nil => simp at h
    | cons v vs =>
      have hp := par_small (hv v (by simp))
      simp only [List.map_cons, addP, hp]
      rw [ih vs (by simpa using h) (fun x hx => hv x (by simp [hx]))]
      simp [zapp]

theorem bldRow_back : ∀ (cs : List Col) (vs : List Int), vs.length = cs.length → (∀ v ∈ vs, -999 ≤ v ∧ v ≤ 999) → bldRow cs (vs.map Lib.itoa) = zapp cs vs := by
  intro cs
  induction cs with
  | nil => intro vs h _; have : vs = [] := List.eq_nil_of_length_eq_zero h; subst this; rfl
  | cons c cs ih =>
    intro vs h hv
    cases vs with
    | nil => simp at h
    | cons v vs =>
      have hp := par_small (hv v (by simp))
      simp only [List.map_cons, bldRow, numP, hp]
      rw [ih vs (by simpa using h) (fun x hx => hv x (by simp [hx]))]
      simp [zapp]

/-- The first r rows. -/
def cutAt (cs : List Col) (r : Nat) : List Col := cs.map fun c => (c.1, c.2.take r)

/-- Row r. -/
def rowAt (cs : List Col) (r : Nat) : List Int := cs.map fun c => c.2.getD r 0

theorem fmtW_rowAt (cs : List Col) (r : Nat) : fmtW cs (r + 1) = (rowAt cs r).map Lib.itoa := by simp [fmtW, rowAt]

theorem cutAt_length (cs : List Col) (r : Nat) : (cutAt cs r).length = cs.length := by simp [cutAt]

theorem cutAt_succ (cs : List Col) (r : Nat) (h : ∀ c ∈ cs, r < c.2.length) : zapp (cutAt cs r) (rowAt cs r) = cutAt cs (r + 1) := by
  apply List.ext_getElem
  · simp [zapp, cutAt, rowAt]
  · intro i h1 h2
    have hi : i < cs.length := by simpa [cutAt] using h2
    have hr := h cs[i] (List.getElem_mem hi)
    rw [zapp_get _ _ i (by rw [cutAt_length]; exact hi) (by simpa [rowAt] using hi)]
    simp only [cutAt, rowAt, List.getElem_map]
    rw [List.getD_eq_getElem?_getD, List.getElem?_eq_getElem hr, Option.getD_some, List.take_succ_eq_append_getElem hr]

theorem cutAt_all (cs : List Col) (r : Nat) (h : ∀ c ∈ cs, c.2.length ≤ r) : cutAt cs r = cs := by
  unfold cutAt
  conv => rhs; rw [← List.map_id cs]
  apply List.map_congr_left
  intro c hc
  rw [List.take_of_length_le (h c hc)]
  rfl

theorem isT_of {cs : List Col} (h : IsT cs) : isT cs = true := isT_yes h

theorem isT_cutAt {cs : List Col} (h : isT cs = true) (r : Nat) : isT (cutAt cs r) = true := by
  have ht := isT_ok h
  refine isT_of ⟨by rw [cutAt_length]; exact ht.1, fun i hi => ?_⟩
  rw [cutAt_length] at hi
  obtain ⟨h1, h2, h3, h4⟩ := ht.2 i hi
  have h0 : 0 < cs.length := by omega
  refine ⟨by simpa [cutAt] using h1, ?_, ?_, ?_⟩
  · simp only [cutAt, List.getElem_map]
    simp [areVals] at h2 ⊢
    exact ⟨by omega, fun x hx => h2.2 x (List.mem_of_mem_take hx)⟩
  · simp only [cutAt, List.getElem_map, List.length_take]
    rw [h3]
  · intro k hk
    simp only [cutAt, List.getElem_map]
    exact h4 k hk

theorem rowsN_cutAt {cs : List Col} (h : isT cs = true) (r : Nat) (hr : r ≤ rowsN cs) : rowsN (cutAt cs r) = r := by
  have hl := isT_len h
  match cs, hl with
  | c :: cs, _ => simp [cutAt, rowsN] at hr ⊢; omega

/-- The lines of a table. -/
def lineT (cs : List Col) (k : Nat) : List UInt8 := Lib.join (fmtW cs k) [32]

theorem preT_lines (cs : List Col) (r : Nat) : preT cs r = (((List.range r).map (lineT cs)).map fun l => l ++ [10]).flatten := by
  simp [preT, lineT, lineW, List.map_map, Function.comp_def]

theorem mem_join {c b : UInt8} : ∀ {ws : List (List UInt8)}, b ∈ Lib.join ws [c] → b = c ∨ ∃ w ∈ ws, b ∈ w := by
  intro ws
  induction ws with
  | nil => intro h; simp [Lib.join_nil] at h
  | cons w ws ih =>
    intro h
    cases ws with
    | nil => rw [Lib.join_one] at h; exact .inr ⟨w, by simp, h⟩
    | cons v vs =>
      have e : Lib.join (w :: v :: vs) [c] = w ++ c :: Lib.join (v :: vs) [c] := by
        rw [Lib.join_cons, Lib.join_cons]
        simp [Lib.joinTail]
      rw [e] at h
      rcases List.mem_append.1 h with h | h
      · exact .inr ⟨w, by simp, h⟩
      · rcases List.mem_cons.1 h with h | h
        · exact .inl h
        · rcases ih h with h | ⟨x, hx, hb⟩
          · exact .inl h
          · exact .inr ⟨x, by simp [hx], hb⟩

theorem word_bytes {cs : List Col} (h : isT cs = true) (r : Nat) : ∀ w ∈ fmtW cs r, ∀ b ∈ w, b ≠ 10 ∧ b ≠ 32 := by
  have ht := isT_ok h
  intro w hw
  cases r with
  | zero =>
    simp only [fmtW, List.mem_map] at hw
    obtain ⟨c, hc, rfl⟩ := hw
    obtain ⟨j, hj, rfl⟩ := List.getElem_of_mem hc
    have hn := (ht.2 j hj).1
    unfold isNm at hn
    rw [Bool.and_eq_true, List.all_eq_true] at hn
    intro b hb
    have := hn.1 b hb
    simp [isLow] at this
    exact ⟨fun e => by subst e; simp at this, fun e => by subst e; simp at this⟩
  | succ q =>
    rw [fmtW_rowAt] at hw
    obtain ⟨v, _, rfl⟩ := List.mem_map.1 hw
    exact itoa_bytes v

theorem line_free {cs : List Col} (h : isT cs = true) (r : Nat) : (10 : UInt8) ∉ lineT cs r := by
  intro hb
  rcases mem_join hb with e | ⟨w, hw, hb⟩
  · exact absurd e (by decide)
  · exact (word_bytes h r w hw _ hb).1 rfl

theorem fmtW_ne {cs : List Col} (h : isT cs = true) (r : Nat) : fmtW cs r ≠ [] := by
  have := (isT_len h).1
  intro e
  have := congrArg List.length e
  rw [fmtW_length] at this
  simp at this
  subst this
  simp at *

theorem rowAt_vals {cs : List Col} (h : isT cs = true) (r : Nat) : ∀ v ∈ rowAt cs r, -999 ≤ v ∧ v ≤ 999 := by
  have ht := isT_ok h
  intro v hv
  obtain ⟨c, hc, rfl⟩ := List.mem_map.1 hv
  obtain ⟨j, hj, rfl⟩ := List.getElem_of_mem hc
  have hv := (ht.2 j hj).2.1
  rw [List.getD_eq_getElem?_getD]
  by_cases hq : r < cs[j].2.length
  · rw [List.getElem?_eq_getElem hq]
    simp [areVals] at hv
    exact hv.2 _ (List.getElem_mem hq)
  · rw [List.getElem?_eq_none (by omega)]
    simp

theorem nameC_cutAt (cs : List Col) : nameC (fmtW cs 0) = cutAt cs 0 := by
  simp [nameC, fmtW, cutAt, List.map_map, Function.comp_def]

theorem lines_split (cs : List Col) (R : Nat) : (List.range (R + 1)).map (lineT cs) = lineT cs 0 :: (List.range R).map (fun k => lineT cs (k + 1)) := by
  rw [List.range_succ_eq_map, List.map_cons, List.map_map]
  rfl

/-- The reference finds a table's text again. -/
theorem bldT_back {cs : List Col} (h : isT cs = true) : bldT (fmtTab cs) = cs := by
  have hr := isT_rows h
  unfold fmtTab
  rw [if_pos h, preT_lines]
  unfold bldT
  rw [cutL_lines 10 _ (fun w hw => by obtain ⟨k, _, rfl⟩ := List.mem_map.1 hw; exact line_free h k), lines_split]
  simp only [List.cons_append, List.headD_cons, List.drop_succ_cons, List.drop_zero, List.dropLast_concat]
  have h0 : cutL 32 (lineT cs 0) = fmtW cs 0 := cutL_join 32 _ (fmtW_ne h 0) (fun w hw hb => (word_bytes h 0 w hw _ hb).2 rfl)
  rw [h0, nameC_cutAt]
  have key : ∀ R, R ≤ rowsN cs → ((List.range R).map (fun k => lineT cs (k + 1))).foldl (fun cs l => bldRow cs (cutL 32 l)) (cutAt cs 0) = cutAt cs R := by
    intro R
    induction R with
    | zero => intro _; rfl
    | succ R ih =>
      intro hR
      rw [List.range_succ, List.map_append, List.foldl_append, ih (by omega)]
      have h1 : cutL 32 (lineT cs (R + 1)) = fmtW cs (R + 1) := cutL_join 32 _ (fmtW_ne h _) (fun w hw hb => (word_bytes h _ w hw _ hb).2 rfl)
      simp only [List.map_cons, List.map_nil, List.foldl_cons, List.foldl_nil]
      rw [h1, fmtW_rowAt, bldRow_back _ _ (by simp [cutAt, rowAt]) (rowAt_vals h R), cutAt_succ]
      intro c hc
      obtain ⟨j, hj, rfl⟩ := List.getElem_of_mem hc
      rw [hr.2 j hj]
      omega
  rw [key _ (Nat.le_refl _), cutAt_all]
  intro c hc
  obtain ⟨j, hj, rfl⟩ := List.getElem_of_mem hc
  rw [hr.2 j hj]
  exact Nat.le_refl _

theorem join_len (ws : List (List UInt8)) (h : ws ≠ []) : ws.length ≤ (Lib.join ws [32]).length + 1 := by
  match ws, h with
  | w :: ws, _ =>
    rw [Lib.join_cons, List.length_append, Lib.joinTail_length]
    simp
    omega

theorem partsP_back {ws : List (List UInt8)} {n : Nat} (h0 : ws ≠ []) (hn : ws.length ≤ n) (hb : ∀ w ∈ ws, (32 : UInt8) ∉ w) : partsP (Lib.join ws [32]) n = ws := by
  unfold partsP
  have := join_len ws h0
  exact splitK_words 32 ws _ h0 (by omega) hb

theorem suffix_line (l : List UInt8) : Lib.hasSuffix (l ++ [10]) [10] = true ∧ Lib.trimSuffix (l ++ [10]) [10] = l := by
  have h : Lib.hasSuffix (l ++ [10]) [10] = true := by
    unfold Lib.hasSuffix
    rw [List.isSuffixOf_iff_suffix]
    exact ⟨l, rfl⟩
  refine ⟨h, ?_⟩
  unfold Lib.trimSuffix
  rw [if_pos h]
  simp

theorem suffix_back {line : List UInt8} (h : Lib.hasSuffix line [10] = true) : line = Lib.trimSuffix line [10] ++ [10] := by
  have h' := h
  unfold Lib.hasSuffix at h'
  rw [List.isSuffixOf_iff_suffix] at h'
  obtain ⟨l, rfl⟩ := h'
  rw [(suffix_line l).2]

theorem addRow_back {cs : List Col} (h : isT cs = true) (r : Nat) (hr : r < rowsN cs) : addRowP (cutAt cs r) (lineT cs (r + 1) ++ [10]) = some (cutAt cs (r + 1)) := by
  have hrr := isT_rows h
  have hp : partsP (lineT cs (r + 1)) ((cutAt cs r).length + 1) = fmtW cs (r + 1) :=
    partsP_back (fmtW_ne h _) (by rw [fmtW_length, cutAt_length]; omega) (fun w hw hb => (word_bytes h _ w hw _ hb).2 rfl)
  unfold addRowP
  rw [(suffix_line _).1, (suffix_line _).2, hp, if_pos ⟨rfl, by rw [fmtW_length, cutAt_length]⟩, fmtW_rowAt, addP_back _ _ (by simp [cutAt, rowAt]) (rowAt_vals h r), cutAt_succ]
  intro c hc
  obtain ⟨j, hj, rfl⟩ := List.getElem_of_mem hc
  rw [hrr.2 j hj]
  exact hr

theorem impl_back {cs : List Col} (h : isT cs = true) : implP (fmtTab cs) = some cs := by
  have hr := isT_rows h
  have hl := isT_len h
  have e : fmtTab cs = lineT cs 0 ++ 10 :: (((List.range (rowsN cs)).map fun k => lineT cs (k + 1)).map fun l => l ++ [10]).flatten := by
    unfold fmtTab
    rw [if_pos h, preT_lines, lines_split]
    simp
  have hp : partsP (lineT cs 0) 5 = fmtW cs 0 := partsP_back (fmtW_ne h _) (by rw [fmtW_length]; omega) (fun w hw hb => (word_bytes h _ w hw _ hb).2 rfl)
  unfold implP
  rw [e, cut_hit 10 _ _ (line_free h 0)]
  simp only
  rw [hp, nameC_cutAt, if_pos ⟨trivial, isT_cutAt h 0⟩, linesL_lines _ (fun w hw => by obtain ⟨k, _, rfl⟩ := List.mem_map.1 hw; exact line_free h _)]
  have key : ∀ n r, r + n = rowsN cs → rowsP (cutAt cs r) (((List.range n).map fun k => lineT cs (r + k + 1)).map fun l => l ++ [10]) = some cs := by
    intro n
    induction n with
    | zero =>
      intro r hn
      simp only [List.range_zero, List.map_nil, rowsP]
      rw [cutAt_all]
      intro c hc
      obtain ⟨j, hj, rfl⟩ := List.getElem_of_mem hc
      rw [hr.2 j hj]
      omega
    | succ n ih =>
      intro r hn
      rw [List.range_succ_eq_map, List.map_cons, List.map_cons, rowsP, Nat.add_zero, addRow_back h r (by omega)]
      simp only
      rw [if_pos (isT_cutAt h _)]
      have := ih (r + 1) (by omega)
      rw [← this, List.map_map, List.map_map, List.map_map]
      congr 2
      funext k
      simp [Function.comp]
      congr 1
      omega
  have := key (rowsN cs) 0 (by omega)
  simpa using this

theorem addRow_sound {cs ds : List Col} {line : List UInt8} (h : isT cs = true) (ha : addRowP cs line = some ds) :
    ∃ vs : List Int, vs.length = cs.length ∧ ds = zapp cs vs ∧ line = Lib.join (vs.map Lib.itoa) [32] ++ [10] := by
  unfold addRowP at ha
  split at ha
  · rename_i hc
    obtain ⟨vs, hw, hl, hd⟩ := addP_some _ _ _ ha
    refine ⟨vs, hl, hd, ?_⟩
    rw [← hw, partsP, (splitK_join 32 _ _).2]
    exact suffix_back hc.1
  · cases ha

theorem fmtW_zapp {cs : List Col} (vs : List Int) (hl : vs.length = cs.length) (hr : ∀ j (hj : j < cs.length), cs[j].2.length = rowsN cs) : (∀ r, r ≤ rowsN cs → fmtW (zapp cs vs) r = fmtW cs r) ∧ fmtW (zapp cs vs) (rowsN cs + 1) = vs.map Lib.itoa := by
  constructor
  · intro r hrr
    apply List.ext_getElem
    · rw [fmtW_length, fmtW_length, zapp_length cs vs hl]
    · intro i h1 h2
      have hi : i < cs.length := by rw [fmtW_length] at h2; exact h2
      have hz : i < (zapp cs vs).length := by rw [zapp_length cs vs hl]; exact hi
      cases r with
      | zero => simp [fmtW, zapp_get cs vs i hi (by omega)]
      | succ q =>
        have hq : q < cs[i].2.length := by rw [hr i hi]; omega
        simp [fmtW, zapp_get cs vs i hi (by omega), List.getD_eq_getElem?_getD, List.getElem?_append_left hq]
  · apply List.ext_getElem
    · rw [fmtW_length, zapp_length cs vs hl, List.length_map, hl]
    · intro i h1 h2
      have hi : i < cs.length := by rw [fmtW_length, zapp_length cs vs hl] at h1; exact h1
      have e := hr i hi
      simp [fmtW, zapp_get cs vs i hi (by omega), List.getD_eq_getElem?_getD, ← e]

theorem rows_sound : ∀ (ls : List (List UInt8)) (cs ds : List Col), isT cs = true → rowsP cs ls = some ds → isT ds = true ∧ fmtTab ds = fmtTab cs ++ ls.flatten := by
  intro ls
  induction ls with
  | nil =>
    intro cs ds h hr
    simp only [rowsP, Option.some.injEq] at hr
    subst hr
    exact ⟨h, by simp⟩
  | cons l ls ih =>
    intro cs ds h hr
    simp only [rowsP] at hr
    split at hr
    · rename_i es he
      split at hr
      · rename_i hi
        obtain ⟨vs, hl, rfl, rfl⟩ := addRow_sound h he
        obtain ⟨h1, h2⟩ := ih _ _ hi hr
        refine ⟨h1, ?_⟩
        have hrow := (isT_rows h).2
        have hlen := isT_len h
        obtain ⟨f1, f2⟩ := fmtW_zapp vs hl hrow
        have hR : rowsN (zapp cs vs) = rowsN cs + 1 := by
          have := (isT_rows hi).2 0 (by rw [zapp_length cs vs hl]; omega)
          rw [← this, zapp_get cs vs 0 (by omega) (by omega)]
          simp [hrow 0 (by omega)]
        have hpre : ∀ r, r ≤ rowsN cs + 1 → preT (zapp cs vs) r = preT cs r := by
          intro r
          induction r with
          | zero => intro _; rfl
          | succ r ihr =>
            intro hr'
            rw [preT_succ, preT_succ, ihr (by omega), f1 r (by omega)]
        rw [h2]
        unfold fmtTab
        rw [if_pos h, if_pos hi, hR, preT_succ, hpre _ (Nat.le_refl _), f2, List.flatten_cons, List.append_assoc]
      · cases hr
    · cases hr

theorem impl_sound {s : List UInt8} {cs : List Col} (h : implP s = some cs) : isT cs = true ∧ fmtTab cs = s := by
  unfold implP at h
  split at h
  · rename_i hc
    obtain ⟨h1, h2⟩ := hc
    have hm : (10 : UInt8) ∈ s := by
      by_cases hm : (10 : UInt8) ∈ s
      · exact hm
      · rw [cut_miss 10 s hm] at h1; cases h1
    obtain ⟨a, b, rfl, ha⟩ := first_at 10 s hm
    rw [cut_hit 10 a b ha] at h h2
    simp only at h h2
    obtain ⟨r1, r2⟩ := rows_sound _ _ _ h2 h
    refine ⟨r1, ?_⟩
    rw [r2, linesL_flat]
    have hj := (splitK_join 32 (min 5 (a.length + 1) - 1) a).2
    have hn : rowsN (nameC (partsP a 5)) = 0 := by
      have hl := isT_len h2
      unfold rowsN nameC at *
      match hp : partsP a 5 with
      | [] => rfl
      | w :: ws => rfl
    have hw : fmtW (nameC (partsP a 5)) 0 = partsP a 5 := by simp [fmtW, nameC, List.map_map, Function.comp_def]
    unfold fmtTab
    rw [if_pos h2, hn, preT_succ, preT_zero, hw]
    show [] ++ (Lib.join (partsP a 5) [32] ++ [10]) ++ b = a ++ 10 :: b
    have : Lib.join (partsP a 5) [32] = a := hj
    rw [this]
    simp
  · cases h

/-- The reference and the program compute the same. -/
theorem sP_impl (s : List UInt8) : sP s = match implP s with | some cs => (cs, true) | none => ([], false) := by
  unfold sP
  cases hi : implP s with
  | some cs =>
    obtain ⟨h1, h2⟩ := impl_sound hi
    have hb : bldT s = cs := by rw [← h2]; exact bldT_back h1
    rw [hb, if_pos ⟨h1, h2⟩]
  | none =>
    rw [if_neg]
    rintro ⟨h1, h2⟩
    have := impl_back h1
    rw [h2, hi] at this
    cases this

end Go.Proofs.YtgeegbbcjdlkbaaGreatDoor
