/- The words of a column's text; rows of strings of the call's own. -/
import Derived.Test.YtknmoinmfladbaaDoorCkD
import Derived.Test.YtknmoinmfladbaaDoorFmt
import Derived.Lib.Join
namespace Go.Proofs.YtknmoinmfladbaaDoor
open Go.RowKit Go.ChangeShapes
set_option linter.unusedSimpArgs false
set_option linter.unusedVariables false
set_option maxRecDepth 100000

/-- A pivot's word. -/
def brk (x : Int) : List UInt8 := [91] ++ Lib.itoa x ++ [93]

/-- The words of the values from place a up to b. -/
def valsW (l : List Int) (a b : Nat) : List (List UInt8) := ((l.take b).drop a).map Lib.itoa

/-- The words before piece k's values. -/
def baseW (l : List Int) (ps : List Pv) : Nat → List (List UInt8)
  | 0 => []
  | k + 1 => baseW l ps k ++ valsW l (stP ps k) (stP ps (k + 1)) ++ [brk (ps.getD k (0, 0)).1]

/-- The words of the first k pivots and the first i values. -/
def wds (l : List Int) (ps : List Pv) (k i : Nat) : List (List UInt8) := baseW l ps k ++ valsW l (stP ps k) i

theorem valsW_nil (l : List Int) (a b : Nat) (h : b ≤ a) : valsW l a b = [] := by
  unfold valsW
  rw [List.drop_of_length_le (by simp; omega)]
  rfl

theorem valsW_succ (l : List Int) (a b : Nat) (h : a ≤ b) (hb : b < l.length) : valsW l a (b + 1) = valsW l a b ++ [Lib.itoa l[b]] := by
  unfold valsW
  rw [List.take_succ_eq_append_getElem hb, List.drop_append_of_le_length (by simp; omega), List.map_append]
  rfl

theorem wds_pivot (l : List Int) (ps : List Pv) (k i : Nat) (hk : k < ps.length) (h : stP ps (k + 1) = i) : wds l ps (k + 1) i = wds l ps k i ++ [brk ps[k].1] := by
  unfold wds
  rw [valsW_nil l _ i (by omega), baseW, h, List.getD_eq_getElem?_getD, List.getElem?_eq_getElem hk]
  simp

theorem wds_value (l : List Int) (ps : List Pv) (k i : Nat) (h : stP ps k ≤ i) (hi : i < l.length) : wds l ps k (i + 1) = wds l ps k i ++ [Lib.itoa l[i]] := by
  unfold wds
  rw [valsW_succ l _ i h hi, List.append_assoc]

theorem baseW_succ (l : List Int) (ps : List Pv) (k : Nat) (hk : k < ps.length) : wds l ps (k + 1) (stP ps (k + 1)) = wds l ps k (stP ps (k + 1)) ++ [brk ps[k].1] := wds_pivot l ps k _ hk rfl

theorem wds_zero (l : List Int) (ps : List Pv) : wds l ps 0 0 = [] := by
  unfold wds
  rw [valsW_nil l _ 0 (by omega)]; rfl

theorem valsW_length (l : List Int) (a b : Nat) : (valsW l a b).length ≤ l.length := by
  unfold valsW
  simp
  omega

theorem pv_count {l : List Int} {ps : List Pv} (h : PvsOk l ps) : ps.length ≤ 2001 := by
  have key : ∀ k, k ≤ ps.length → -1001 + (k : Int) ≤ prevV ps k := by
    intro k
    induction k with
    | zero => intro _; unfold prevV; simp
    | succ k ih =>
      intro hk
      rw [prevV_succ ps k (by omega)]
      have := ih (by omega)
      have := (h k (by omega)).1
      omega
  have h1 := key ps.length (Nat.le_refl _)
  have h2 := prevV_high (l := l) (ps := ps) (k := ps.length) (fun j hj hl => h j hl) (Nat.le_refl _)
  omega

/-- All words of a valid column are short, and they are few. -/
theorem wds_bound {l r : List Int} {ps : List Pv} (h : isCk l r ps = true) (k i : Nat) (hk : k ≤ ps.length) (hs : stP ps k ≤ i) (hi : i ≤ l.length) : (wds l ps k i).length = k + i ∧ ∀ x ∈ wds l ps k i, x.length ≤ 23 := by
  obtain ⟨h1, -, -, h4⟩ := isCk_parts h
  have hv : ∀ a b, ∀ x ∈ valsW l a b, x.length ≤ 23 := by
    intro a b x hx
    unfold valsW at hx
    obtain ⟨y, hy, rfl⟩ := List.mem_map.1 hx
    have hy2 := List.mem_of_mem_take (List.mem_of_mem_drop hy)
    simp only [areVals, Bool.and_eq_true, List.all_eq_true, decide_eq_true_eq] at h1
    have := h1.2 y hy2
    have := itoa_len y (by omega) (by omega)
    omega
  have hb : ∀ k, k ≤ ps.length → (baseW l ps k).length = k + stP ps k ∧ ∀ x ∈ baseW l ps k, x.length ≤ 23 := by
    intro k
    induction k with
    | zero => intro _; simp [baseW, stP_zero]
    | succ k ih =>
      intro hk
      obtain ⟨i1, i2⟩ := ih (by omega)
      obtain ⟨s1, s2, s3⟩ := stP_ok h4 k (by omega)
      refine ⟨?_, fun x hx => ?_⟩
      · simp [baseW, valsW]; omega
      · rw [baseW] at hx
        rcases List.mem_append.1 hx with hx | hx
        · rcases List.mem_append.1 hx with hx | hx
          · exact i2 x hx
          · exact hv _ _ x hx
        · obtain rfl := List.mem_singleton.1 hx
          rw [List.getD_eq_getElem?_getD, List.getElem?_eq_getElem (show k < ps.length by omega)]
          have hp := h4 k (by omega)
          have hl := prevV_low (l := l) (ps := ps) (k := k) (fun j hj hl => h4 j hl) (by omega)
          have := itoa_len (ps[k]'(by omega)).1 (by have := hp.1; omega) (by have := hp.2.1; omega)
          simp [brk]
          omega
  obtain ⟨b1, b2⟩ := hb k hk
  refine ⟨?_, fun x hx => ?_⟩
  · simp [wds, valsW]; omega
  · rcases List.mem_append.1 hx with hx | hx
    · exact b2 x hx
    · exact hv _ _ x hx

/-- The words, each behind a space. -/
def preW (ws : List (List UInt8)) : List UInt8 := Lib.joinTail [32] ws

theorem preW_nil : preW [] = [] := rfl
theorem preW_snoc (ws : List (List UInt8)) (x : List UInt8) : preW (ws ++ [x]) = preW ws ++ (32 :: x) := by simp [preW, Lib.joinTail]
theorem preW_len (ws : List (List UInt8)) (h : ∀ x ∈ ws, x.length ≤ 23) : (preW ws).length ≤ 24 * ws.length := by
  induction ws with
  | nil => simp [preW_nil]
  | cons x r ih =>
    have h1 := h x (by simp)
    have h2 := ih fun y hy => h y (List.mem_cons_of_mem _ hy)
    simp only [preW, Lib.joinTail, List.map_cons, List.flatten_cons, List.length_append, List.length_cons, List.length_nil] at h2 ⊢
    omega
theorem preW_cons (x : List UInt8) (r : List (List UInt8)) : preW (x :: r) = 32 :: Lib.join (x :: r) [32] := by
  rw [Lib.join_cons]; simp [preW, Lib.joinTail]

theorem join_len24 (ws : List (List UInt8)) (h : ∀ x ∈ ws, x.length ≤ 23) : (Lib.join ws [32]).length ≤ 24 * ws.length := by
  cases ws with
  | nil => simp [Lib.join_nil]
  | cons x r =>
    have := preW_len (x :: r) h
    rw [preW_cons] at this
    simp only [List.length_cons] at this ⊢
    omega

/-- A column's text. -/
noncomputable def fmtCk (l r : List Int) (ps : List Pv) : List UInt8 :=
  if isCk l r ps = true then (if wds l ps ps.length l.length = [] then [110, 111, 110, 101] else Lib.join (wds l ps ps.length l.length) [32]) else []

theorem strw_app (l m : List UInt8) : (ByteArray.mk l.toArray ++ ByteArray.mk m.toArray) = ByteArray.mk (l ++ m).toArray := ByteArray.mk_append_mk l m

theorem infoStW : (Tryd.prog.info? 9).map (fun i => (i.zero, i.size, i.bytes)) = some (some (.string ⟨#[]⟩), 1, 16) := by kernel_rfl

/-- v owns the words ws, as strings, in a row of the call's own. -/
def Sw (w : World) (base : Nat) (v : Value) (ws : List (List UInt8)) : Prop := w.ownsRow base 9 1 v ws.length (ws.map fun x => Value.string ⟨x.toArray⟩)

theorem Sw.nil (w : World) (base : Nat) : Sw w base (.slice none 0 0) [] := World.ownsRow_nil _ _ _ _

theorem Sw.below {w w' : World} {base : Nat} {v : Value} {ws : List (List UInt8)} (h : Sw w base v ws) (hb : Below w.heap.size w w') : Sw w' base v ws := owns_eq h fun g hg => hb.block g (World.ownsRow.lt h g hg).2

theorem Sw.form {w : World} {base : Nat} {v : Value} {ws : List (List UInt8)} (h : Sw w base v ws) : ∃ a cap, v = .slice a ws.length cap := by
  rcases h.2 with ⟨hv, hn⟩ | ⟨g, cap, cur, hv, _⟩
  · exact ⟨none, 0, by rw [hv, hn]⟩
  · exact ⟨_, _, hv⟩

theorem Sw.cells {w : World} {base : Nat} {v : Value} {ws : List (List UInt8)} (h : Sw w base v ws) (h0 : ws ≠ []) : ∃ g cap, v = .slice (some ⟨g, 0, none⟩) ws.length cap ∧ g < w.heap.size ∧ ws.length ≤ cap ∧ ∀ (j : Nat) x, (ws.map fun x => (⟨x.toArray⟩ : ByteArray))[j]? = some x → w.cell? ⟨g, 0 + j, none⟩ = some (.string x) := by
  rcases h.2 with ⟨hv, hn⟩ | ⟨g, cap, cur, hv, hb, hg, hnc, _⟩
  · exact absurd (List.eq_nil_of_length_eq_zero hn) h0
  · have hlt := (World.ownsRow.lt h g (by rw [hv]; rfl)).2
    refine ⟨g, cap, hv, hlt, hnc, fun j x hx => ?_⟩
    rw [hv] at h
    obtain ⟨hj, rfl⟩ := List.getElem?_eq_some_iff.1 hx
    rw [Nat.zero_add, World.ownsRow.cellAt h j (by simpa using hj)]
    simp at hj ⊢

/-- words = append(words, b): b lies in a block of one cell that was just made. -/
theorem sw_append (W : World) {ops : Array Oper} {rest : List Oper} {o : Oper} {a : Act} {Q : Exit → Act → World → Prop} (hgd : o.guard = none) (s x : Operand)
    (ho : o.op = .call { callee := .builtin .append, args := #[s, x], argTypes := #[42, 42] })
    (base : Nat) (v : Value) (ws : List (List UInt8)) (hown : Sw W base v ws) (hs : a.eval s = v) (b : ByteArray) (c g : Nat)
    (hx : a.eval x = .slice (some ⟨g, 0, none⟩) 1 c) (hg : g = W.heap.size) (hlen : ws.length < 1099511627776) (hbase : base ≤ W.heap.size)
    (h : ∀ v' w', Sw w' base v' (ws ++ [b.data.toList]) → Below base W w' → wpList Tryd.prog ops Q rest (a.put o.dst v') w') :
    wpList Tryd.prog ops Q (o :: rest) a (W.alloc (.cells #[.string b] 9)) := by
  subst hg
  obtain ⟨i0, hi, hz0, hz1, hz2⟩ := info_parts infoStW
  refine wpList_append_own _ hgd s x 42 ho base 9 i0 (.string ⟨#[]⟩) 1 16 Tryd.underlying42 hi hz0 hz1 hz2 rfl (by decide) v ws.length _ hs (World.ownsRow.alloc hown _) ⟨W.heap.size, 0, none⟩ 1 c [.string b] hx rfl ?_ ?_ ?_ ?_ ?_ ?_
  · intro j u hj
    match j, hj with
    | 0, hj => simp at hj; subst hj; simp [Addr.add]
  · intro u hu; simp at hu; subst hu; rfl
  · unfold maxLen; omega
  · omega
  · simp; omega
  · intro v' w' hown' hgrow _
    refine h v' w' ?_ ?_
    · unfold Sw
      rw [List.map_append, List.length_append]
      exact hown'
    · exact (((Below.refl base W).alloc hbase _).grown hgrow (by simp; omega) (fun k hk => (World.ownsRow.lt hown k hk).1))

end Go.Proofs.YtknmoinmfladbaaDoor
