/- What ParseTable of the reference returns (promise 2). -/
import Derived.Test.YtiianddblanffaaDoorLast
import Derived.Deep.RegionHeld3
import Derived.Deep.DrawnRows
import Derived.Deep.AppendLies
namespace Go.Proofs.YtiianddblanffaaDoor
open Go.RowKit Go.ChangeShapes
set_option linter.unusedSimpArgs false
set_option linter.unusedVariables false
set_option maxRecDepth 100000

theorem oi_nil (w : World) : OI w 3 (.slice none 0 0) [] [] := ⟨World.ownsRow_nil _ _ _ _, rfl⟩

theorem colsE_row {w : World} {v : Value} {cs : List Col} {F : List Nat} (h : colsE w v cs F) : ∃ xs F', w.ownsRow 0 42 2 v cs.length xs ∧ rowE colE w cs xs F' ∧ F = v.ownBlock.toList ++ F' ∧ F.Nodup := by
  rcases h with ⟨rfl, rfl, rfl⟩ | ⟨g, cap, xs, F', rfl, h2, h3, rfl, h5⟩
  · exact ⟨[], [], ⟨by simp, .inl ⟨rfl, rfl⟩⟩, ⟨rfl, rfl⟩, rfl, by simp⟩
  · exact ⟨xs, F', h2, h3, rfl, h5⟩

/-- append(t.Columns, Column{..}) at a step of a region that draws its order. -/
theorem step_cols {ops : Array Oper} {o : Oper} {a : Act} {K : Act → World → Prop} {Q : Exit → Act → World → Prop} {E : Prop} (W : World) (hgd : o.guard = none) (s x : Operand)
    (ho : o.op = .call { callee := .builtin .append, args := #[s, x], argTypes := #[27, 27] })
    (v : Value) (cs : List Col) (F : List Nat) (hs : a.eval s = v) (hown : colsE W v cs F) (b : ByteArray) (H c : Nat)
    (hx : a.eval x = .slice (some ⟨H, 0, none⟩) 1 c) (hH : W.heap[H]? = some (.cells #[.string b, .slice none 0 0] 42 (0, 0))) (hlen : cs.length < 1099511627776)
    (h : ∀ g cap F' w', colsE w' (.slice (some ⟨g, 0, none⟩) (cs.length + 1) cap) (cs ++ [(b, [])]) F' → (∀ b ∈ F', b ∈ F ∨ W.heap.size ≤ b) → Only F W w' → K (a.put o.dst (.slice (some ⟨g, 0, none⟩) (cs.length + 1) cap)) w') :
    if Region.wanted o (yielded ops a.tmps) = true then Oper.wp Tryd.prog o a W K Q else E := by
  obtain ⟨i0, hi, hz0, hz1, hz2⟩ := info_parts infoC
  obtain ⟨xs, F0, h2, h3, hF, h5⟩ := colsE_row hown
  refine step_append_lies W hgd s x 27 ho 0 42 i0 _ 2 40 Tryd.underlying27 hi hz0 hz1 hz2 rfl (by decide) v cs.length xs hs h2 ⟨H, 0, none⟩ 1 c [.string b, .slice none 0 0] hx rfl
    (World.news_of_block (cs := #[.string b, .slice none 0 0]) hH) (by simp [Value.oneCell']) (by omega) (by unfold maxLen; omega) (by omega) (Nat.zero_le _) W.heap.size rfl ?_
  intro g cap w' hown' hgrow hat hlt
  have hsub : ∀ b ∈ F0, b ∈ F := fun b hb => by rw [hF]; simp [hb]
  have hkeep : ∀ b ∈ F0, w'.heap[b]? = W.heap[b]? := fun b hb => hgrow.block b (rowE_lt colE_good _ _ _ h3 b hb) (fun e => by
    rw [hF, ← e] at h5
    simp at h5
    exact h5.1 hb)
  refine h g cap (g :: F0) w' (.inr ⟨g, cap, xs ++ [.string b, .slice none 0 0], F0, by simp, by simpa using hown', ?_, rfl, ?_⟩) ?_ ?_
  · exact (rowE_append _ _ _ _).2 ⟨xs, [.string b, .slice none 0 0], F0, [], rfl, by simp, rowE_kept colE_good _ _ _ h3 hkeep, [.string b, .slice none 0 0], [], [], [], by simp, by simp, ⟨_, rfl, oi_nil w'⟩, rfl, rfl⟩
  · rcases hat with hat | rfl
    · rw [hF, hat] at h5
      simpa using h5
    · rw [List.nodup_cons]
      refine ⟨fun hh => ?_, ?_⟩
      · have := rowE_lt colE_good _ _ _ h3 _ hh
        omega
      · rw [hF] at h5
        exact (List.nodup_append.1 h5).2.1
  · intro b hb
    rcases List.mem_cons.1 hb with rfl | hb
    · rcases hat with hat | rfl
      · left; rw [hF, hat]; simp
      · right; exact Nat.le_refl _
    · exact .inl (hsub b hb)
  · exact ⟨⟨hgrow.os, hgrow.tape, hgrow.output, hgrow.size, fun k hk => absurd hk (Nat.not_lt_zero k)⟩, fun k hk hn => hgrow.block k hk (fun ek => hn (by rw [hF, ← ek]; simp))⟩

/-- append(t.Columns[i].Values, x) at such a step. -/
theorem step_oi {ops : Array Oper} {o : Oper} {a : Act} {K : Act → World → Prop} {Q : Exit → Act → World → Prop} {E : Prop} (W : World) (hgd : o.guard = none) (s x : Operand)
    (ho : o.op = .call { callee := .builtin .append, args := #[s, x], argTypes := #[40, 40] })
    (v : Value) (l : List Int) (F : List Nat) (hs : a.eval s = v) (hown : OI W 3 v l F) (b : Int) (H c : Nat)
    (hx : a.eval x = .slice (some ⟨H, 0, none⟩) 1 c) (hH : W.heap[H]? = some (.cells #[.int .i64 b] 3 (0, 0))) (hlen : l.length < 1099511627776)
    (h : ∀ g cap w', OI w' 3 (.slice (some ⟨g, 0, none⟩) (l.length + 1) cap) (l ++ [b]) [g] → (g ∈ F ∨ W.heap.size ≤ g) → Only F W w' → K (a.put o.dst (.slice (some ⟨g, 0, none⟩) (l.length + 1) cap)) w') :
    if Region.wanted o (yielded ops a.tmps) = true then Oper.wp Tryd.prog o a W K Q else E := by
  obtain ⟨i0, hi, hz0, hz1, hz2⟩ := info_parts infoI
  have hF : F = v.ownBlock.toList := hown.2
  refine step_append_lies W hgd s x 40 ho 0 3 i0 _ 1 8 Tryd.underlying40 hi hz0 hz1 hz2 rfl (by decide) v l.length (intVs l) hs hown.1 ⟨H, 0, none⟩ 1 c [.int .i64 b] hx rfl
    (World.news_of_block (cs := #[.int .i64 b]) hH) (by simp [Value.oneCell']) (by omega) (by unfold maxLen; omega) (by omega) (Nat.zero_le _) W.heap.size rfl ?_
  intro g cap w' hown' hgrow hat hlt
  refine h g cap w' ⟨?_, rfl⟩ ?_ ⟨⟨hgrow.os, hgrow.tape, hgrow.output, hgrow.size, fun k hk => absurd hk (Nat.not_lt_zero k)⟩, fun k hk hn => hgrow.block k hk (fun ek => hn (by rw [hF, ← ek]; simp))⟩
  · unfold Is
    have e1 : intVs (l ++ [b]) = intVs l ++ [.int .i64 b] := by simp [intVs]
    rw [e1, List.length_append]
    exact hown'
  · rcases hat with hat | rfl
    · left; rw [hF, hat]; simp
    · right; exact Nat.le_refl _

/-- Column k's values, and what an append to them with the store behind it makes of the row. -/
theorem col_app {W : World} {v : Value} {cs : List Col} {F : List Nat} (h : colsE W v cs F) (k : Nat) (hk : k < cs.length) :
    ∃ g cap au capu Fj, v = .slice (some ⟨g, 0, none⟩) cs.length cap ∧ g < W.heap.size ∧ g ∈ F ∧ g ∉ Fj ∧ (∀ b ∈ Fj, b ∈ F) ∧ W.cell? ⟨g, k * 2 + 1, none⟩ = some (.slice au cs[k].2.length capu) ∧ (∀ o, W.frozen? ⟨g, o, none⟩ = false) ∧ OI W 3 (.slice au cs[k].2.length capu) cs[k].2 Fj ∧
      ∀ (w6 : World) (g' capx : Nat) (x : Int), OI w6 3 (.slice (some ⟨g', 0, none⟩) (cs[k].2.length + 1) capx) (cs[k].2 ++ [x]) [g'] → (g' ∈ Fj ∨ W.heap.size ≤ g') → Only Fj W w6 →
        ∃ F', colsE (w6.setCell ⟨g, k * 2 + 1, none⟩ (.slice (some ⟨g', 0, none⟩) (cs[k].2.length + 1) capx)) v (cs.set k (cs[k].1, cs[k].2 ++ [x])) F' ∧ ∀ b ∈ F', b ∈ F ∨ W.heap.size ≤ b := by
  have hnd := slE.nodup h
  have hlt := slE.lt colE_good h
  obtain ⟨g, cap, c, Fj, FA, FB, hv, hFeq, hgs, hgj, hE, hcl, hcell, hfro, hswap⟩ := slE.swap colE_good h k hk
  obtain ⟨u, rfl, hoi⟩ := hE
  have hcc := hcell 1 (by omega)
  simp only [List.getElem?_cons_zero, List.getElem?_cons_succ] at hcc
  obtain ⟨au, capu, rfl, -⟩ := hoi.form
  have hgF : g ∈ F := by rw [hFeq]; simp
  have hjF : ∀ b ∈ Fj, b ∈ F := fun b hb => by rw [hFeq]; simp [hb]
  refine ⟨g, cap, au, capu, Fj, hv, hgs, hgF, hgj, hjF, hcc, hfro, hoi, fun w6 g' capx x ho6 hg6 hw6 => ?_⟩
  have hne : g' ≠ g := by
    rintro rfl
    rcases hg6 with hh | hh
    · exact hgj hh
    · omega
  have o7 : OI (w6.setCell ⟨g, k * 2 + 1, none⟩ (.slice (some ⟨g', 0, none⟩) (cs[k].2.length + 1) capx)) 3 (.slice (some ⟨g', 0, none⟩) (cs[k].2.length + 1) capx) (cs[k].2 ++ [x]) [g'] :=
    ho6.only (Only.setCell (F := [g]) (Only.refl _ _) (by simp) _) (fun b hb hbg => by simp at hb hbg; omega)
  have hdis : ∀ b ∈ [g'], b ∉ g :: (FA ++ FB) := by
    intro b hb hh
    simp at hb
    subst hb
    rcases hg6 with hj | hj
    · rw [hFeq, List.nodup_cons, List.nodup_append, List.nodup_append] at hnd
      obtain ⟨-, -, ⟨-, -, hd1⟩, hd2⟩ := hnd
      rcases List.mem_cons.1 hh with hh | hh
      · exact hne hh
      · rcases List.mem_append.1 hh with hh | hh
        · exact hd2 _ hh _ (by simp [hj]) rfl
        · exact hd1 _ hj _ hh rfl
    · have : b ∈ F := by
        rw [hFeq]
        rcases List.mem_cons.1 hh with hh | hh
        · simp [hh]
        · rcases List.mem_append.1 hh with hh | hh <;> simp [hh]
      have := hlt b this
      omega
  refine ⟨_, hswap w6 1 _ (cs[k].1, cs[k].2 ++ [x]) [g'] hw6 (by omega) ⟨_, rfl, o7⟩ hdis (by simp), fun b hb => ?_⟩
  rcases List.mem_cons.1 hb with rfl | hb
  · exact .inl hgF
  · rcases List.mem_append.1 hb with hb | hb
    · exact .inl (by rw [hFeq]; simp [hb])
    · rcases List.mem_append.1 hb with hb | hb
      · simp at hb
        subst hb
        rcases hg6 with hj | hj
        · exact .inl (hjF _ hj)
        · exact .inr hj
      · exact .inl (by rw [hFeq]; simp [hb])

theorem cutL_ne (c : UInt8) (l : List UInt8) : 0 < (cutL c l).length := by simp [cutL]

theorem cutP_mem (c : UInt8) (M : Nat) : ∀ (l : List UInt8) (p : List (List UInt8) × List UInt8), (∀ x ∈ p.1, x.length ≤ M) → p.2.length + l.length ≤ M → (∀ x ∈ (cutP c p l).1, x.length ≤ M) ∧ (cutP c p l).2.length ≤ M := by
  intro l
  induction l with
  | nil => intro p h1 h2; exact ⟨h1, by simpa [cutP] using h2⟩
  | cons x l ih =>
    intro p h1 h2
    have key : cutP c p (x :: l) = cutP c (cutStep c p x) l := by simp [cutP]
    rw [key]
    simp only [List.length_cons] at h2
    apply ih
    · unfold cutStep
      split
      · intro y hy
        simp at hy
        rcases hy with hy | rfl
        · exact h1 y hy
        · omega
      · exact h1
    · unfold cutStep
      split
      · simp; omega
      · simp; omega

theorem cutL_mem (c : UInt8) (l : List UInt8) : ∀ x ∈ cutL c l, x.length ≤ l.length := by
  have h := cutP_mem c l.length l ([], []) (by simp) (by simp)
  intro x hx
  unfold cutL at hx
  rcases List.mem_append.1 hx with hx | hx
  · exact h.1 x hx
  · simp at hx; subst hx; exact h.2

theorem cutL_len (c : UInt8) (l : List UInt8) : (cutL c l).length ≤ l.length + 1 := by
  have := (cutP_len c l).1
  simp [cutL]
  omega

theorem bldRow_length : ∀ (cs : List Col) (ws : List (List UInt8)), (bldRow cs ws).length = cs.length := by
  intro cs
  induction cs with
  | nil => intro ws; cases ws <;> rfl
  | cons c cs ih =>
    intro ws
    cases ws with
    | nil => rfl
    | cons w ws => simp [bldRow, ih]

theorem bldRow_step : ∀ (cs : List Col) (ws : List (List UInt8)) (i : Nat) (h1 : i < cs.length) (h2 : i < ws.length),
    (bldRow cs (ws.take i))[i]'(by rw [bldRow_length]; exact h1) = cs[i] ∧ (bldRow cs (ws.take i)).set i (cs[i].1, cs[i].2 ++ [numP ws[i]]) = bldRow cs (ws.take (i + 1)) := by
  intro cs
  induction cs with
  | nil => intro ws i h1; simp at h1
  | cons c cs ih =>
    intro ws i h1 h2
    cases ws with
    | nil => simp at h2
    | cons w ws =>
      cases i with
      | zero =>
        refine ⟨rfl, ?_⟩
        cases cs <;> simp [bldRow]
      | succ i =>
        simp only [List.length_cons] at h1 h2
        have := ih ws i (by omega) (by omega)
        simp only [List.take_succ_cons, bldRow, List.getElem_cons_succ, List.set_cons_succ]
        exact ⟨this.1, by rw [this.2]⟩

theorem bldRow_over : ∀ (cs : List Col) (ws : List (List UInt8)) (i : Nat), cs.length ≤ i ∨ ws.length ≤ i → bldRow cs (ws.take i) = bldRow cs ws := by
  intro cs
  induction cs with
  | nil => intro ws i _; cases ws <;> cases i <;> rfl
  | cons c cs ih =>
    intro ws i h
    cases ws with
    | nil => simp
    | cons w ws =>
      cases i with
      | zero => simp at h
      | succ i =>
        simp only [List.length_cons] at h
        simp only [List.take_succ_cons, bldRow]
        rw [ih ws i (by omega)]

/-- What holds of the columns that the reference has built out of k rows. -/
def BldOk (cs : List Col) (n k : Nat) : Prop := cs.length = n ∧ ∀ c ∈ cs, c.1.size ≤ 1048576 ∧ c.2.length ≤ k ∧ ∀ x ∈ c.2, I64 x

theorem numP_i64 (w : List UInt8) : I64 (numP w) := by
  have := numS_le w
  unfold numP
  split
  · rename_i h
    unfold ParI at h ⊢
    split
    · unfold I64; simp only; omega
    · rename_i hc; rw [if_neg hc] at h; cases h
  · unfold I64; omega

theorem BldOk.row : ∀ {cs : List Col} {n k : Nat} (ws : List (List UInt8)), BldOk cs n k → BldOk (bldRow cs ws) n (k + 1) := by
  intro cs n k ws h
  refine ⟨by rw [bldRow_length]; exact h.1, ?_⟩
  obtain ⟨-, h⟩ := h
  induction cs generalizing ws with
  | nil => cases ws <;> (intro c hc; simp [bldRow] at hc)
  | cons c cs ih =>
    cases ws with
    | nil =>
      intro d hd
      have := h d hd
      exact ⟨this.1, by omega, this.2.2⟩
    | cons w ws =>
      intro d hd
      rcases List.mem_cons.1 hd with rfl | hd
      · have := h c (by simp)
        refine ⟨this.1, by simp; omega, fun x hx => ?_⟩
        rcases List.mem_append.1 hx with hx | hx
        · exact this.2.2 x hx
        · simp at hx; subst hx; exact numP_i64 w
      · exact ih ws (fun e he => h e (by simp [he])) d hd

/-- The reference's answer: a table of its own, and whether it is one. -/
def RetSP (w : World) (r : List Col × Bool) (e : Ending) (w' : World) : Prop := Below w.heap.size w w' ∧ ∃ a cap F, e = .returned (.tuple #[.agg #[.slice a r.1.length cap], .bool r.2]) ∧ colsE w' (.slice a r.1.length cap) r.1 F ∧ ∀ b ∈ F, w.heap.size ≤ b

set_option maxHeartbeats 4000000 in
theorem sParse_any (s : ByteArray) (w : World) (hs : s.size ≤ 1048576) :
    Calls Tryd.prog 10 #[.string s] w (RetSP w (sP s.data.toList)) := by
  obtain ⟨r, hr⟩ : ∃ r, r = sP s.data.toList := ⟨_, rfl⟩
  rw [← hr]
  unfold sP bldT at hr
  have hL0 := cutL_ne 10 s.data.toList
  have hL1 := cutL_len 10 s.data.toList
  have hL2 := cutL_mem 10 s.data.toList
  have hsl : s.data.toList.length = s.size := by simp
  have HC1 := hide (fun W : World => sCut_any s 10 10 (by decide) W hs)
  obtain ⟨L, hL⟩ : ∃ L, L = cutL 10 s.data.toList := ⟨_, rfl⟩
  rw [← hL] at hr hL0 hL1 hL2 HC1
  have hh0 : L.headD [] = L[0] := by cases L with | nil => simp at hL0 | cons x xs => rfl
  rw [hh0] at hr
  have hLl : L.length ≤ 1048577 := by omega
  have HLM := hide (show ∀ x ∈ L, x.length ≤ 1048576 from fun x hx => by have := hL2 x hx; omega)
  have hz0 : (ByteArray.mk L[0].toArray).size ≤ 1048576 := by have := HLM.out _ (List.getElem_mem hL0); simpa [ByteArray.size] using this
  have HC2 := hide (fun W : World => sCut_any ⟨L[0].toArray⟩ 32 32 (by decide) W hz0)
  have hN0 := cutL_ne 32 L[0]
  have hN1 := cutL_len 32 L[0]
  have hN2 := cutL_mem 32 L[0]
  obtain ⟨N, hN⟩ : ∃ N, N = cutL 32 L[0] := ⟨_, rfl⟩
  rw [show (ByteArray.mk L[0].toArray).data.toList = L[0] from by simp, ← hN] at HC2
  rw [← hN] at hr hN0 hN1 hN2
  have hNl : N.length ≤ 1048577 := by have := HLM.out _ (List.getElem_mem hL0); omega
  have HNM := hide (show ∀ x ∈ N, x.length ≤ 1048576 from fun x hx => by have := hN2 x hx; have := HLM.out _ (List.getElem_mem hL0); omega)
  have HR := hide hr
  clear hL hN
  clear hr hL1 hL2 hN1 hN2 hsl hz0 hh0
  have B1 := hide ((Below.refl w.heap.size w).alloc (Nat.le_refl _) (.cells #[.slice none 0 0] 29))
  have Z1 := hide (heap_alloc_new w (.cells #[.slice none 0 0] 29))
  have S1 := hide (alloc_size w (.cells #[.slice none 0 0] 29))
  go_enter Tryd.func10, Tryd.ntmps10
  go_wp2_with fail
  obtain ⟨w1, hw1⟩ : ∃ w1, w1 = w.alloc (.cells #[.slice none 0 0] 29) := ⟨_, rfl⟩
  rw [← hw1] at B1 Z1 S1 ⊢
  clear hw1
  go_at_call 26
  refine (HC1.out w1).mono ?_
  rintro e w2 ⟨v2, rfl, ho2, hb2⟩
  obtain ⟨gl, cl, rfl, hgl1, hgl2⟩ := World.ownsRow.form ho2 (by rw [wB_length]; exact hL0)
  rw [wB_length]
  have CL2 := hide (show ∀ j (h : j < L.length), w2.cell? ⟨gl, j, none⟩ = some (.string ⟨L[j].toArray⟩) from fun j h => by
    have := (Ss.cell ho2 j (by rw [wB_length]; exact h)).1
    rw [wB_get] at this
    exact this)
  have B2 := hide (B1.out.trans (hb2.mono B1.out.size))
  have Z2 := hide (show w2.heap[w.heap.size]? = some (.cells #[.slice none 0 0] 29 (0, 0)) by rw [hb2.block _ (by rw [S1.out]; omega)]; exact Z1.out)
  have hs2 : w.heap.size < gl := by have := S1.out; omega
  clear hb2 ho2 hgl1
  have B3 := hide ((Below.refl w2.heap.size w2).alloc (Nat.le_refl _) (.cells #[.slice none 0 0] 29))
  have Z3 := hide (heap_alloc_new w2 (.cells #[.slice none 0 0] 29))
  have S3 := hide (alloc_size w2 (.cells #[.slice none 0 0] 29))
  have c0 : (w2.alloc (.cells #[.slice none 0 0] 29)).cell? ⟨gl, 0, none⟩ = some (.string ⟨L[0].toArray⟩) := by
    rw [B3.out.cell (p := ⟨gl, 0, none⟩) hgl2]; exact CL2.out 0 hL0
  obtain ⟨l0, hl0⟩ : ∃ l0, l0 = L[0] := ⟨_, rfl⟩
  rw [← hl0] at c0 HC2
  clear hl0
  go_wp2_with fail
  go_at_call 26
  refine (HC2.out _).mono ?_
  rintro e w4 ⟨v4, rfl, ho4, hb4⟩
  obtain ⟨gn, cn, rfl, hgn1, hgn2⟩ := World.ownsRow.form ho4 (by rw [wB_length]; exact hN0)
  rw [wB_length]
  have CN4 := hide (show ∀ j (h : j < N.length), w4.cell? ⟨gn, j, none⟩ = some (.string ⟨N[j].toArray⟩) from fun j h => by
    have := (Ss.cell ho4 j (by rw [wB_length]; exact h)).1
    rw [wB_get] at this
    exact this)
  have CL4 := hide (show ∀ j (h : j < L.length), w4.cell? ⟨gl, j, none⟩ = some (.string ⟨L[j].toArray⟩) from fun j h => by
    rw [hb4.cell (p := ⟨gl, j, none⟩) (by simp only; rw [S3.out]; omega), B3.out.cell (p := ⟨gl, j, none⟩) hgl2]; exact CL2.out j h)
  obtain ⟨bt, hbt⟩ : ∃ bt, bt = w2.heap.size := ⟨_, rfl⟩
  have B4 := hide ((B2.out.trans (B3.out.mono B2.out.size)).trans (hb4.mono (Nat.le_trans B2.out.size B3.out.size)))
  have Z4 := hide (show w4.heap[w.heap.size]? = some (.cells #[.slice none 0 0] 29 (0, 0)) by
    rw [hb4.block _ (by rw [S3.out]; omega), B3.out.block _ (by omega)]; exact Z2.out)
  have T4 := hide (show w4.heap[bt]? = some (.cells #[.slice none 0 0] 29 (0, 0)) by
    rw [hbt, hb4.block _ (by rw [S3.out]; omega)]; exact Z3.out)
  have hg1 : w.heap.size < gl ∧ gl < bt ∧ bt < gn ∧ gn < w4.heap.size := ⟨hs2, by omega, by have := S3.out; omega, hgn2⟩
  rw [← hbt]
  clear hb4 ho4 hgn1 hgn2 hbt c0 hs2 hgl2 CL2 Z1 Z2 Z3 S1 S3 B1 B2 B3
  go_wp2_with fail
  go_loopw [7] (fun i wr => ∃ (k : Nat) (v : Value) (F : List Nat), k ≤ N.length ∧ i = .int .i64 k ∧ Hid (wr.heap[bt]? = some (.cells #[v] 29 (0, 0))) ∧ Hid (colsE wr v ((nameC N).take k) F) ∧ Hid (∀ b ∈ F, w4.heap.size ≤ b) ∧ Hid (Only [bt] w4 wr)) (fun i _ => N.length - (intOf i).toNat)
  case atStart => exact ⟨0, _, [], by omega, rfl, T4.out, .inl ⟨rfl, by simp, rfl⟩, by intro b hb; simp at hb, Only.refl _ _⟩
  case round =>
    obtain ⟨k, v, F, hk, rfl, ht, hc, hF, ho⟩ := hrel
    by_cases hlt : k < N.length
    · have ctb := (cell_blk ht.out).1
      have ftb := (cell_blk ht.out).2
      have cn : wr.cell? ⟨gn, k, none⟩ = some (.string ⟨N[k].toArray⟩) := by
        rw [ho.out.cell (p := ⟨gn, k, none⟩) hg1.2.2.2 (by simp; omega)]; exact CN4.out k hlt
      obtain ⟨nk, hnk⟩ : ∃ nk, nk = N[k] := ⟨_, rfl⟩
      rw [← hnk] at cn
      have HNK := hide hnk
      have hkl : ((nameC N).take k).length = k := by simp [nameC]; omega
      have HKL := hide hkl
      obtain ⟨av, capv, hvf, -⟩ := hc.out.form
      rw [hkl] at hvf
      subst hvf
      clear hnk hkl
      have hb7 : Below wr.heap.size wr (wr.alloc (.cells #[.string ⟨nk.toArray⟩, .slice none 0 0] 42)).drew := ((Below.refl _ _).alloc (Nat.le_refl _) _).drew
      have hs7 : (wr.alloc (.cells #[.string ⟨nk.toArray⟩, .slice none 0 0] 42)).drew.heap.size = wr.heap.size + 1 := alloc_size wr _
      have HC7 := hide (slE.below colE_good hc.out hb7)
      have HH7 := hide (show (wr.alloc (.cells #[.string ⟨nk.toArray⟩, .slice none 0 0] 42)).drew.heap[wr.heap.size]? = some (.cells #[.string ⟨nk.toArray⟩, .slice none 0 0] 42 (0, 0)) from heap_alloc_new wr _)
      have HT7 := hide (show (wr.alloc (.cells #[.string ⟨nk.toArray⟩, .slice none 0 0] 42)).drew.heap[bt]? = some (.cells #[.slice av k capv] 29 (0, 0)) by
        rw [hb7.block bt (Array.getElem?_eq_some_iff.1 ht.out).1]; exact ht.out)
      have HLT7 := hide (show ((nameC N).take k).length < 1099511627776 by rw [HKL.out]; omega)
      have HNF := hide (show bt ∉ F from fun hh => by have := hF.out _ hh; omega)
      have HB7 := hide hb7
      have HS7 := hide hs7
      have c7 : (wr.alloc (.cells #[.string ⟨nk.toArray⟩, .slice none 0 0] 42)).cell? ⟨bt, 0, none⟩ = some (.slice av k capv) := (cell_blk HT7.out).1
      clear hb7 hs7
      go_wp2_with fail
      go_region_law ((refine step_cols _ (by rfl) _ _ (by rfl) _ _ F (by rfl) HC7.out ⟨nk.toArray⟩ wr.heap.size _ (by rfl) HH7.out HLT7.out ?_; intro g cap F' w9 hc9 hF9 ho9; have ht9 := hide ((ho9.block bt (Array.getElem?_eq_some_iff.1 HT7.out).1 HNF.out).trans HT7.out); have c9 := (cell_blk ht9.out).1; have f9 := (cell_blk ht9.out).2; have HC9 := hide hc9; have HF9 := hide hF9; have HO9 := hide ho9; clear hc9 hF9 ho9))
      all_goals
        go_wp2_with fail
        go_roundw
        case rel =>
          have hlo : ∀ b ∈ F', w4.heap.size ≤ b := fun b hb => by
            rcases HF9.out b hb with h | h
            · exact hF.out b h
            · have := HS7.out
              have := ho.out.below.size
              omega
          have hbt : bt < w4.heap.size := by omega
          have o1 : Only [bt] w4 (wr.alloc (.cells #[.string ⟨nk.toArray⟩, .slice none 0 0] 42)).drew := ho.out.trans (Only.of_below HB7.out)
          have o2 : Only [bt] w4 w9 := ⟨o1.below.trans HO9.out.below, fun b hb hn => (HO9.out.block b (Nat.lt_of_lt_of_le hb o1.below.size) (fun hh => by have := hF.out b hh; omega)).trans (o1.block b hb hn)⟩
          refine ⟨k + 1, _, F', by omega, by go_num, blk_set ht9.out, ?_, hlo, o2.setCell (p := ⟨bt, 0, none⟩) (by simp) _⟩
          show colsE _ _ _ _
          rw [List.take_succ_eq_append_getElem (show k < (nameC N).length by simpa [nameC] using hlt), nameC_get N k hlt, ← HNK.out]
          exact slE.only colE_good (by have := HC9.out; rw [List.length_take] at this; exact this) (Only.setCell (F := [bt]) (Only.refl _ _) (by simp) _) (fun b hb hbg => by simp at hbg; have := hlo b hb; omega)
        case measure => simp [intOf]; omega
    · have hke : k = N.length := by omega
      subst hke
      have hfull : (nameC N).take N.length = nameC N := List.take_of_length_le (by simp [nameC])
      rw [hfull] at hc
      have hnl : (nameC N).length = N.length := by simp [nameC]
      have hform := hc.out.form
      rw [hnl] at hform
      obtain ⟨av, capv, rfl, -⟩ := hform
      have hok : BldOk (nameC N) N.length 0 := ⟨hnl, fun c hcc => by
        obtain ⟨wd, hw, rfl⟩ := List.mem_map.1 hcc
        exact ⟨by have := HNM.out wd hw; simpa [ByteArray.size] using this, by simp, by simp⟩⟩
      have HOK := hide hok
      clear hfull hnl hok
      obtain ⟨M, hM⟩ : ∃ M, M = (L.drop 1).dropLast := ⟨_, rfl⟩
      have hMl : M.length = L.length - 2 := by rw [hM]; simp; omega
      have HMg := hide (show ∀ j (h : j < M.length), M[j] = L[j + 1]'(by omega) from fun j h => by simp only [hM]; simp [Nat.add_comm])
      rw [← hM] at HR
      clear hM
      go_wp2_with fail
      go_loopw [8] (fun i wo => ∃ (k : Nat) (cs : List Col) (F : List Nat), 1 ≤ k ∧ (k = 1 ∨ k + 1 ≤ L.length) ∧ i = .int .i64 k ∧ Hid (cs = (M.take (k - 1)).foldl (fun cs l => bldRow cs (cutL 32 l)) (nameC N)) ∧ Hid (BldOk cs N.length k) ∧ Hid (wo.heap[bt]? = some (.cells #[.slice av N.length capv] 29 (0, 0))) ∧ Hid (colsE wo (.slice av N.length capv) cs F) ∧ Hid (∀ b ∈ F, w4.heap.size ≤ b) ∧ Hid (Only [bt] w4 wo)) (fun i _ => L.length - (intOf i).toNat)
      case atStart => exact ⟨1, _, F, by omega, .inl rfl, rfl, rfl, ⟨HOK.out.1, fun c hcc => by have := HOK.out.2 c hcc; exact ⟨this.1, by omega, this.2.2⟩⟩, ht.out, hc.out, hF.out, ho.out⟩
      case round =>
        clear ht hc hF ho HOK
        obtain ⟨k, cs, F, hk1, hk2, rfl, hcs, hok, ht, hc, hF, ho⟩ := hrel
        by_cases hlt : k + 1 < L.length
        · have cl : wr.cell? ⟨gl, k, none⟩ = some (.string ⟨L[k].toArray⟩) := by
            rw [ho.out.cell (p := ⟨gl, k, none⟩) (by simp only; omega) (by simp; omega)]; exact CL4.out k (by omega)
          obtain ⟨lk, hlk⟩ : ∃ lk, lk = L[k] := ⟨_, rfl⟩
          rw [← hlk] at cl
          have hlkl : lk.length ≤ 1048576 := by rw [hlk]; exact HLM.out _ (List.getElem_mem _)
          have HLK := hide (show lk = M[k - 1]'(by omega) by rw [hlk, HMg.out]; congr 1; omega)
          have hsk : (ByteArray.mk lk.toArray).size ≤ 1048576 := by simpa [ByteArray.size] using hlkl
          have HC3 := hide (fun W : World => sCut_any ⟨lk.toArray⟩ 32 32 (by decide) W hsk)
          have hW0 := cutL_ne 32 lk
          have hW1 := cutL_len 32 lk
          have hW2 := cutL_mem 32 lk
          obtain ⟨Wd, hWd⟩ : ∃ Wd, Wd = cutL 32 lk := ⟨_, rfl⟩
          rw [show (ByteArray.mk lk.toArray).data.toList = lk from by simp, ← hWd] at HC3
          rw [← hWd] at hW0 hW1 hW2
          have hWl : Wd.length ≤ 1048577 := by omega
          have HWM := hide (show ∀ x ∈ Wd, x.length ≤ 1048576 from fun x hx => by have := hW2 x hx; omega)
          have HWD := hide hWd
          clear hlk hWd hW1 hW2 hsk hlkl
          go_wp2_with fail
          go_at_call 26
          refine (HC3.out wr).mono ?_
          rintro e w5 ⟨v5, rfl, ho5, hb5⟩
          obtain ⟨gw, cw, rfl, hgw1, hgw2⟩ := World.ownsRow.form ho5 (by rw [wB_length]; exact hW0)
          rw [wB_length]
          have CW5 := hide (show ∀ j (h : j < Wd.length), w5.cell? ⟨gw, j, none⟩ = some (.string ⟨Wd[j].toArray⟩) from fun j h => by
            have := (Ss.cell ho5 j (by rw [wB_length]; exact h)).1
            rw [wB_get] at this
            exact this)
          have T5 := hide (show w5.heap[bt]? = some (.cells #[.slice av N.length capv] 29 (0, 0)) by rw [hb5.block bt (Array.getElem?_eq_some_iff.1 ht.out).1]; exact ht.out)
          have C5 := hide (slE.below colE_good hc.out hb5)
          have O5 := hide (ho.out.trans (Only.of_below hb5))
          have FLT := hide (slE.lt colE_good hc.out)
          have hgw3 : w4.heap.size ≤ gw := Nat.le_trans ho.out.below.size hgw1
          have GWF := hide (show ∀ b ∈ F, b ≠ gw from fun b hb e => by have := FLT.out b hb; omega)
          clear ho5 hb5 cl
          go_wp2_with fail
          go_loopw [10] (fun i wr => ∃ (q : Nat) (F' : List Nat), q ≤ Wd.length ∧ q ≤ N.length ∧ i = .int .i64 q ∧ Hid (wr.heap[bt]? = some (.cells #[.slice av N.length capv] 29 (0, 0))) ∧ Hid (colsE wr (.slice av N.length capv) (bldRow cs (Wd.take q)) F') ∧ Hid (∀ b ∈ F', w4.heap.size ≤ b ∧ b ≠ gw) ∧ Hid (Only [bt] w4 wr) ∧ Hid (wr.heap[gw]? = w5.heap[gw]?) ∧ Hid (w5.heap.size ≤ wr.heap.size)) (fun i _ => Wd.length - (intOf i).toNat)
          case atStart => exact ⟨0, F, by omega, by omega, rfl, T5.out, by show colsE _ _ _ _; rw [List.take_zero]; cases cs <;> exact C5.out, fun b hb => ⟨hF.out b hb, GWF.out b hb⟩, O5.out, rfl, Nat.le_refl _⟩
          case round =>
            clear ht hc hF ho T5 C5 O5
            obtain ⟨q, F', hq1, hq2, rfl, ht, hc, hF, ho, hgwk, hsz⟩ := hrel
            by_cases hq : q < Wd.length ∧ q < N.length
            · obtain ⟨hqw, hqn⟩ := hq
              have hcl : cs.length = N.length := hok.out.1
              have hbl : (bldRow cs (Wd.take q)).length = N.length := by rw [bldRow_length]; exact hcl
              have hbs := bldRow_step cs Wd q (by omega) hqw
              have ctb := (cell_blk ht.out).1
              have ftb := (cell_blk ht.out).2
              have cwq : wr.cell? ⟨gw, q, none⟩ = some (.string ⟨Wd[q].toArray⟩) := by
                rw [World.cell?_of_block (w := w5) (a := ⟨gw, q, none⟩) hgwk.out]; exact CW5.out q hqw
              have hwl := HWM.out _ (List.getElem_mem hqw)
              obtain ⟨wq, hwq⟩ : ∃ wq, wq = Wd[q] := ⟨_, rfl⟩
              rw [← hwq] at cwq hwl hbs
              have hsq : (ByteArray.mk wq.toArray).size ≤ 1048576 := by simpa [ByteArray.size] using hwl
              obtain ⟨x, hx⟩ : ∃ x, x = numP wq := ⟨_, rfl⟩
              have HSN := hide (fun W : World => sNum_any ⟨wq.toArray⟩ W hsq)
              rw [show (ByteArray.mk wq.toArray).data.toList = wq from by simp, ← hx] at HSN
              rw [← hx] at hbs
              have HCT := hide (slE.lt colE_good hc.out)
              obtain ⟨g, cap, au, capu, Fj, hv, hgs, hgF, hgj, hjF, ccol, fcol, hoi, hpush⟩ := col_app hc.out q (by rw [hbl]; exact hqn)
              rw [hbl] at hv
              obtain ⟨rfl, rfl⟩ : av = some ⟨g, 0, none⟩ ∧ capv = cap := by
                simp only [Value.slice.injEq] at hv
                exact ⟨hv.1, hv.2.2⟩
              rw [hbs.1] at ccol hoi hpush
              replace hpush := fun (w6 : World) (g' capx : Nat) => hpush w6 g' capx x
              rw [hbs.2] at hpush
              have hl64 : cs[q].2.length ≤ k := (hok.out.2 _ (List.getElem_mem _)).2.1
              obtain ⟨l, hl⟩ : ∃ l, l = cs[q].2 := ⟨_, rfl⟩
              rw [← hl] at ccol hoi hpush hl64
              have fq := fcol (q * 2 + 1)
              have HPU := hide hpush
              have HOI := hide hoi
              have HGJ := hide hgj
              have HJF := hide hjF
              have hgt : g ≠ bt := fun e => by have := (hF.out g hgF).1; omega
              have HGT := hide (And.intro hgs (And.intro hgF hgt))
              have HGWJ := hide (show gw ∉ Fj from fun hh => (hF.out _ (hjF _ hh)).2 rfl)
              have HBJ := hide (show bt ∉ Fj from fun hh => by have := (hF.out _ (hjF _ hh)).1; omega)
              have HTL := hide (Array.getElem?_eq_some_iff.1 ht.out).1
              have INNER := hide (show ∀ (w9 : World) (g' capx : Nat), OI w9 3 (.slice (some ⟨g', 0, none⟩) (l.length + 1) capx) (l ++ [x]) [g'] → (g' ∈ Fj ∨ wr.heap.size ≤ g') → Only Fj wr w9 →
                  ∃ (q' : Nat) (F' : List Nat), q' ≤ Wd.length ∧ q' ≤ N.length ∧ Value.int .i64 ((q : Int) + 1) = .int .i64 q' ∧ Hid ((w9.setCell ⟨g, q * 2 + 1, none⟩ (.slice (some ⟨g', 0, none⟩) (l.length + 1) capx)).heap[bt]? = some (.cells #[.slice (some ⟨g, 0, none⟩) N.length capv] 29 (0, 0))) ∧ Hid (colsE (w9.setCell ⟨g, q * 2 + 1, none⟩ (.slice (some ⟨g', 0, none⟩) (l.length + 1) capx)) (.slice (some ⟨g, 0, none⟩) N.length capv) (bldRow cs (Wd.take q')) F') ∧ Hid (∀ b ∈ F', w4.heap.size ≤ b ∧ b ≠ gw) ∧ Hid (Only [bt] w4 (w9.setCell ⟨g, q * 2 + 1, none⟩ (.slice (some ⟨g', 0, none⟩) (l.length + 1) capx))) ∧ Hid ((w9.setCell ⟨g, q * 2 + 1, none⟩ (.slice (some ⟨g', 0, none⟩) (l.length + 1) capx)).heap[gw]? = w5.heap[gw]?) ∧ Hid (w5.heap.size ≤ (w9.setCell ⟨g, q * 2 + 1, none⟩ (.slice (some ⟨g', 0, none⟩) (l.length + 1) capx)).heap.size) from fun w9 g' capx hoi9 hg9 ho9 => by
                obtain ⟨F2, hc2, hF2⟩ := hpush w9 g' capx hoi9 hg9 ho9
                have hbt := (Array.getElem?_eq_some_iff.1 ht.out).1
                have hgg := hF.out g hgF
                have hszw := hsz.out
                have hs4 := ho.out.below.size
                have far : ∀ b, b < wr.heap.size → b ∉ Fj → b ≠ g → (w9.setCell ⟨g, q * 2 + 1, none⟩ (.slice (some ⟨g', 0, none⟩) (l.length + 1) capx)).heap[b]? = wr.heap[b]? := fun b h1 h2 h3 => (Below.heap_setCell _ _ _ _ h3).trans (ho9.block b h1 h2)
                have hjge : ∀ b ∈ Fj, w4.heap.size ≤ b ∧ b ≠ gw := fun b hb => hF.out b (hjF b hb)
                have hb9 : Below 0 wr (w9.setCell ⟨g, q * 2 + 1, none⟩ (.slice (some ⟨g', 0, none⟩) (l.length + 1) capx)) := ho9.below.setCell (p := ⟨g, q * 2 + 1, none⟩) (Nat.zero_le _) _
                refine ⟨q + 1, F2, by omega, by omega, by simp, (far bt hbt (fun hh => by have := (hjge _ hh).1; omega) (fun e => hgt e.symm)).trans ht.out, hc2, fun b hb => ?_, ?_, (far gw (by omega) (fun hh => (hjge _ hh).2 rfl) (fun e => hgg.2 e.symm)).trans hgwk.out, Nat.le_trans hszw hb9.size⟩
                · rcases hF2 b hb with h | h
                  · exact hF.out b h
                  · exact ⟨by omega, by omega⟩
                · exact ⟨ho.out.below.trans hb9, fun b h1 h2 => (far b (by omega) (fun hh => by have := (hjge _ hh).1; omega) (by omega)).trans (ho.out.block b h1 h2)⟩)
              clear hbs hwl hwq hsq hx hv hgs hgF hgj hjF fcol hoi hpush hl hgt hbl hcl
              go_wp2_with fail
              have hi0 : (0 : Int) ≤ (q : Int) := Int.natCast_nonneg _
              have hi1 : (q : Int) < (N.length : Int) := by omega
              have hi2 : (q : Int) < (Wd.length : Int) := by omega
              have HGW := hide (show gw < wr.heap.size by have := hsz.out; omega)
              have HGN := hide (show gw ∉ Fj from HGWJ.out)
              refine Heads.region (S := fun w' => w'.cell? ⟨bt, 0, none⟩ = some (.slice (some ⟨g, 0, none⟩) N.length capv) ∧ w'.cell? ⟨g, q * 2 + 1, none⟩ = some (.slice au l.length capu) ∧ w'.cell? ⟨gw, q, none⟩ = some (.string ⟨wq.toArray⟩) ∧ w'.frozen? ⟨g, q * 2 + 1, none⟩ = false) (n := 18) (by kernel_rfl) rfl ⟨ctb, ccol, cwq, fq⟩ (fun hS => ?_)
              refine Heads.take (i := 0) (v := (.pointer (some ⟨bt, 0, none⟩))) rfl (by kernel_rfl) (by kernel_rfl) (by kernel_rfl) (by kernel_rfl) (by decide) (fun _ _ _ h => h) (by rfl) (by rintro w ⟨s1, s2, s3, s4⟩; go_simp) hS ?_
              try simp only [Act.put, List.setIfInBounds_toArray, List.set_cons_zero, List.set_cons_succ]
              refine Heads.take (i := 1) (v := (.slice (some ⟨g, 0, none⟩) N.length capv)) rfl (by kernel_rfl) (by kernel_rfl) (by kernel_rfl) (by kernel_rfl) (by decide) (fun _ _ _ h => h) (by rfl) (by rintro w ⟨s1, s2, s3, s4⟩; go_simp) hS ?_
              try simp only [Act.put, List.setIfInBounds_toArray, List.set_cons_zero, List.set_cons_succ]
              refine Heads.take (i := 2) (v := (.int .i64 q)) rfl (by kernel_rfl) (by kernel_rfl) (by kernel_rfl) (by kernel_rfl) (by decide) (fun _ _ _ h => h) (by rfl) (by rintro w ⟨s1, s2, s3, s4⟩; go_simp) hS ?_
              try simp only [Act.put, List.setIfInBounds_toArray, List.set_cons_zero, List.set_cons_succ]
              refine Heads.take (i := 3) (v := (.pointer (some ⟨bt, 0, none⟩))) rfl (by kernel_rfl) (by kernel_rfl) (by kernel_rfl) (by kernel_rfl) (by decide) (fun _ _ _ h => h) (by rfl) (by rintro w ⟨s1, s2, s3, s4⟩; go_simp) hS ?_
              try simp only [Act.put, List.setIfInBounds_toArray, List.set_cons_zero, List.set_cons_succ]
              refine Heads.take (i := 4) (v := (.slice (some ⟨g, 0, none⟩) N.length capv)) rfl (by kernel_rfl) (by kernel_rfl) (by kernel_rfl) (by kernel_rfl) (by decide) (fun _ _ _ h => h) (by rfl) (by rintro w ⟨s1, s2, s3, s4⟩; go_simp) hS ?_
              try simp only [Act.put, List.setIfInBounds_toArray, List.set_cons_zero, List.set_cons_succ]
              refine Heads.take (i := 5) (v := (.int .i64 q)) rfl (by kernel_rfl) (by kernel_rfl) (by kernel_rfl) (by kernel_rfl) (by decide) (fun _ _ _ h => h) (by rfl) (by rintro w ⟨s1, s2, s3, s4⟩; go_simp) hS ?_
              try simp only [Act.put, List.setIfInBounds_toArray, List.set_cons_zero, List.set_cons_succ]
              refine Heads.take (i := 6) (v := (.pointer (some ⟨g, q * 2, none⟩))) rfl (by kernel_rfl) (by kernel_rfl) (by kernel_rfl) (by kernel_rfl) (by decide) (fun _ _ _ h => h) (by rfl) (by rintro w ⟨s1, s2, s3, s4⟩; go_simp) hS ?_
              try simp only [Act.put, List.setIfInBounds_toArray, List.set_cons_zero, List.set_cons_succ]
              refine Heads.take (i := 7) (v := (.pointer (some ⟨g, q * 2 + 1, none⟩))) rfl (by kernel_rfl) (by kernel_rfl) (by kernel_rfl) (by kernel_rfl) (by decide) (fun _ _ _ h => h) (by rfl) (by rintro w ⟨s1, s2, s3, s4⟩; go_simp) hS ?_
              try simp only [Act.put, List.setIfInBounds_toArray, List.set_cons_zero, List.set_cons_succ]
              refine Heads.take (i := 8) (v := (.slice au l.length capu)) rfl (by kernel_rfl) (by kernel_rfl) (by kernel_rfl) (by kernel_rfl) (by decide) (fun _ _ _ h => h) (by rfl) (by rintro w ⟨s1, s2, s3, s4⟩; go_simp) hS ?_
              try simp only [Act.put, List.setIfInBounds_toArray, List.set_cons_zero, List.set_cons_succ]
              refine Heads.take (i := 9) (v := (.slice (some ⟨gw, 0, none⟩) Wd.length cw)) rfl (by kernel_rfl) (by kernel_rfl) (by kernel_rfl) (by kernel_rfl) (by decide) (fun _ _ _ h => h) (by rfl) (by rintro w ⟨s1, s2, s3, s4⟩; go_simp) hS ?_
              try simp only [Act.put, List.setIfInBounds_toArray, List.set_cons_zero, List.set_cons_succ]
              refine Heads.take (i := 10) (v := (.int .i64 q)) rfl (by kernel_rfl) (by kernel_rfl) (by kernel_rfl) (by kernel_rfl) (by decide) (fun _ _ _ h => h) (by rfl) (by rintro w ⟨s1, s2, s3, s4⟩; go_simp) hS ?_
              try simp only [Act.put, List.setIfInBounds_toArray, List.set_cons_zero, List.set_cons_succ]
              refine Heads.take (i := 11) (v := (.pointer (some ⟨gw, q, none⟩))) rfl (by kernel_rfl) (by kernel_rfl) (by kernel_rfl) (by kernel_rfl) (by decide) (fun _ _ _ h => h) (by rfl) (by rintro w ⟨s1, s2, s3, s4⟩; go_simp) hS ?_
              try simp only [Act.put, List.setIfInBounds_toArray, List.set_cons_zero, List.set_cons_succ]
              refine Heads.take (i := 12) (v := (.string ⟨wq.toArray⟩)) rfl (by kernel_rfl) (by kernel_rfl) (by kernel_rfl) (by kernel_rfl) (by decide) (fun _ _ _ h => h) (by rfl) (by rintro w ⟨s1, s2, s3, s4⟩; go_simp) hS ?_
              try simp only [Act.put, List.setIfInBounds_toArray, List.set_cons_zero, List.set_cons_succ]
              refine Heads.one (i := 13) (by kernel_rfl) (by decide) rfl (fun K hK => ?_)
              go_simp
              go_at_call 27
              refine (HSN.out _).mono ?_
              rintro e wa ⟨rfl, hba⟩
              replace hba : Below wr.heap.size wr wa := ((Below.refl wr.heap.size wr).drew).trans hba
              have a1 : wa.cell? ⟨bt, 0, none⟩ = some (.slice (some ⟨g, 0, none⟩) N.length capv) := (hba.cell (p := ⟨bt, 0, none⟩) HTL.out).trans ctb
              have a2 : wa.cell? ⟨g, q * 2 + 1, none⟩ = some (.slice au l.length capu) := (hba.cell (p := ⟨g, q * 2 + 1, none⟩) HGT.out.1).trans ccol
              have a6 : wa.cell? ⟨gw, q, none⟩ = some (.string ⟨wq.toArray⟩) := (hba.cell (p := ⟨gw, q, none⟩) HGW.out).trans cwq
              have a7 : wa.frozen? ⟨g, q * 2 + 1, none⟩ = false := (hba.frozen (p := ⟨g, q * 2 + 1, none⟩) HGT.out.1).trans fq
              have HBA := hide hba
              clear hba hS
              refine hK.out _ _ ⟨a1, a2, a6, a7⟩ ?_
              clear hK K
              try simp only [Act.put, List.setIfInBounds_toArray, List.set_cons_zero, List.set_cons_succ]
              have hbb : Below wa.heap.size wa (wa.alloc (.cells #[.int .i64 x] 3)) := (Below.refl _ _).alloc (Nat.le_refl _) _
              have a3 : (wa.alloc (.cells #[.int .i64 x] 3)).cell? ⟨bt, 0, none⟩ = some (.slice (some ⟨g, 0, none⟩) N.length capv) := (hbb.cell (p := ⟨bt, 0, none⟩) (Nat.lt_of_lt_of_le HTL.out HBA.out.size)).trans a1
              have a4 : (wa.alloc (.cells #[.int .i64 x] 3)).cell? ⟨g, q * 2 + 1, none⟩ = some (.slice au l.length capu) := (hbb.cell (p := ⟨g, q * 2 + 1, none⟩) (Nat.lt_of_lt_of_le HGT.out.1 HBA.out.size)).trans a2
              have a5 : (wa.alloc (.cells #[.int .i64 x] 3)).frozen? ⟨g, q * 2 + 1, none⟩ = false := (hbb.frozen (p := ⟨g, q * 2 + 1, none⟩) (Nat.lt_of_lt_of_le HGT.out.1 HBA.out.size)).trans a7
              have a8 : (wa.alloc (.cells #[.int .i64 x] 3)).cell? ⟨gw, q, none⟩ = some (.string ⟨wq.toArray⟩) := (hbb.cell (p := ⟨gw, q, none⟩) (Nat.lt_of_lt_of_le HGW.out HBA.out.size)).trans a6
              have HTA := hide (show bt < (wa.alloc (.cells #[.int .i64 x] 3)).heap.size from Nat.lt_of_lt_of_le (Nat.lt_of_lt_of_le HTL.out HBA.out.size) hbb.size)
              have HGA := hide (show g < (wa.alloc (.cells #[.int .i64 x] 3)).heap.size from Nat.lt_of_lt_of_le (Nat.lt_of_lt_of_le HGT.out.1 HBA.out.size) hbb.size)
              have HWA := hide (show gw < (wa.alloc (.cells #[.int .i64 x] 3)).heap.size from Nat.lt_of_lt_of_le (Nat.lt_of_lt_of_le HGW.out HBA.out.size) hbb.size)
              have HOA := hide ((HOI.out.below HBA.out).below hbb)
              have HHA := hide (show (wa.alloc (.cells #[.int .i64 x] 3)).heap[wa.heap.size]? = some (.cells #[.int .i64 x] 3 (0, 0)) from heap_alloc_new wa _)
              have HBB := hide hbb
              clear hbb
              refine Heads.one (i := 14) (by kernel_rfl) (by decide) rfl (fun K hK => ?_)
              go_simp
              refine hK.out _ _ ⟨a3, a4, a8, a5⟩ ?_
              clear hK K
              try simp only [Act.put, List.setIfInBounds_toArray, List.set_cons_zero, List.set_cons_succ]
              refine Heads.one (i := 15) (by kernel_rfl) (by decide) rfl (fun K hK => ?_)
              refine step_oi _ (by rfl) _ _ (by rfl) _ l Fj (by rfl) HOA.out x wa.heap.size _ (by rfl) HHA.out (by omega) ?_
              intro g' capx w9 ho9 hg9 hw9
              have b9 := (hw9.cell (p := ⟨bt, 0, none⟩) HTA.out HBJ.out).trans a3
              have c9 := (hw9.cell (p := ⟨g, q * 2 + 1, none⟩) HGA.out HGJ.out).trans a4
              have d9 := (hw9.cell (p := ⟨gw, q, none⟩) HWA.out HGN.out).trans a8
              have f9 := (hw9.frozen (p := ⟨g, q * 2 + 1, none⟩) HGA.out HGJ.out).trans a5
              have HO9 := hide ho9
              have HG9 := hide hg9
              have HW9 := hide hw9
              clear ho9 hg9 hw9
              refine hK.out _ _ ⟨b9, c9, d9, f9⟩ ?_
              clear hK K
              try simp only [Act.put, List.setIfInBounds_toArray, List.set_cons_zero, List.set_cons_succ]
              refine Heads.one (i := 16) (by kernel_rfl) (by decide) rfl (fun K hK => ?_)
              go_simp
              refine hK.out _ _ ⟨b9, c9, d9, f9⟩ ?_
              clear hK K
              try simp only [Act.put, List.setIfInBounds_toArray, List.set_cons_zero, List.set_cons_succ]
              refine Heads.one (i := 17) (by kernel_rfl) (by decide) rfl (fun K hK => ?_)
              go_simp
              refine hK.out _ _ ⟨b9, c9, d9, f9⟩ ?_
              clear hK K
              try simp only [Act.put, List.setIfInBounds_toArray, List.set_cons_zero, List.set_cons_succ]
              refine Heads.last (by kernel_rfl) rfl (by kernel_rfl) (fun K hK => ?_)
              go_simp
              refine hK.out _ _ ?_
              clear hK K
              go_wp2_with fail
              go_roundw
              case rel =>
                have o1 : Only Fj wr w9 := ((Only.of_below HBA.out).trans (Only.of_below HBB.out)).trans HW9.out
                have hs1 : wr.heap.size ≤ (wa.alloc (.cells #[.int .i64 x] 3)).heap.size := Nat.le_trans HBA.out.size HBB.out.size
                exact INNER.out w9 g' capx HO9.out (HG9.out.imp id fun h => Nat.le_trans hs1 h) o1
              case measure => simp [intOf]; omega
            · have hover : cs.length ≤ q ∨ Wd.length ≤ q := by have := hok.out.1; omega
              have OVER := hide (bldRow_over cs Wd q hover)
              have hnextr : Hid (colsE wr (.slice av N.length capv) (bldRow cs Wd) F') := by rw [← OVER.out]; exact hc
              have hokn := hide (hok.out.row Wd)
              have hcsn := hide (show bldRow cs Wd = (M.take (k + 1 - 1)).foldl (fun cs l => bldRow cs (cutL 32 l)) (nameC N) by
                rw [show k + 1 - 1 = (k - 1) + 1 by omega, List.take_succ_eq_append_getElem (show k - 1 < M.length by omega), List.foldl_append, ← hcs.out]
                have e1 : cutL 32 (M[k - 1]'(by omega)) = Wd := by rw [← HLK.out]; exact HWD.out.symm
                show bldRow cs Wd = bldRow cs (cutL 32 (M[k - 1]'(by omega)))
                rw [e1])
              clear hc hover
              by_cases hqw : q < Wd.length
              · have hqn : ¬ q < N.length := fun h => hq ⟨hqw, h⟩
                go_wp2_with fail
                go_roundw
                case rel => exact ⟨k + 1, _, F', by omega, .inr (by omega), by go_num, hcsn, hokn, ht, hnextr, fun b hb => (hF.out b hb).1, ho⟩
                case measure => simp [intOf]; omega
              · go_wp2_with fail
                go_roundw
                case rel => exact ⟨k + 1, _, F', by omega, .inr (by omega), by go_num, hcsn, hokn, ht, hnextr, fun b hb => (hF.out b hb).1, ho⟩
                case measure => simp [intOf]; omega
        · have hkM : k - 1 = M.length := by omega
          have HRC := hide (show r = if isT cs = true ∧ fmtTab cs = s.data.toList then (cs, true) else ([], false) by
            have e : cs = M.foldl (fun cs l => bldRow cs (cutL 32 l)) (nameC N) := by
              have := hcs.out
              rw [hkM, List.take_of_length_le (Nat.le_refl _)] at this
              exact this
            rw [HR.out, ← e])
          have HSZ := hide (show ∀ c ∈ cs, c.1.size ≤ 9223372036854775807 ∧ ∀ x ∈ c.2, I64 x from fun c hcc => by
            have := hok.out.2 c hcc
            exact ⟨by omega, this.2.2⟩)
          have hcl := hok.out.1
          have hT : Tbl wr wr.heap.size (.agg #[.slice av N.length capv]) cs := ⟨_, rfl, colsE_cols hc.out (Nat.le_refl _) HSZ.out⟩
          have HTB := hide hT
          have ctb := (cell_blk ht.out).1
          obtain ⟨t0, ht0⟩ : ∃ t0, t0 = isT cs := ⟨_, rfl⟩
          have HIT := hide (sTable_any _ cs wr _ hT (Nat.le_refl _))
          rw [← ht0] at HIT HRC
          have HT0 := hide ht0
          have Zr := hide (show wr.heap[w.heap.size]? = some (.cells #[.slice none 0 0] 29 (0, 0)) by
            rw [ho.out.block _ (by omega) (by simp; omega)]; exact Z4.out)
          have BR := hide (show Below w.heap.size w wr from B4.out.trans (ho.out.toBelow (lo := w.heap.size) (by intro b hb; simp at hb; omega) (by omega)))
          have HFL := hide (show ∀ b ∈ F, w.heap.size < b from fun b hb => by have := hF.out b hb; omega)
          clear ht0 hT hcs hok HR
          go_wp2_with fail
          go_at_call 15
          refine HIT.out.mono ?_
          rintro e wb ⟨rfl, hbb⟩
          have Tb := hide (show wb.heap[bt]? = some (.cells #[.slice av N.length capv] 29 (0, 0)) by rw [hbb.block bt (Array.getElem?_eq_some_iff.1 ht.out).1]; exact ht.out)
          have Zb := hide (show wb.heap[w.heap.size]? = some (.cells #[.slice none 0 0] 29 (0, 0)) by rw [hbb.block _ (Array.getElem?_eq_some_iff.1 Zr.out).1]; exact Zr.out)
          have Bb := hide (BR.out.trans (hbb.mono BR.out.size))
          have Cb := hide (slE.below colE_good hc.out hbb)
          have TBb := hide (HTB.out.up hbb)
          have HCL := hide hcl
          clear hbb ctb
          have ctb := (cell_blk Tb.out).1
          have czb := (cell_blk Zb.out).1
          have fzb := (cell_blk Zb.out).2
          cases t0
          · have hrn := hide (show r = ([], false) by rw [HRC.out, if_neg (by simp)])
            go_wp2_with fail
            have e0 := (cell_blk (blk_set (y := .slice none 0 0) Zb.out)).1
            refine bodyPost_ret (v := .tuple #[.agg #[.slice none 0 0], .bool false]) (by simp [results, Tryd.results10, go_sem, e0]) rfl ?_
            rw [hrn.out]
            exact ⟨Bb.out.setCell (p := ⟨w.heap.size, 0, none⟩) (Nat.le_refl _) _, none, 0, [], rfl, .inl ⟨rfl, rfl, rfl⟩, by simp⟩
          · have HFT := hide (sFmt_any _ cs wb _ TBb.out (Nat.le_refl _))
            obtain ⟨fl, hfl⟩ : ∃ fl, fl = fmtTab cs := ⟨_, rfl⟩
            rw [← hfl] at HFT HRC
            clear hfl
            unfold RetS at HFT
            obtain ⟨fs, hfs⟩ : ∃ fs : ByteArray, fs = ⟨fl.toArray⟩ := ⟨_, rfl⟩
            rw [← hfs] at HFT
            have hfs2 : fl = s.data.toList ↔ fs = s := by
              rw [hfs]
              constructor
              · rintro rfl; simp
              · rintro rfl; simp
            have HFS := hide hfs2
            clear hfs hfs2
            by_cases heq : fl = s.data.toList
            · have htest : (fs.toList == s.toList) = true := by rw [HFS.out.1 heq]; simp
              have hrn := hide (show r = (cs, true) by rw [HRC.out, if_pos ⟨rfl, heq⟩])
              clear heq
              go_wp2_with fail
              go_at_call 6
              refine HFT.out.mono ?_
              rintro e wd ⟨rfl, hbd⟩
              have Td := hide (show wd.heap[bt]? = some (.cells #[.slice av N.length capv] 29 (0, 0)) by rw [hbd.block bt (Array.getElem?_eq_some_iff.1 Tb.out).1]; exact Tb.out)
              have Zd := hide (show wd.heap[w.heap.size]? = some (.cells #[.slice none 0 0] 29 (0, 0)) by rw [hbd.block _ (Array.getElem?_eq_some_iff.1 Zb.out).1]; exact Zb.out)
              have Bd := hide (Bb.out.trans (hbd.mono Bb.out.size))
              have Cd := hide (slE.below colE_good Cb.out hbd)
              clear hbd ctb czb fzb
              have ctb := (cell_blk Td.out).1
              have czb := (cell_blk Zd.out).1
              have fzb := (cell_blk Zd.out).2
              go_wp2_with fail
              have e0 := (cell_blk (blk_set (y := .slice av N.length capv) Zd.out)).1
              refine bodyPost_ret (v := .tuple #[.agg #[.slice av N.length capv], .bool true]) (by simp [results, Tryd.results10, go_sem, e0]) rfl ?_
              rw [hrn.out]
              have hlen := HCL.out
              refine ⟨Bd.out.setCell (p := ⟨w.heap.size, 0, none⟩) (Nat.le_refl _) _, av, capv, F, by simp only [hlen], ?_, fun b hb => Nat.le_of_lt (HFL.out b hb)⟩
              simp only [hlen]
              exact slE.only colE_good Cd.out (Only.setCell (F := [w.heap.size]) (Only.refl _ _) (by simp) _) (fun b hb hbg => by simp at hbg; have := HFL.out b hb; omega)
            · have htest : (fs.toList == s.toList) = false := by rw [beq_eq_false_iff_ne]; exact fun hh => heq (HFS.out.2 (bytes_inj hh))
              have hrn := hide (show r = ([], false) by rw [HRC.out, if_neg (fun h => heq h.2)])
              clear heq
              go_wp2_with fail
              go_at_call 6
              refine HFT.out.mono ?_
              rintro e wd ⟨rfl, hbd⟩
              have Zd := hide (show wd.heap[w.heap.size]? = some (.cells #[.slice none 0 0] 29 (0, 0)) by rw [hbd.block _ (Array.getElem?_eq_some_iff.1 Zb.out).1]; exact Zb.out)
              have Bd := hide (Bb.out.trans (hbd.mono Bb.out.size))
              clear hbd ctb czb fzb
              have czb := (cell_blk Zd.out).1
              have fzb := (cell_blk Zd.out).2
              go_wp2_with fail
              have e0 := (cell_blk (blk_set (y := .slice none 0 0) Zd.out)).1
              refine bodyPost_ret (v := .tuple #[.agg #[.slice none 0 0], .bool false]) (by simp [results, Tryd.results10, go_sem, e0]) rfl ?_
              rw [hrn.out]
              exact ⟨Bd.out.setCell (p := ⟨w.heap.size, 0, none⟩) (Nat.le_refl _) _, none, 0, [], rfl, .inl ⟨rfl, rfl, rfl⟩, by simp⟩

end Go.Proofs.YtiianddblanffaaDoor
