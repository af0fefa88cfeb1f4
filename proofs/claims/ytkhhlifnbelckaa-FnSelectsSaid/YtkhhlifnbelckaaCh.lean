/- Several texts in one: Prs, SeM, Rin, DrH, SsW. -/
import Derived.Test.YtkhhlifnbelckaaCb
import Derived.BigQuiet
import Derived.Deep.RegionLaw
import Derived.Test.YtkhhlifnbelckaaCe
import Derived.Test.YtkhhlifnbelckaaCg
/- The laws' helpers over columns: pairsOf, sameInts, btoi (promises 3 and 4). -/
namespace Go.Proofs.Ytkhhlifnbelckaa
open Go.RowKit Go.ChangeShapes
set_option linter.unusedSimpArgs false
set_option linter.unusedVariables false
set_option maxRecDepth 100000

/-- append(s, i): i lies in a block of its own, in a region that draws its order. -/
theorem appI_wp (W : World) {o : Oper} {a : Act} {K : Act → World → Prop} {Q : Exit → Act → World → Prop} (s x : Operand)
    (ho : o.op = .call { callee := .builtin .append, args := #[s, x], argTypes := #[24, 24] })
    (base : Nat) (v : Value) (l : List Int) (hown : Is W base 3 v l) (hs : a.eval s = v) (i : Int) (c g : Nat)
    (hx : a.eval x = .slice (some ⟨g, 0, none⟩) 1 c) (hg : W.heap[g]? = some (.cells #[.int .i64 i] 3 (0, 0))) (hlen : l.length < 1099511627776) (hbase : base ≤ W.heap.size)
    (h : ∀ v' w', Is w' base 3 v' (l ++ [i]) → Below base W w' → K (a.put o.dst v') w') : o.wp Try.prog a W K Q := by
  obtain ⟨i0, hi0, hi1, hi2, hi3⟩ := info_parts infoI
  obtain ⟨v', w', hr, hown', hgrow, -, -⟩ := run_append_own_at (P := Try.prog) (w := W) base 24 o.type 3 i0 _ 1 8 Try.underlying24 hi0 hi1 hi2 hi3 rfl (by decide) v l.length (intVs l) hown ⟨g, 0, none⟩ 1 c [.int .i64 i] rfl
    (by intro k u hk
        rw [addr_add, cell_of_row W g (0 + k) _ _ (0, 0) hg, Nat.zero_add]
        simpa using hk)
    (by intro u hu; simp at hu; subst hu; rfl) (by unfold maxLen; omega) (by omega) hbase
  unfold Oper.wp execOp
  simp only [ho, resolve, invoke, builtin, Sem.run_bind, Sem.run_pure, Result.andThen_ok, List.map_toArray, List.map_cons, List.map_nil, hs, hx, hr]
  refine h v' w' ?_ ((Below.refl base W).grown hgrow hbase (fun k hk => (World.ownsRow.lt hown k hk).1))
  unfold Is
  rw [show intVs (l ++ [i]) = intVs l ++ [.int .i64 i] by simp [intVs], List.length_append]
  exact hown'

theorem appI_step {W : World} {ops : Array Oper} {o : Oper} {a : Act} {K : Act → World → Prop} {Q : Exit → Act → World → Prop} {E : Prop} (hgd : o.guard = none) (s x : Operand)
    (ho : o.op = .call { callee := .builtin .append, args := #[s, x], argTypes := #[24, 24] })
    (base : Nat) (v : Value) (l : List Int) (hown : Is W base 3 v l) (hs : a.eval s = v) (i : Int) (c g : Nat)
    (hx : a.eval x = .slice (some ⟨g, 0, none⟩) 1 c) (hg : W.heap[g]? = some (.cells #[.int .i64 i] 3 (0, 0))) (hlen : l.length < 1099511627776) (hbase : base ≤ W.heap.size)
    (h : ∀ v' w', Is w' base 3 v' (l ++ [i]) → Below base W w' → K (a.put o.dst v') w') :
    if Region.wanted o (yielded ops a.tmps) = true then Oper.wp Try.prog o a W K Q else E := by
  have hw : Region.wanted o (yielded ops a.tmps) = true := by simp [Region.wanted, hgd]
  rw [if_pos hw]
  exact appI_wp W s x ho base v l hown hs i c g hx hg hlen hbase h

/-- The pairs of values and rows, as numbers. -/
def prs (l r : List Int) : List Int := (l.zip r).map fun p => wrap64 (wrap64 (p.1 * 1000) + p.2)

theorem prs_perm {l r l' r' : List Int} (h : (l'.zip r').Perm (l.zip r)) : sortL (prs l' r') = sortL (prs l r) := sortL_of_perm (h.map _)

theorem wrap_i64 (x : Int) : I64 (wrap64 x) := by
  unfold I64 wrap64
  omega

theorem prs_wf (l r : List Int) : ∀ x ∈ prs l r, I64 x := by
  intro x hx
  obtain ⟨p, _, rfl⟩ := List.mem_map.1 hx
  exact wrap_i64 _

theorem prs_len (l r : List Int) : (prs l r).length = min l.length r.length := by simp [prs]

theorem prs_get (l r : List Int) (k : Nat) (h1 : k < l.length) (h2 : k < r.length) : (prs l r)[k]'(by rw [prs_len]; omega) = wrap64 (wrap64 (l[k] * 1000) + r[k]) := by simp [prs]

theorem Ints.at' {w : World} {B : Nat} {a : Option Addr} {n c : Nat} {l : List Int} (h : Ints w B (.slice a n c) l) (j : Nat) (hj : j < l.length) :
    ∃ b o, a = some ⟨b, o, none⟩ ∧ w.cell? ⟨b, o + j, none⟩ = some (.int .i64 (l.getD j 0)) := by
  obtain ⟨a', c', e1, -, -, h1⟩ := h
  injection e1 with e1 e2 e3
  subst e1
  obtain ⟨b, o, rfl, -, hc⟩ := h1 j hj
  exact ⟨b, o, rfl, by rw [hc]; simp [List.getD_eq_getElem?_getD, List.getElem?_eq_getElem hj]⟩

theorem btoi_any (b : Bool) (w : World) : Calls Try.prog 18 #[.bool b] w fun e w' => e = .returned (.int .i64 (if b = true then 1 else 0)) ∧ w = w' := by
  cases b
  · go_enter Try.func18, Try.ntmps18
    go_wp2
    go_ret
    exact ⟨rfl, rfl⟩
  · go_enter Try.func18, Try.ntmps18
    go_wp2
    go_ret
    exact ⟨rfl, rfl⟩

theorem same_any (v u : Value) (l : List Int) (w : World) (B : Nat) (hv : Ints w B v l) (hu : Ints w B u l) : Calls Try.prog 20 #[v, u] w (RetB1 w true) := by
  obtain ⟨a, c, rfl, hlen, -, hc⟩ := hv
  obtain ⟨a', c', rfl, -, -, hc'⟩ := hu
  have HC := hide hc
  have HC' := hide hc'
  clear hc hc'
  have h1 : (((l.length : Nat) : Int) != ((l.length : Nat) : Int)) = false := by simp
  go_enter Try.func20, Try.ntmps20
  go_wp2_with fail
  go_loopw [5] (fun i wr => ∃ (k q : Nat), k ≤ l.length ∧ i = .int .i64 k ∧ wr = w.drewN q) (fun i _ => l.length - (intOf i).toNat)
  case atStart => exact ⟨0, 0, by omega, rfl, rfl⟩
  case round =>
    obtain ⟨k, q, hk, rfl, rfl⟩ := hrel
    by_cases hlt : k < l.length
    · obtain ⟨b, o, rfl, -, h2⟩ := HC.out k hlt
      obtain ⟨b', o', rfl, -, h3⟩ := HC'.out k hlt
      obtain ⟨x, hx⟩ : ∃ x, x = l[k] := ⟨_, rfl⟩
      rw [← hx] at h2 h3
      have h4 : (x != x) = false := by simp
      clear hx
      go_wp2_with fail
      go_quiet (fail)
      go_wp2_with fail
      go_roundw
      case rel => exact ⟨k + 1, q + nq, by omega, by go_num, rfl⟩
      case measure => simp [intOf]; omega
    · have hke : k = l.length := by omega
      subst hke
      go_wp2_with fail
      go_ret
      exact ⟨rfl, below_drewN (Below.refl _ _) _⟩

set_option maxHeartbeats 4000000 in
theorem pairs_any (v : Value) (l r : List Int) (ps : List Pv) (w : World) (B : Nat) (hv : Ck w B v l r ps) (hB : B ≤ w.heap.size) (hl : l.length ≤ 1048576) :
    Calls Try.prog 21 #[v] w (RetOw w (sortL (prs l r))) := by
  obtain ⟨a1, c1, a2, c2, a3, c3, rfl, i1, i2, -⟩ := hv.form
  have X := hide (Kn.one w #[.slice a1 l.length c1, .slice a2 r.length c2, .slice a3 ps.length c3] 27)
  obtain ⟨w1, hw1⟩ : ∃ w1, w1 = w.alloc (.cells #[.slice a1 l.length c1, .slice a2 r.length c2, .slice a3 ps.length c3] 27) := ⟨_, rfl⟩
  rw [← hw1] at X
  have hz := hide (show w1.heap.size = w.heap.size + 1 by rw [hw1]; simp)
  have H1 := hide (fun (W : World) (h : Below w.heap.size w W) => i1.below h hB)
  have H2 := hide (fun (W : World) (h : Below w.heap.size w W) => i2.below h hB)
  clear i1 i2 hv
  have HS := hide (fun (W : World) (v : Value) (lo : Nat) (h : Is W lo 3 v (prs l r)) => show Calls Try.prog 73 #[v] W (RetOw W (sortL (prs l r))) by
    obtain ⟨a', c', rfl⟩ := h.form
    have hlen : (prs l r).length ≤ 1048576 := by rw [prs_len]; omega
    refine sSort_any a' c' _ W W.heap.size (h.ints (Nat.le_refl _) (by omega) (prs_wf l r)) ?_ (Nat.le_refl _) hlen
    intro ha
    subst ha
    rcases h.2 with ⟨e, _⟩ | ⟨g, cap, cur, e, _⟩
    · injection e
    · injection e with e1; cases e1)
  go_enter Try.func21, Try.ntmps21
  go_wp2_with fail
  rw [← hw1]
  clear hw1
  have O := hide (Is.made w1 w1.heap.size 3 (Nat.le_refl _))
  have HB := hide ((Below.refl w1.heap.size w1).alloc (Nat.le_refl _) (.cells #[] 3))
  have hlr := hide (show ∀ k, k < l.length → k < r.length → (prs l r).take (k + 1) = (prs l r).take k ++ [wrap64 (wrap64 (l.getD k 0 * 1000) + r.getD k 0)] from fun k h1 h2 => by
    rw [List.take_succ_eq_append_getElem (by rw [prs_len]; omega), prs_get l r k h1 h2]
    simp [List.getD_eq_getElem?_getD, List.getElem?_eq_getElem h1, List.getElem?_eq_getElem h2])
  have hend := hide (show ∀ k, k ≤ l.length → k ≤ r.length → ¬ (k < l.length ∧ k < r.length) → (prs l r).take k = prs l r from fun k h1 h2 h3 => List.take_of_length_le (by rw [prs_len]; omega))
  go_loopw [3, 4] (fun u i wr => ∃ (k : Nat) (ua : Option Addr) (uc : Nat), k ≤ l.length ∧ k ≤ r.length ∧ i = .int .i64 k ∧ u = .slice ua k uc ∧ Hid (Is wr w1.heap.size 3 u ((prs l r).take k)) ∧ Hid (Below w1.heap.size w1 wr)) (fun _ i _ => l.length - (intOf i).toNat)
  case atStart => exact ⟨0, _, _, by omega, by omega, rfl, rfl, by show Is _ _ _ _ _; simp only [List.take_zero]; rw [← hz.out]; exact O.out, HB.out⟩
  case round =>
    obtain ⟨k, ua, uc, hk1, hk2, rfl, rfl, O, HB⟩ := hrel
    have XX := hide (X.out.up HB.out)
    have c0 : wr.cell? ⟨w.heap.size, 0, none⟩ = some (.slice a1 l.length c1) := XX.out.cell 0 0 rfl rfl
    have c1' : wr.cell? ⟨w.heap.size, 1, none⟩ = some (.slice a2 r.length c2) := XX.out.cell 0 1 rfl rfl
    by_cases hlt : k < l.length ∧ k < r.length
    · obtain ⟨h1, h2⟩ := hlt
      obtain ⟨b, o, hab, e1⟩ := (H1.out wr XX.out.below).at' k h1
      obtain ⟨b', o', hab', e2⟩ := (H2.out wr XX.out.below).at' k h2
      subst hab hab'
      have hst := hide (hlr.out k h1 h2)
      obtain ⟨x, hx⟩ : ∃ x, x = l.getD k 0 := ⟨_, rfl⟩
      obtain ⟨y, hy⟩ : ∃ y, y = r.getD k 0 := ⟨_, rfl⟩
      rw [← hx] at e1 hst
      rw [← hy] at e2 hst
      have hsz := hide HB.out.size
      have HOf := hide (fun (W : World) (h : Below wr.heap.size wr W) => O.out.below h)
      have HLN := hide (show ((prs l r).take k).length = k by rw [List.length_take, prs_len]; omega)
      have HLN2 := hide (show ((prs l r).take (k + 1)).length = k + 1 by rw [List.length_take, prs_len]; omega)
      have HBf := hide (fun (W : World) (h : Below wr.heap.size wr W) => HB.out.trans (h.mono hsz.out))
      have hnw : (wr.alloc (.cells #[.int .i64 (IntKind.i64.wrap (IntKind.i64.wrap (x * 1000) + y))] 3)).heap[wr.heap.size]? = some (.cells #[.int .i64 (wrap64 (wrap64 (x * 1000) + y))] 3 (0, 0)) := by
        rw [heap_alloc_new, IntWalk.i64_left, IntWalk.i64_left]
      clear hx hy
      go_wp2_with fail
      go_region_law (refine appI_step rfl _ _ rfl w1.heap.size (.slice ua k uc) _ (HOf.out _ (by first | exact (below1 _ _).drew | exact (Below.refl _ _).drew.alloc (Nat.le_refl _) _ | exact below1 _ _)) (by simp [Act.eval, Act.put]) (wrap64 (wrap64 (x * 1000) + y)) 1 wr.heap.size (by simp [Act.eval, Act.put]) (by first | exact heap_alloc_new _ _ | exact hnw) (by have := HLN.out; omega) (by have := hsz.out; simp; omega) ?_; intro v5 w5' hown hb; rw [← hst.out] at hown; obtain ⟨ub, uc', rfl⟩ := hown.form; rw [HLN2.out] at hown ⊢; have OO := hide hown; have BB := hide ((HBf.out _ (by first | exact (below1 _ _).drew | exact (Below.refl _ _).drew.alloc (Nat.le_refl _) _ | exact below1 _ _)).trans hb))
      all_goals go_wp2_with fail
      all_goals exact ⟨⟨k + 1, _, _, by omega, by omega, by go_num, rfl, OO.out, BB.out⟩, by simp [intOf]; omega⟩
    · have hf := hide (hend.out k hk1 hk2 hlt)
      rw [hf.out] at O
      have HW := hide (XX.out.below)
      have HF := hide (HS.out _ _ _ O.out)
      clear O HB X
      by_cases h1 : k < l.length
      · have t2 : decide (k < r.length) = false := by simp; omega
        clear hlt
        go_wp2_with fail
        go_at_call 73
        refine HF.out.mono ?_
        rintro e w6 ⟨v, hi, rfl, O, hb⟩
        go_wp2_with fail
        go_ret
        exact ⟨_, _, rfl, O.wide HW.out.size, HW.out.trans (hb.mono HW.out.size)⟩
      · have t1 : decide (k < l.length) = false := by simp; omega
        clear hlt
        go_wp2_with fail
        go_at_call 73
        refine HF.out.mono ?_
        rintro e w6 ⟨v, hi, rfl, O, hb⟩
        go_wp2_with fail
        go_ret
        exact ⟨_, _, rfl, O.wide HW.out.size, HW.out.trans (hb.mono HW.out.size)⟩

end Go.Proofs.Ytkhhlifnbelckaa

/- FnSelects in numbers (promise 4): the rows between the places of a range's pivots are the rows of its values; the swaps are at most the values. -/
namespace Go.Proofs.Ytkhhlifnbelckaa
open Go.RowKit Go.ChangeShapes
set_option linter.unusedSimpArgs false
set_option linter.unusedVariables false
set_option maxRecDepth 100000

/-- The rows whose values lie in a range, in the order of the column. -/
def rin (l r : List Int) (f t : Int) : List Int := (l.zip r).filterMap fun p => if inR f t p.1 = true then some p.2 else none

theorem rin_perm {l r l' r' : List Int} {f t : Int} (h : (l'.zip r').Perm (l.zip r)) : sortL (rin l' r' f t) = sortL (rin l r f t) := sortL_of_perm (h.filterMap _)

theorem filterMap_all {α β : Type} {f : α → Option β} {g : α → β} : ∀ {l : List α}, (∀ p ∈ l, f p = some (g p)) → l.filterMap f = l.map g
  | [], _ => rfl
  | p :: l, h => by
    rw [List.filterMap_cons_some (h p (by simp)), List.map_cons, filterMap_all fun q hq => h q (by simp [hq])]

theorem filterMap_nil' {α β : Type} {f : α → Option β} : ∀ {l : List α}, (∀ p ∈ l, f p = none) → l.filterMap f = []
  | [], _ => rfl
  | p :: l, h => by
    rw [List.filterMap_cons_none (h p (by simp)), filterMap_nil' fun q hq => h q (by simp [hq])]

theorem rin_between {l r : List Int} {f t : Int} {a b : Nat} (hr : r.length = l.length) (hv : isR f t = true) (ha : Fits l f a) (hb : Fits l t b) : rin l r f t = (r.drop a).take (b - a) := by
  have hab : a ≤ b := by
    have := fits_mono ha hb (isR_true hv).2.2.1
    omega
  obtain ⟨a1, a2, a3⟩ := ha
  obtain ⟨b1, b2, b3⟩ := hb
  have hz : (l.zip r).length = l.length := by simp; omega
  have hat : ∀ i (hi : i < l.length), inR f t l[i] = true ↔ a ≤ i ∧ i < b := by
    intro i hi
    have h1 := a3 i hi
    have h2 := b3 i hi
    unfold inR
    rw [decide_eq_true_iff]
    constructor
    · rintro ⟨-, q1, q2⟩
      have q3 := h2.1 q2
      refine ⟨?_, by omega⟩
      by_cases hc : (i : Int) < (a : Int)
      · have := h1.2 hc; omega
      · omega
    · rintro ⟨q1, q2⟩
      refine ⟨hv, ?_, h2.2 (by omega)⟩
      by_cases hc : l[i] < f
      · have := h1.1 hc; omega
      · omega
  unfold rin
  have e1 : l.zip r = (l.zip r).take a ++ (((l.zip r).drop a).take (b - a) ++ ((l.zip r).drop a).drop (b - a)) := by rw [List.take_append_drop, List.take_append_drop]
  have e2 : (l.zip r).map Prod.snd = r := List.map_snd_zip (by omega)
  rw [e1, List.filterMap_append, List.filterMap_append]
  rw [filterMap_nil' (l := (l.zip r).take a), filterMap_all (l := ((l.zip r).drop a).take (b - a)) (g := Prod.snd), filterMap_nil' (l := ((l.zip r).drop a).drop (b - a))]
  · rw [List.nil_append, List.append_nil, List.map_take, List.map_drop, e2]
  · intro p hp
    obtain ⟨k, hk, rfl⟩ := List.getElem_of_mem hp
    simp only [List.length_drop, hz] at hk
    simp only [List.getElem_drop, List.getElem_zip]
    rw [if_neg]
    rw [hat _ (by omega)]
    omega
  · intro p hp
    obtain ⟨k, hk, rfl⟩ := List.getElem_of_mem hp
    simp only [List.length_take, List.length_drop, hz] at hk
    simp only [List.getElem_take, List.getElem_drop, List.getElem_zip]
    rw [if_pos]
    rw [hat _ (by omega)]
    omega
  · intro p hp
    obtain ⟨k, hk, rfl⟩ := List.getElem_of_mem hp
    simp only [List.length_take, hz] at hk
    simp only [List.getElem_take, List.getElem_zip]
    rw [if_neg]
    rw [hat _ (by omega)]
    omega

theorem fnd_mem : ∀ {ps : List Pv} {v : Int}, (fndP ps v).2 = true → (v, (fndP ps v).1) ∈ ps
  | [], v, h => by simp [fndP] at h
  | p :: ps, v, h => by
    rw [fndP] at h ⊢
    split
    · rename_i hp
      simp [← hp]
    · rename_i hp
      rw [if_neg hp] at h
      exact List.mem_cons_of_mem _ (fnd_mem h)

theorem fnd_fits {l r : List Int} {ps : List Pv} {v : Int} (hc : isCk l r ps = true) (h : (fndP ps v).2 = true) : Fits l v (fndP ps v).1 := by
  have h1 := (pvsOk_asc.1 (isCk_parts hc).2.2.2).2 _ (fnd_mem h)
  exact h1.2.2

/-- The rows of a range, as AnswerRange tells them. -/
noncomputable def anL' (l r : List Int) (ps : List Pv) (f t : Int) : List Int := rbL (seL l r ps f t) (seR l r ps f t) (seP l r ps f t) (seF l r ps f t) (seT l r ps f t)

/-- What FnSelects says of a valid column and range. -/
theorem se_says {l r : List Int} {ps : List Pv} {f t : Int} (h : seOk l r ps f t = true) :
    fndP (seP l r ps f t) f = (seF l r ps f t, true) ∧ fndP (seP l r ps f t) t = (seT l r ps f t, true) ∧ isCk (seL l r ps f t) (seR l r ps f t) (seP l r ps f t) = true ∧ anL' l r ps f t = sortL (rin l r f t) := by
  have h0 := h
  unfold seOk at h
  simp only [Bool.and_eq_true] at h
  obtain ⟨hc, hv⟩ := h
  have hr := isR_true hv
  have f1 := crack_found (crOk_of hc hr.1 hr.2.1)
  have hc1 := crack_isCk (v := f) hc
  have f2 := crack_found (crOk_of hc1 (show -1000 ≤ t by omega) hr.2.2.2)
  have f3 := crack_keeps (l := crL l r ps f) (r := crR l r ps f) (v := t) f1
  have hc2 := crack_isCk (v := t) hc1
  have eP : seP l r ps f t = crP (crL l r ps f) (crR l r ps f) (crP l r ps f) t := by unfold seP; rw [if_pos h0]
  have eL : seL l r ps f t = crL (crL l r ps f) (crR l r ps f) (crP l r ps f) t := by unfold seL; rw [if_pos h0]
  have eR : seR l r ps f t = crR (crL l r ps f) (crR l r ps f) (crP l r ps f) t := by unfold seR; rw [if_pos h0]
  have g1 : (fndP (seP l r ps f t) f).2 = true := by rw [eP, f3]; exact f1
  have g2 : (fndP (seP l r ps f t) t).2 = true := by rw [eP]; exact f2
  have gF : seF l r ps f t = (fndP (seP l r ps f t) f).1 := by unfold seF; rw [if_pos h0]
  have gT : seT l r ps f t = (fndP (seP l r ps f t) t).1 := by unfold seT; rw [if_pos h0]
  have hck : isCk (seL l r ps f t) (seR l r ps f t) (seP l r ps f t) = true := by rw [eL, eR, eP]; exact hc2
  have k1 := fnd_fits hck g1
  have k2 := fnd_fits hck g2
  refine ⟨by rw [gF, ← g1], by rw [gT, ← g2], hck, ?_⟩
  have hlen := (isCk_parts hck).2.1
  obtain ⟨a, ha⟩ : ∃ a : Nat, seF l r ps f t = a := ⟨(seF l r ps f t).toNat, by rw [gF]; have := k1.1; omega⟩
  obtain ⟨b, hb⟩ : ∃ b : Nat, seT l r ps f t = b := ⟨(seT l r ps f t).toNat, by rw [gT]; have := k2.1; omega⟩
  rw [← gF, ha] at k1
  rw [← gT, hb] at k2
  have hab : a ≤ b := by have := fits_mono k1 k2 hr.2.2.1; omega
  have hbl : b ≤ (seR l r ps f t).length := by have := k2.2.1; omega
  unfold anL'
  rw [ha, hb, rbL_yes hck hab hbl, ← rin_between hlen hv k1 k2]
  exact rin_perm (se_zip l r ps f t)

theorem crS_len (l r : List Int) (ps : List Pv) (v : Int) : 2 * (crS l r ps v).length ≤ l.length := by
  unfold crS
  split
  · unfold crPt partP
    split
    · obtain ⟨n1, n2, n3, n4⟩ := part_nums l v ((pieceP l r ps v).2 - (pieceP l r ps v).1).toNat (pieceP l r ps v).1.toNat (pieceP l r ps v).2.toNat
      simp only
      omega
    · simp
  · simp

theorem crL_len (l r : List Int) (ps : List Pv) (v : Int) : (crL l r ps v).length = l.length := by
  unfold crL
  split
  · exact apL_length _ _ _
  · rfl

theorem seN_le (l r : List Int) (ps : List Pv) (f t : Int) : seN l r ps f t ≤ l.length := by
  unfold seN
  split
  · have h1 := crS_len l r ps f
    have h2 := crS_len (crL l r ps f) (crR l r ps f) (crP l r ps f) t
    rw [crL_len] at h2
    omega
  · omega

end Go.Proofs.Ytkhhlifnbelckaa

/- rowsIn of the laws: the rows whose values lie in a range, in ascending order (promise 4). -/
namespace Go.Proofs.Ytkhhlifnbelckaa
open Go.RowKit Go.ChangeShapes
set_option linter.unusedSimpArgs false
set_option linter.unusedVariables false
set_option maxRecDepth 100000

/-- The rows as far as place k. -/
def rk (l r : List Int) (f t : Int) (k : Nat) : List Int := ((l.zip r).take k).filterMap fun p => if inR f t p.1 = true then some p.2 else none

theorem rk_all {l r : List Int} {f t : Int} {k : Nat} (h1 : k ≤ l.length) (h2 : k ≤ r.length) (h : ¬ (k < l.length ∧ k < r.length)) : rk l r f t k = rin l r f t := by
  unfold rk rin
  rw [List.take_of_length_le (by rw [List.length_zip]; omega)]

theorem rk_step {l r : List Int} {f t : Int} {k : Nat} (h1 : k < l.length) (h2 : k < r.length) : rk l r f t (k + 1) = if inR f t (l.getD k 0) = true then rk l r f t k ++ [r.getD k 0] else rk l r f t k := by
  unfold rk
  rw [List.take_succ_eq_append_getElem (by rw [List.length_zip]; omega), List.filterMap_append, List.getElem_zip]
  simp only [List.getD_eq_getElem?_getD, List.getElem?_eq_getElem h1, List.getElem?_eq_getElem h2, Option.getD_some]
  by_cases h : inR f t l[k] = true
  · rw [if_pos h]; simp [h]
  · rw [if_neg h]; simp [h]

theorem rk_len (l r : List Int) (f t : Int) (k : Nat) : (rk l r f t k).length ≤ k := by
  unfold rk
  refine Nat.le_trans (List.length_filterMap_le _ _) ?_
  rw [List.length_take]; omega

theorem rin_len (l r : List Int) (f t : Int) : (rin l r f t).length ≤ l.length := by
  unfold rin
  refine Nat.le_trans (List.length_filterMap_le _ _) ?_
  rw [List.length_zip]; omega

theorem rin_mem {l r : List Int} {f t x : Int} (h : x ∈ rin l r f t) : x ∈ r := by
  unfold rin at h
  obtain ⟨p, hp, e⟩ := List.mem_filterMap.1 h
  split at e
  · cases e; exact (List.of_mem_zip hp).2
  · cases e

set_option maxHeartbeats 4000000 in
theorem rowsIn_any (v : Value) (l r : List Int) (ps : List Pv) (f t : Int) (w : World) (B : Nat) (hv : Ck w B v l r ps) (hB : B ≤ w.heap.size) (hl : l.length ≤ 1048576) (hwr : ∀ x ∈ r, I64 x) :
    Calls Try.prog 28 #[v, .agg #[.int .i64 f, .int .i64 t]] w (RetOw w (sortL (rin l r f t))) := by
  obtain ⟨a1, c1, a2, c2, a3, c3, rfl, i1, i2, -⟩ := hv.form
  have X := hide (Kn.two w #[.slice a1 l.length c1, .slice a2 r.length c2, .slice a3 ps.length c3] #[.int .i64 f, .int .i64 t] 27 43)
  obtain ⟨w1, hw1⟩ : ∃ w1, w1 = (w.alloc (.cells #[.slice a1 l.length c1, .slice a2 r.length c2, .slice a3 ps.length c3] 27)).alloc (.cells #[.int .i64 f, .int .i64 t] 43) := ⟨_, rfl⟩
  rw [← hw1] at X
  have hz := hide (show w1.heap.size = w.heap.size + 1 + 1 by rw [hw1]; simp)
  have H1 := hide (fun (W : World) (h : Below w.heap.size w W) => i1.below h hB)
  have H2 := hide (fun (W : World) (h : Below w.heap.size w W) => i2.below h hB)
  clear i1 i2 hv
  have HS := hide (fun (W : World) (v : Value) (lo : Nat) (h : Is W lo 3 v (rin l r f t)) => show Calls Try.prog 73 #[v] W (RetOw W (sortL (rin l r f t))) by
    obtain ⟨a', c', rfl⟩ := h.form
    have hlen : (rin l r f t).length ≤ 1048576 := Nat.le_trans (rin_len l r f t) hl
    refine sSort_any a' c' _ W W.heap.size (h.ints (Nat.le_refl _) (by omega) (fun x hx => hwr x (rin_mem hx))) ?_ (Nat.le_refl _) hlen
    intro ha
    subst ha
    rcases h.2 with ⟨e, _⟩ | ⟨g, cap, cur, e, _⟩
    · injection e
    · injection e with e1; cases e1)
  go_enter Try.func28, Try.ntmps28
  go_wp2_with fail
  rw [← hw1]
  clear hw1
  have O := hide (Is.made w1 w1.heap.size 3 (Nat.le_refl _))
  have HB := hide ((Below.refl w1.heap.size w1).alloc (Nat.le_refl _) (.cells #[] 3))
  go_loopw [5, 6] (fun u i wr => ∃ (k : Nat) (ua : Option Addr) (uc : Nat), k ≤ l.length ∧ k ≤ r.length ∧ i = .int .i64 k ∧ u = .slice ua (rk l r f t k).length uc ∧ Hid (Is wr w1.heap.size 3 u (rk l r f t k)) ∧ Hid (Below w1.heap.size w1 wr)) (fun _ i _ => l.length - (intOf i).toNat)
  case atStart => exact ⟨0, _, _, by omega, by omega, rfl, rfl, by show Is _ _ _ _ _; simp only [rk, List.take_zero, List.filterMap_nil]; rw [← hz.out]; exact O.out, HB.out⟩
  case round =>
    obtain ⟨k, ua, uc, hk1, hk2, rfl, rfl, O, HB⟩ := hrel
    have XX := hide (X.out.up HB.out)
    have c0 : wr.cell? ⟨w.heap.size, 0, none⟩ = some (.slice a1 l.length c1) := XX.out.cell 0 0 rfl rfl
    have c1' : wr.cell? ⟨w.heap.size, 1, none⟩ = some (.slice a2 r.length c2) := XX.out.cell 0 1 rfl rfl
    by_cases hlt : k < l.length ∧ k < r.length
    · obtain ⟨h1, h2⟩ := hlt
      obtain ⟨b, o, hab, e1⟩ := (H1.out wr XX.out.below).at' k h1
      obtain ⟨b', o', hab', -⟩ := (H2.out wr XX.out.below).at' k h2
      subst hab hab'
      have hst := hide (rk_step (f := f) (t := t) h1 h2)
      obtain ⟨x, hx⟩ : ∃ x, x = l.getD k 0 := ⟨_, rfl⟩
      obtain ⟨y, hy⟩ : ∃ y, y = r.getD k 0 := ⟨_, rfl⟩
      have HY := hide (fun (W : World) (h : Below w.heap.size w W) => show W.cell? ⟨b', o' + k, none⟩ = some (.int .i64 y) by
        obtain ⟨b2, o2, e2, e3⟩ := (H2.out W h).at' k h2
        obtain ⟨rfl, rfl⟩ : b' = b2 ∧ o' = o2 := by simpa using e2
        rw [hy]; exact e3)
      rw [← hx] at e1 hst
      rw [← hy] at hst
      clear hx hy
      obtain ⟨q, hq⟩ : ∃ q, q = rk l r f t k := ⟨_, rfl⟩
      obtain ⟨q2, hq2⟩ : ∃ q, q = rk l r f t (k + 1) := ⟨_, rfl⟩
      have hql := hide (show q.length ≤ k by rw [hq]; exact rk_len l r f t k)
      have HQ2 := hide hq2
      rw [← hq, ← hq2] at hst
      rw [← hq] at O ⊢
      clear hq hq2
      obtain ⟨bb, hbb⟩ : ∃ q, q = inR f t x := ⟨_, rfl⟩
      have HC := hide (fun W => show Calls Try.prog 80 #[.agg #[.int .i64 f, .int .i64 t], .int .i64 x] W (RetB1 W bb) by rw [hbb]; exact sInR_any f t x W)
      rw [← hbb] at hst
      clear hbb
      have d0 : wr.cell? ⟨w.heap.size + 1, 0, none⟩ = some (.int .i64 f) := XX.out.cell 1 0 rfl rfl
      have d1 : wr.cell? ⟨w.heap.size + 1, 1, none⟩ = some (.int .i64 t) := XX.out.cell 1 1 rfl rfl
      go_wp2_with fail
      go_region_with (go_at_call 80; refine (HC.out _).mono ?_; rintro e wq ⟨rfl, hb⟩; have hbq := hide (show Below wr.heap.size wr wq from (Below.refl _ _).drew.trans hb))
      all_goals
        have OO := hide (O.out.below hbq.out)
        have BB := hide (HB.out.trans (hbq.out.mono HB.out.size))
        have XX2 := hide (XX.out.up hbq.out)
        clear c0 c1' e1 d0 d1
        have c1' : wq.cell? ⟨w.heap.size, 1, none⟩ = some (.slice (some ⟨b', o', none⟩) r.length c2) := XX2.out.cell 0 1 rfl rfl
        have ey := HY.out _ XX2.out.below
        cases bb with
        | false =>
          obtain rfl : q2 = q := by simpa [Hid] using hst
          go_wp2_with fail
          exact ⟨⟨k + 1, ua, uc, by omega, by omega, by go_num, by rw [← HQ2.out], by rw [← HQ2.out]; exact OO.out, BB.out⟩, by simp [intOf]; omega⟩
        | true =>
          have hq3 := hide (show q2 = q ++ [y] by simpa [Hid] using hst)
          have c1a : (wq.alloc (.cells #[.int .i64 y] 3)).cell? ⟨w.heap.size, 1, none⟩ = some (.slice (some ⟨b', o', none⟩) r.length c2) := (XX2.out.up (below1 _ _)).cell 0 1 rfl rfl
          have OA := hide (OO.out.below (below1 wq (.cells #[.int .i64 y] 3)))
          have HBA := hide (BB.out.trans ((below1 wq (.cells #[.int .i64 y] 3)).mono BB.out.size))
          go_wp2_with (first | (at_builtin; refine appI_list (wq.alloc (.cells #[.int .i64 y] 3)) rfl _ _ rfl w1.heap.size (.slice ua q.length uc) q OA.out rfl y 1 wq.heap.size rfl (heap_alloc_new _ _) (by have := hql.out; omega) (by have := BB.out.size; simp; omega) ?_; intro v5 w5 hown hb5 hq5; rw [← hq3.out] at hown; obtain ⟨ub, uc', rfl⟩ := hown.form; have OO5 := hide hown; have BB5 := hide (HBA.out.trans hb5); clear hown hb5 hq5) | fail)
          exact ⟨⟨k + 1, ub, uc', by omega, by omega, by go_num, by rw [← HQ2.out], by rw [← HQ2.out]; exact OO5.out, BB5.out⟩, by simp [intOf]; omega⟩
    · have hf := hide (rk_all (f := f) (t := t) hk1 hk2 hlt)
      rw [hf.out] at O ⊢
      have HW := hide (XX.out.below)
      have HF := hide (HS.out _ _ _ O.out)
      clear O HB X
      by_cases h1 : k < l.length
      · have t2 : decide (k < r.length) = false := by simp; omega
        clear hlt
        go_wp2_with fail
        go_at_call 73
        refine HF.out.mono ?_
        rintro e w6 ⟨v, hi, rfl, O, hb⟩
        go_wp2_with fail
        go_ret
        exact ⟨_, _, rfl, O.wide HW.out.size, HW.out.trans (hb.mono HW.out.size)⟩
      · have t1 : decide (k < l.length) = false := by simp; omega
        clear hlt
        go_wp2_with fail
        go_at_call 73
        refine HF.out.mono ?_
        rintro e w6 ⟨v, hi, rfl, O, hb⟩
        go_wp2_with fail
        go_ret
        exact ⟨_, _, rfl, O.wide HW.out.size, HW.out.trans (hb.mono HW.out.size)⟩

end Go.Proofs.Ytkhhlifnbelckaa

/- l6Range, DrawSelectRange: a drawn column, some of them spoilt, and a range (promise 4). Written by gen_drh.py. -/
namespace Go.Proofs.Ytkhhlifnbelckaa
open Go.RowKit Go.ChangeShapes
set_option linter.unusedSimpArgs false
set_option linter.unusedVariables false
set_option maxRecDepth 100000

theorem Kd.belowZ {w W : World} {L : List (Nat × Array Value × TypeId)} (h : Kd [] w W L) : Below w.heap.size w W := h.only.toBelow (by simp) (Nat.le_refl _)

/-- A draw whose reader is the call's own. -/
theorem Kd.drawZ {w W W' : World} {L : List (Nat × Array Value × TypeId)} {g : Nat} (h : Kd [] w W L) (ho : Only [g] W W') (hg : w.heap.size ≤ g) (hL : ∀ e ∈ L, e.1 ≠ g) : Kd [] w W' L :=
  h.others ho (fun b hb => .inr (by simp at hb; omega)) (fun e he => by simp; exact hL e he)

theorem CPA.wfZ {l r : List Int} {ps : List Pv} (h : CPA l r ps) : Wf l r ps 100 := ⟨by have := h.nl; omega, by have := h.nr; omega, by have := h.np; omega, h.i64, h.vr, h.vp⟩

set_option maxHeartbeats 8000000 in
theorem range6_d (B : Nat) (a : Option Addr) (len cap g : Nat) (w : World) (h : Rd B a len cap w g) (a1 a2 a3 : Option Addr) (c1 c2 c3 : Nat) (l r : List Int) (ps : List Pv) (lo : Nat)
    (oo : RcL lo w (.agg #[.slice a1 l.length c1, .slice a2 r.length c2, .slice a3 ps.length c3]) l r ps) (hg : g < lo) (hl : l.length ≤ 1000) (hv : ∀ x ∈ l, -1000 ≤ x ∧ x ≤ 1000) :
    Calls Try.prog 74 #[.pointer (some ⟨g, 0, none⟩), .agg #[.slice a1 l.length c1, .slice a2 r.length c2, .slice a3 ps.length c3]] w (RetDR B a len cap g w) := by
  have hlt := h.lt
  have R := hide ((h.alloc (.cells #[.slice a1 l.length c1, .slice a2 r.length c2, .slice a3 ps.length c3] 27)).alloc (.cells #[.int .i64 0, .int .i64 0] 43))
  have X := hide ((Kd.one [g] w #[.slice a1 l.length c1, .slice a2 r.length c2, .slice a3 ps.length c3] 27).alloc #[.int .i64 0, .int .i64 0] 43)
  have O := hide ((oo.below (below1 w (.cells #[.slice a1 l.length c1, .slice a2 r.length c2, .slice a3 ps.length c3] 27))).below (below1 _ (.cells #[.int .i64 0, .int .i64 0] 43)))
  obtain ⟨w1, hw1⟩ : ∃ w1, w1 = (w.alloc (.cells #[.slice a1 l.length c1, .slice a2 r.length c2, .slice a3 ps.length c3] 27)).alloc (.cells #[.int .i64 0, .int .i64 0] 43) := ⟨_, rfl⟩
  rw [← hw1] at R X O
  simp only [List.cons_append, List.nil_append, World.size_alloc] at X
  have HV := hide hv
  have HGm := hide (show ∀ b ∈ [g], b < w.heap.size from by intro b hb; rw [List.mem_singleton.1 hb]; exact hlt)
  clear h oo hv
  have c00 : w1.cell? ⟨w.heap.size, 0, none⟩ = some (.slice a1 l.length c1) := X.out.cell 0 0 rfl rfl
  have c01 : w1.cell? ⟨w.heap.size, 1, none⟩ = some (.slice a2 r.length c2) := X.out.cell 0 1 rfl rfl
  have c02 : w1.cell? ⟨w.heap.size, 2, none⟩ = some (.slice a3 ps.length c3) := X.out.cell 0 2 rfl rfl
  rw [hw1] at c00 c01 c02
  go_enter Try.func74, Try.ntmps74
  go_wp2_with fail
  rw [← hw1]
  clear hw1 c00 c01 c02
  go_at_call 55
  refine (value_r B a len cap g _ R.out a1 a2 a3 c1 c2 c3 l r ps lo O.out hg hl HV.out).mono ?_
  rintro e w2 ⟨x, hx, rfl, hr, ho⟩
  have R := hide hr
  have X := hide (X.out.drawn ho HGm.out)
  have O := hide (O.out.only ho hg)
  have hx := hide hx
  clear hr ho
  have c00 : w2.cell? ⟨w.heap.size, 0, none⟩ = some (.slice a1 l.length c1) := X.out.cell 0 0 rfl rfl
  have c01 : w2.cell? ⟨w.heap.size, 1, none⟩ = some (.slice a2 r.length c2) := X.out.cell 0 1 rfl rfl
  have c02 : w2.cell? ⟨w.heap.size, 2, none⟩ = some (.slice a3 ps.length c3) := X.out.cell 0 2 rfl rfl
  go_wp2_with fail
  clear c00 c01 c02
  go_at_call 55
  refine (value_r B a len cap g _ R.out a1 a2 a3 c1 c2 c3 l r ps lo O.out hg hl HV.out).mono ?_
  rintro e w3 ⟨y, hy, rfl, hr, ho⟩
  have R := hide hr
  have X := hide (X.out.drawn ho HGm.out)
  have hy := hide hy
  clear hr ho O
  go_wp2_with fail
  go_at_call 53
  refine (once_d B a len cap g _ R.out 12 (by omega) (by omega)).mono ?_
  rintro e w4 ⟨b, rfl, hr, ho⟩
  have R := hide hr
  have X := hide (X.out.drawn ho HGm.out)
  clear hr ho
  cases b with
  | true =>
    go_wp2_with fail
    go_at_call 105
    refine (any_d B a len cap g _ R.out).mono ?_
    rintro e w5 ⟨f, t, hft, rfl, hr, ho⟩
    have R := hide hr
    have X := hide (X.out.drawn ho HGm.out)
    have hft := hide hft
    clear hr ho
    have r0 := X.out.cell 1 0 rfl rfl
    have r1 := X.out.cell 1 1 rfl rfl
    have f0 := X.out.free 1 0 rfl
    have f1 := X.out.free 1 1 rfl
    go_wp2_with fail
    have Z := (X.out.set 1 0 rfl (.int .i64 f)).set 1 1 rfl (.int .i64 t)
    have z0 := Z.cell 1 0 rfl rfl
    have z1 := Z.cell 1 1 rfl rfl
    have R9 := (R.out.poke (m := w.heap.size + 1) (j := 0) (x := .int .i64 f) (by omega)).poke (m := w.heap.size + 1) (j := 1) (x := .int .i64 t) (by omega)
    exact bodyPost_ret (v := .agg #[.int .i64 f, .int .i64 t]) (by simp [results, Try.results74, go_sem, z0, z1]) rfl ⟨f, t, hft.out, rfl, R9, Z.only⟩
  | false =>
    have r0 := X.out.cell 1 0 rfl rfl
    have r1 := X.out.cell 1 1 rfl rfl
    have f0 := X.out.free 1 0 rfl
    have f1 := X.out.free 1 1 rfl
    go_wp2_with fail
    have hx2 := hx.out
    have hy2 := hy.out
    unfold VP at hx2 hy2
    have Z := (X.out.set 1 0 rfl (.int .i64 (min x y))).set 1 1 rfl (.int .i64 (max x y))
    have z0 := Z.cell 1 0 rfl rfl
    have z1 := Z.cell 1 1 rfl rfl
    have R9 := (R.out.poke (m := w.heap.size + 1) (j := 0) (x := .int .i64 (min x y)) (by omega)).poke (m := w.heap.size + 1) (j := 1) (x := .int .i64 (max x y)) (by omega)
    exact bodyPost_ret (v := .agg #[.int .i64 (min x y), .int .i64 (max x y)]) (by simp [results, Try.results74, go_sem, z0, z1]) rfl ⟨(min x y), (max x y), ⟨by omega, by omega, by omega, by omega⟩, rfl, R9, Z.only⟩

/-- A drawn column, to be read, and a range. -/
def DrSe (w : World) (e : Ending) (w' : World) : Prop := ∃ (a1 a2 a3 : Option Addr) (c1 c2 c3 : Nat) (l r : List Int) (ps : List Pv) (f t : Int),
  e = .returned (.tuple #[.agg #[.slice a1 l.length c1, .slice a2 r.length c2, .slice a3 ps.length c3], .agg #[.int .i64 f, .int .i64 t]]) ∧ CU w' (.agg #[.slice a1 l.length c1, .slice a2 r.length c2, .slice a3 ps.length c3]) l r ps ∧ Wf l r ps 100 ∧ I64 f ∧ I64 t ∧ Below w.heap.size w w'

set_option maxHeartbeats 8000000 in
theorem drSe_any (a : Option Addr) (len cap : Nat) (w : World) (hcode : CodeAt w a len cap) (hlen : len ≤ 1048576) : Calls Try.prog 22 #[.slice a len cap] w (DrSe w) := by
  have X := hide ((Kd.one [] w #[.slice none 0 0, .slice none 0 0, .slice none 0 0] 27).alloc #[.int .i64 0, .int .i64 0] 43)
  obtain ⟨w1, hw1⟩ : ∃ w1, w1 = (w.alloc (.cells #[.slice none 0 0, .slice none 0 0, .slice none 0 0] 27)).alloc (.cells #[.int .i64 0, .int .i64 0] 43) := ⟨_, rfl⟩
  rw [← hw1] at X
  simp only [List.cons_append, List.nil_append, World.size_alloc] at X
  have H := hide (hcode.below X.out.belowZ (Nat.le_refl _))
  have hz := hide (X.out.lt 1 rfl)
  clear hcode
  go_enter Try.func22, Try.ntmps22
  go_wp2_with fail
  rw [← hw1]
  clear hw1
  refine (new_any a len cap _ H.out hlen).mono ?_
  rintro e wa ⟨g, rfl, hr, hb⟩
  have R := hide hr
  have X := hide (X.out.up hb)
  have HG := hide (show w.heap.size + 1 < g from Nat.lt_of_lt_of_le hz.out hr.high)
  clear hr hb H
  go_wp2_with fail
  go_at_call 52
  refine (anyC_d _ a len cap g _ R.out).mono ?_
  rintro e wb ⟨a1, a2, a3, c1, c2, c3, l, r, ps, lo, rfl, hc, hlo, hA, hr, ho⟩
  have HLO := hide (Nat.lt_of_lt_of_le R.out.lt hlo)
  have HG0 := hide hr.lt
  have R := hide hr
  have X := hide (X.out.drawZ ho (by have := HG.out; omega) (by
    intro e he
    have := HG.out
    simp only [List.mem_cons, List.not_mem_nil, or_false] at he
    rcases he with rfl | rfl
    · simp only; omega
    · simp only; omega))
  have O := hide hc
  have HA := hide hA
  clear hr ho hc hlo hA
  have bl := below1 wb (.cells #[.slice a1 l.length c1, .slice a2 r.length c2, .slice a3 ps.length c3] 27)
  have X := hide (X.out.alloc #[.slice a1 l.length c1, .slice a2 r.length c2, .slice a3 ps.length c3] 27)
  have R := hide (R.out.alloc (.cells #[.slice a1 l.length c1, .slice a2 r.length c2, .slice a3 ps.length c3] 27))
  have O := hide (O.out.below bl)
  clear bl
  have HGM := hide (show g < wb.heap.size from HG0.out)
  clear HG0
  obtain ⟨wc, hwc⟩ : ∃ q, q = wb.alloc (.cells #[.slice a1 l.length c1, .slice a2 r.length c2, .slice a3 ps.length c3] 27) := ⟨_, rfl⟩
  obtain ⟨m, hm⟩ : ∃ q, q = wb.heap.size := ⟨_, rfl⟩
  rw [← hwc] at X R O
  rw [← hm] at X HGM
  simp only [List.cons_append, List.nil_append] at X
  go_wp2_with fail
  rw [← hwc]
  try rw [← hm]
  clear hwc hm
  have HNE := hide (show ∀ e ∈ ([(w.heap.size, #[.slice none 0 0, .slice none 0 0, .slice none 0 0], 27), (w.heap.size + 1, #[.int .i64 0, .int .i64 0], 43), (m, #[.slice a1 l.length c1, .slice a2 r.length c2, .slice a3 ps.length c3], 27)] : List (Nat × Array Value × TypeId)), e.1 ≠ g by
    intro e he
    have := HG.out
    have := HGM.out
    simp only [List.mem_cons, List.not_mem_nil, or_false] at he
    rcases he with rfl | rfl | rfl
    · simp only; omega
    · simp only; omega
    · simp only; omega)
  have KS := hide (fun (W : World) (h : Kd [] w W [(w.heap.size, #[.slice none 0 0, .slice none 0 0, .slice none 0 0], 27), (w.heap.size + 1, #[.int .i64 0, .int .i64 0], 43), (m, #[.slice a1 l.length c1, .slice a2 r.length c2, .slice a3 ps.length c3], 27)]) => show W.cell? ⟨m, 0, none⟩ = some (.slice a1 l.length c1) ∧ W.cell? ⟨m, 1, none⟩ = some (.slice a2 r.length c2) ∧ W.cell? ⟨m, 2, none⟩ = some (.slice a3 ps.length c3) ∧ W.cell? ⟨w.heap.size, 0, none⟩ = some (.slice none 0 0) ∧ W.cell? ⟨w.heap.size, 1, none⟩ = some (.slice none 0 0) ∧ W.cell? ⟨w.heap.size, 2, none⟩ = some (.slice none 0 0) ∧ W.frozen? ⟨w.heap.size, 0, none⟩ = false ∧ W.frozen? ⟨w.heap.size, 1, none⟩ = false ∧ W.frozen? ⟨w.heap.size, 2, none⟩ = false ∧ W.cell? ⟨w.heap.size + 1, 0, none⟩ = some (.int .i64 0) ∧ W.cell? ⟨w.heap.size + 1, 1, none⟩ = some (.int .i64 0) ∧ W.frozen? ⟨w.heap.size + 1, 0, none⟩ = false ∧ W.frozen? ⟨w.heap.size + 1, 1, none⟩ = false from ⟨h.cell 2 0 rfl rfl, h.cell 2 1 rfl rfl, h.cell 2 2 rfl rfl, h.cell 0 0 rfl rfl, h.cell 0 1 rfl rfl, h.cell 0 2 rfl rfl, h.free 0 0 rfl, h.free 0 1 rfl, h.free 0 2 rfl, h.cell 1 0 rfl rfl, h.cell 1 1 rfl rfl, h.free 1 0 rfl, h.free 1 1 rfl⟩)
  have hne := X.out.ne' 0 2 rfl rfl (by omega)
  have hne2 := fun e => hne (Eq.symm e)
  have hne3 := X.out.ne' 1 2 rfl rfl (by omega)
  have hne4 := fun e => hne3 (Eq.symm e)
  have hvl := hide HA.out.vl
  have hnl := hide HA.out.nl
  have c10 := (KS.out _ X.out).1
  have c11 := (KS.out _ X.out).2.1
  have c12 := (KS.out _ X.out).2.2.1
  go_upto_region 3 with fail
  have R := hide (R.out.drew')
  have X := hide X.out.drew
  have O := hide (O.out.below (Below.refl _ _).drew)
  clear c10 c11 c12
  obtain ⟨c10, c11, c12, c00, c01, c02, f00, f01, f02, r00, r01, g00, g01⟩ := KS.out _ X.out
  go_region_with (first
    | (go_at_call 74; refine (range6_d _ a len cap g _ R.out a1 a2 a3 c1 c2 c3 l r ps lo O.out HLO.out (by have := hnl.out; omega) hvl.out).mono ?_; rintro e wq ⟨f, t, hft, rfl, hr, ho⟩; have hft := hide hft; replace R := hide hr; replace X := hide (X.out.drawZ ho (by have := HG.out; omega) HNE.out); replace O := hide (O.out.only ho HLO.out); clear hr ho c10 c11 c12 c00 c01 c02 f00 f01 f02 r00 r01 g00 g01; obtain ⟨c10, c11, c12, c00, c01, c02, f00, f01, f02, r00, r01, g00, g01⟩ := KS.out _ X.out))
  all_goals
    obtain ⟨k1, k2, k3, k4⟩ := hft.out
    have hf : I64 f := ⟨by omega, by omega⟩
    have ht : I64 t := ⟨by omega, by omega⟩
    have hf := hide hf
    have ht := hide ht
    clear k1 k2 k3 k4
    have Z := ((((X.out.set 0 0 rfl (.slice a1 l.length c1)).set 0 1 rfl (.slice a2 r.length c2)).set 0 2 rfl (.slice a3 ps.length c3)).set 1 0 rfl (.int .i64 f)).set 1 1 rfl (.int .i64 t)
    have z0 := Z.cell 0 0 rfl rfl
    have z1 := Z.cell 0 1 rfl rfl
    have z2 := Z.cell 0 2 rfl rfl
    have z3 := Z.cell 1 0 rfl rfl
    have z4 := Z.cell 1 1 rfl rfl
    have Q9 := ((O.out.seg (seg3 _ w.heap.size (.slice a1 l.length c1) (.slice a2 r.length c2) (.slice a3 ps.length c3)) (by have := HG.out; have := HLO.out; omega)).seg (Seg.setCell _ (w.heap.size + 1) 0 (.int .i64 f)) (by have := HG.out; have := HLO.out; omega)).seg (Seg.setCell _ (w.heap.size + 1) 1 (.int .i64 t)) (by have := HG.out; have := HLO.out; omega)
    go_wp2_with fail
    exact bodyPost_ret (v := .tuple #[.agg #[.slice a1 l.length c1, .slice a2 r.length c2, .slice a3 ps.length c3], .agg #[.int .i64 f, .int .i64 t]]) (by simp [results, Try.results22, go_sem, z0, z1, z2, z3, z4]) rfl ⟨a1, a2, a3, c1, c2, c3, l, r, ps, f, t, rfl, Q9.cu, HA.out.wfZ, hf.out, ht.out, Z.belowZ⟩

end Go.Proofs.Ytkhhlifnbelckaa

/- FnSelects (promise 4): the law's walk. Written by gen_ss.py. -/
namespace Go.Proofs.Ytkhhlifnbelckaa
open Go.RowKit Go.ChangeShapes
set_option linter.unusedSimpArgs false
set_option linter.unusedVariables false
set_option maxRecDepth 100000

theorem anL_eq (l r : List Int) (ps : List Pv) (f t : Int) : anL' l r ps f t = anL l r ps f t := rfl

theorem se_no {l r : List Int} {ps : List Pv} {f t : Int} (h : ¬ seOk l r ps f t = true) : seL l r ps f t = l ∧ seR l r ps f t = r ∧ seP l r ps f t = ps := by
  unfold seL seR seP
  rw [if_neg h, if_neg h, if_neg h]
  exact ⟨rfl, rfl, rfl⟩

theorem se_Wf' {l r : List Int} {ps : List Pv} {f t : Int} (h : Wf l r ps 100) (hf : I64 f) (ht : I64 t) : Wf (seL l r ps f t) (seR l r ps f t) (seP l r ps f t) 1048576 :=
  (se_Wf ⟨h.1, h.2.1, by have := h.2.2.1; omega, h.2.2.2⟩ hf ht).1

theorem seF_wf {l r : List Int} {ps : List Pv} {f t : Int} (h : Wf l r ps 100) (hf : I64 f) (ht : I64 t) : I64 (seF l r ps f t) ∧ I64 (seT l r ps f t) := by
  have := (se_Wf' h hf ht).2.2.2.2.2
  unfold seF seT
  split
  · exact ⟨fnd_wf this, fnd_wf this⟩
  · exact ⟨⟨by omega, by omega⟩, ⟨by omega, by omega⟩⟩

theorem same_iu {v u : Value} (l : List Int) (w : World) (hv : IU w v l) (hu : IU w u l) : Calls Try.prog 20 #[v, u] w (RetB1 w true) := same_any v u l w w.heap.size hv hu

set_option maxHeartbeats 20000000 in
theorem selects_walk (w : World) (v0 : Value) (w0 : CodeV w v0) :
    Calls Try.prog 4 #[v0] w fun e w' => e = .returned (.bool true) ∧ Below w.heap.size w w' := by
  obtain ⟨ca, clen, ccap, rfl, hcode⟩ := w0
  by_cases hbig : ¬ clen ≤ 1048576
  · go_enter Try.func4, Try.ntmps4
    go_wp2_with fail
    go_at_call 11
    refine (bigY ca clen ccap w (by omega)).mono ?_
    rintro e wq ⟨rfl, rfl⟩
    go_wp2_with fail
    go_ret
    exact ⟨rfl, Below.refl _ _⟩
  · skip
    have X := hide (Kn.start w)
    have HBG := hide (bigN ca clen ccap w (by omega))
    have HDR := hide (drSe_any ca clen ccap w hcode (by omega))
    clear hcode hbig
    go_enter Try.func4, Try.ntmps4
    go_wp2_with fail
    go_at_call 11
    refine HBG.out.mono ?_
    rintro e wq ⟨rfl, rfl⟩
    go_wp2_with fail
    go_at_call 22
    refine HDR.out.mono ?_
    rintro e w1 ⟨a1, a2, a3, c1, c2, c3, l, r, ps, f, t, rfl, hcu, hwf, hf, ht, hb⟩
    have X := hide (X.out.up hb)
    have CC := hide hcu
    clear hb hcu HBG HDR
    have HI := hide (fun (W : World) (u : Value) (h : CU W u l r ps) => iSel_any u l r ps f t W W.heap.size h (Nat.le_refl _) hwf.1 hwf.2.1 (by have := hwf.2.2.1; omega) hf ht)
    have HS := hide (fun (W : World) (u : Value) (h : CU W u l r ps) => sSel_any u l r ps f t W W.heap.size h (Nat.le_refl _) hwf.1 hwf.2.1 (by have := hwf.2.2.1; omega) hf ht)
    have HA := hide (fun (W : World) (u : Value) (h : CU W u l r ps) => iAns_any u l r ps f t W W.heap.size h (Nat.le_refl _) hwf.1 hwf.2.1 (by have := hwf.2.2.1; omega) hf ht)
    have HRI := hide (fun (W : World) (u : Value) (h : CU W u l r ps) => rowsIn_any u l r ps f t W W.heap.size h (Nat.le_refl _) hwf.1 hwf.2.2.2.2.1)
    have HCK := hide (fun (W : World) (u : Value) (h : CU W u l r ps) => sIsCk_any u l r ps W W.heap.size h (Nat.le_refl _))
    have wf2 := se_Wf' hwf hf ht
    have wfn := seF_wf hwf hf ht
    have hle := seN_le l r ps f t
    have hzip := se_zip l r ps f t
    have hno := fun h => se_no (l := l) (r := r) (ps := ps) (f := f) (t := t) h
    have hsay := fun h => se_says (l := l) (r := r) (ps := ps) (f := f) (t := t) h
    have hok2 : seOk l r ps f t = (isCk l r ps && isR f t) := rfl
    have hrb : anL l r ps f t = rbL (seL l r ps f t) (seR l r ps f t) (seP l r ps f t) (seF l r ps f t) (seT l r ps f t) := rfl
    have hanw : ∀ x ∈ anL l r ps f t, I64 x := fun x hx => wf2.2.2.2.2.1 x (rbL_mem x hx)
    have hll : l.length ≤ 1048576 := hwf.1
    clear hwf hf ht
    simp only [anL_eq] at hsay
    obtain ⟨nl, hnl⟩ : ∃ q, q = seL l r ps f t := ⟨_, rfl⟩
    obtain ⟨nr, hnr⟩ : ∃ q, q = seR l r ps f t := ⟨_, rfl⟩
    obtain ⟨np, hnp⟩ : ∃ q, q = seP l r ps f t := ⟨_, rfl⟩
    obtain ⟨nf, hnf⟩ : ∃ q, q = seF l r ps f t := ⟨_, rfl⟩
    obtain ⟨nt, hnt⟩ : ∃ q, q = seT l r ps f t := ⟨_, rfl⟩
    obtain ⟨nn, hnn⟩ : ∃ q, q = seN l r ps f t := ⟨_, rfl⟩
    obtain ⟨na, hna⟩ : ∃ q, q = anL l r ps f t := ⟨_, rfl⟩
    rw [← hnl, ← hnr, ← hnp, ← hnf, ← hnt, ← hnn] at HI HS
    rw [← hnl, ← hnr, ← hnp, ← hna] at HA
    rw [← hnl, ← hnr, ← hnp] at wf2 hno
    rw [← hnf, ← hnt] at wfn
    rw [← hnl, ← hnr, ← hnp, ← hnf, ← hnt, ← hna] at hsay
    rw [← hnl, ← hnr, ← hnp, ← hnf, ← hnt, ← hna] at hrb
    rw [← hnn] at hle
    rw [← hnl, ← hnr] at hzip
    rw [← hna] at hanw
    clear hnl hnr hnp hnf hnt hnn hna
    have HF0 := hide (fun (W : World) (u : Value) (h : CU W u nl nr np) => iFindP_any u nl nr np f W W.heap.size h (Nat.le_refl _))
    have HF1 := hide (fun (W : World) (u : Value) (h : CU W u nl nr np) => iFindP_any u nl nr np t W W.heap.size h (Nat.le_refl _))
    have HRB := hide (fun (W : World) (u : Value) (h : CU W u nl nr np) => show Calls Try.prog 29 #[u, .int .i64 nf, .int .i64 nt] W (RetOw W na) by rw [hrb]; exact iRows_any u nl nr np nf nt W W.heap.size h (Nat.le_refl _) wfn.1 wfn.2 wf2.2.1)
    have KX := hide (fun (W : World) (x y z : Value) (lo hi p1 q1 p2 q2 p3 q3 : Nat) (h : OC W x y z nl nr np lo hi p1 q1 p2 q2 p3 q3) => (show CU W _ nl nr np from h.ck wf2.2.2.2.1 wf2.2.2.2.2.1 (by have := wf2.2.2.1; omega) wf2.2.2.2.2.2))
    have HNL2 := hide wf2.1
    have HZIP := hide hzip
    have HNO := hide hno
    have HSAY := hide hsay
    have HANW := hide hanw
    have HLE := hide hle
    have HOK2 := hide hok2
    clear hzip hno hsay hanw hle hok2 hrb wf2 wfn
    have hl1 : (nf != nf) = false := by simp
    have hl2 : (nt != nt) = false := by simp
    have hl3 : (((nn : Nat) : Int) != ((nn : Nat) : Int)) = false := by simp
    have HE := hide (show eqC nl nr np nl nr np = true by simp [eqC])
    have X := hide ((X.out.alloc #[.slice a1 l.length c1, .slice a2 r.length c2, .slice a3 ps.length c3] 27).alloc #[.int .i64 f, .int .i64 t] 43)
    have CC := hide ((CC.out.below (below1 w1 (.cells #[.slice a1 l.length c1, .slice a2 r.length c2, .slice a3 ps.length c3] 27))).below (below1 _ (.cells #[.int .i64 f, .int .i64 t] 43)))
    obtain ⟨w2, hw2⟩ : ∃ q, q = (w1.alloc (.cells #[.slice a1 l.length c1, .slice a2 r.length c2, .slice a3 ps.length c3] 27)).alloc (.cells #[.int .i64 f, .int .i64 t] 43) := ⟨_, rfl⟩
    obtain ⟨b0, hb0⟩ : ∃ q, q = w1.heap.size := ⟨_, rfl⟩
    rw [← hw2] at X CC
    simp only [World.size_alloc] at X
    rw [← hb0] at X
    simp only [List.cons_append, List.nil_append] at X
    have c00 : w2.cell? ⟨b0, 0, none⟩ = some (.slice a1 l.length c1) := X.out.cell 0 0 rfl rfl
    have c01 : w2.cell? ⟨b0, 1, none⟩ = some (.slice a2 r.length c2) := X.out.cell 0 1 rfl rfl
    have c02 : w2.cell? ⟨b0, 2, none⟩ = some (.slice a3 ps.length c3) := X.out.cell 0 2 rfl rfl
    have c10 : w2.cell? ⟨b0 + 1, 0, none⟩ = some (.int .i64 f) := X.out.cell 1 0 rfl rfl
    have c11 : w2.cell? ⟨b0 + 1, 1, none⟩ = some (.int .i64 t) := X.out.cell 1 1 rfl rfl
    rw [hw2] at c00 c01 c02 c10 c11
    go_wp2_with fail
    rw [← hw2]
    try rw [← hb0]
    clear hw2 hb0
    clear c00 c01 c02 c10 c11
    go_at_call 23
    refine (HI.out _ _ CC.out).mono ?_
    rintro e w3 ⟨x, y, z, loX, hiX, pX1, qX1, pX2, qX2, pX3, qX3, rfl, hlo, hhi, CX, hb⟩
    obtain ⟨gX1, kX1, rfl⟩ := CX.x.form
    obtain ⟨gX2, kX2, rfl⟩ := CX.y.form
    obtain ⟨gX3, kX3, rfl⟩ := CX.z.own.form
    have CX := hide (KX.out _ _ _ _ _ _ _ _ _ _ _ _ CX)
    clear hlo hhi
    have X := hide (X.out.up hb)
    have CC := hide (CC.out.below hb)
    have N0 := hide hb.size
    clear hb
    have hbl := below1 w3 (.cells #[.slice gX1 nl.length kX1, .slice gX2 nr.length kX2, .slice gX3 np.length kX3] 27)
    have X := hide (X.out.alloc #[.slice gX1 nl.length kX1, .slice gX2 nr.length kX2, .slice gX3 np.length kX3] 27)
    have CC := hide (CC.out.below hbl)
    have CX := hide (CX.out.below hbl)
    clear hbl
    obtain ⟨w4, hw4⟩ : ∃ q, q = w3.alloc (.cells #[.slice gX1 nl.length kX1, .slice gX2 nr.length kX2, .slice gX3 np.length kX3] 27) := ⟨_, rfl⟩
    obtain ⟨b2, hb2⟩ : ∃ q, q = w3.heap.size := ⟨_, rfl⟩
    have N1 := hide (show b2 = w3.heap.size ∧ w4.heap.size = w3.heap.size + 1 by rw [hw4, hb2]; simp)
    rw [← hw4] at X CC CX
    rw [← hb2] at X
    simp only [List.cons_append, List.nil_append] at X
    have c00 : w4.cell? ⟨b0, 0, none⟩ = some (.slice a1 l.length c1) := X.out.cell 0 0 rfl rfl
    have c01 : w4.cell? ⟨b0, 1, none⟩ = some (.slice a2 r.length c2) := X.out.cell 0 1 rfl rfl
    have c02 : w4.cell? ⟨b0, 2, none⟩ = some (.slice a3 ps.length c3) := X.out.cell 0 2 rfl rfl
    have c10 : w4.cell? ⟨b0 + 1, 0, none⟩ = some (.int .i64 f) := X.out.cell 1 0 rfl rfl
    have c11 : w4.cell? ⟨b0 + 1, 1, none⟩ = some (.int .i64 t) := X.out.cell 1 1 rfl rfl
    have c20 : w4.cell? ⟨b2, 0, none⟩ = some (.slice gX1 nl.length kX1) := X.out.cell 2 0 rfl rfl
    have c21 : w4.cell? ⟨b2, 1, none⟩ = some (.slice gX2 nr.length kX2) := X.out.cell 2 1 rfl rfl
    have c22 : w4.cell? ⟨b2, 2, none⟩ = some (.slice gX3 np.length kX3) := X.out.cell 2 2 rfl rfl
    rw [hw4] at c00 c01 c02 c10 c11 c20 c21 c22
    go_wp2_with fail
    rw [← hw4]
    try rw [← hb2]
    clear hw4 hb2
    clear c00 c01 c02 c10 c11 c20 c21 c22
    go_at_call 24
    refine (HS.out _ _ CC.out).mono ?_
    rintro e w5 ⟨x, y, z, loY, hiY, pY1, qY1, pY2, qY2, pY3, qY3, rfl, hlo, hhi, CY, hb⟩
    obtain ⟨gY1, kY1, rfl⟩ := CY.x.form
    obtain ⟨gY2, kY2, rfl⟩ := CY.y.form
    obtain ⟨gY3, kY3, rfl⟩ := CY.z.own.form
    have CY := hide (KX.out _ _ _ _ _ _ _ _ _ _ _ _ CY)
    clear hlo hhi
    have X := hide (X.out.up hb)
    have CC := hide (CC.out.below hb)
    have CX := hide (CX.out.below hb)
    have N2 := hide hb.size
    clear hb
    have hbl := below1 w5 (.cells #[.slice gY1 nl.length kY1, .slice gY2 nr.length kY2, .slice gY3 np.length kY3] 27)
    have X := hide (X.out.alloc #[.slice gY1 nl.length kY1, .slice gY2 nr.length kY2, .slice gY3 np.length kY3] 27)
    have CC := hide (CC.out.below hbl)
    have CX := hide (CX.out.below hbl)
    have CY := hide (CY.out.below hbl)
    clear hbl
    obtain ⟨w6, hw6⟩ : ∃ q, q = w5.alloc (.cells #[.slice gY1 nl.length kY1, .slice gY2 nr.length kY2, .slice gY3 np.length kY3] 27) := ⟨_, rfl⟩
    obtain ⟨b3, hb3⟩ : ∃ q, q = w5.heap.size := ⟨_, rfl⟩
    have N3 := hide (show b3 = w5.heap.size ∧ w6.heap.size = w5.heap.size + 1 by rw [hw6, hb3]; simp)
    rw [← hw6] at X CC CX CY
    rw [← hb3] at X
    simp only [List.cons_append, List.nil_append] at X
    have c00 : w6.cell? ⟨b0, 0, none⟩ = some (.slice a1 l.length c1) := X.out.cell 0 0 rfl rfl
    have c01 : w6.cell? ⟨b0, 1, none⟩ = some (.slice a2 r.length c2) := X.out.cell 0 1 rfl rfl
    have c02 : w6.cell? ⟨b0, 2, none⟩ = some (.slice a3 ps.length c3) := X.out.cell 0 2 rfl rfl
    have c10 : w6.cell? ⟨b0 + 1, 0, none⟩ = some (.int .i64 f) := X.out.cell 1 0 rfl rfl
    have c11 : w6.cell? ⟨b0 + 1, 1, none⟩ = some (.int .i64 t) := X.out.cell 1 1 rfl rfl
    have c20 : w6.cell? ⟨b2, 0, none⟩ = some (.slice gX1 nl.length kX1) := X.out.cell 2 0 rfl rfl
    have c21 : w6.cell? ⟨b2, 1, none⟩ = some (.slice gX2 nr.length kX2) := X.out.cell 2 1 rfl rfl
    have c22 : w6.cell? ⟨b2, 2, none⟩ = some (.slice gX3 np.length kX3) := X.out.cell 2 2 rfl rfl
    have c30 : w6.cell? ⟨b3, 0, none⟩ = some (.slice gY1 nl.length kY1) := X.out.cell 3 0 rfl rfl
    have c31 : w6.cell? ⟨b3, 1, none⟩ = some (.slice gY2 nr.length kY2) := X.out.cell 3 1 rfl rfl
    have c32 : w6.cell? ⟨b3, 2, none⟩ = some (.slice gY3 np.length kY3) := X.out.cell 3 2 rfl rfl
    rw [hw6] at c00 c01 c02 c10 c11 c20 c21 c22 c30 c31 c32
    go_wp2_with fail
    rw [← hw6]
    try rw [← hb3]
    clear hw6 hb3
    clear c00 c01 c02 c10 c11 c20 c21 c22 c30 c31 c32
    go_at_call 15
    refine (sEqCk_any _ _ nl nr nl nr np np _ _ CX.out CY.out (Nat.le_refl _)).mono ?_
    rintro e w7 ⟨rfl, hb⟩
    rw [HE.out]
    have X := hide (X.out.up hb)
    have CC := hide (CC.out.below hb)
    have CX := hide (CX.out.below hb)
    have CY := hide (CY.out.below hb)
    have N4 := hide hb.size
    clear hb
    obtain ⟨t0, ht0⟩ : ∃ q, q = isCk l r ps := ⟨_, rfl⟩
    rw [← ht0] at HCK
    obtain ⟨t1, ht1⟩ : ∃ q, q = isR f t := ⟨_, rfl⟩
    have HOK3 := hide (show seOk l r ps f t = (t0 && t1) by rw [HOK2.out, ht0, ht1])
    have HRR := hide (fun W => show Calls Try.prog 26 #[.agg #[.int .i64 f, .int .i64 t]] W (RetB1 W t1) by rw [ht1]; exact sIsR_any f t W)
    clear ht0 ht1
    have c00 : w7.cell? ⟨b0, 0, none⟩ = some (.slice a1 l.length c1) := X.out.cell 0 0 rfl rfl
    have c01 : w7.cell? ⟨b0, 1, none⟩ = some (.slice a2 r.length c2) := X.out.cell 0 1 rfl rfl
    have c02 : w7.cell? ⟨b0, 2, none⟩ = some (.slice a3 ps.length c3) := X.out.cell 0 2 rfl rfl
    have c10 : w7.cell? ⟨b0 + 1, 0, none⟩ = some (.int .i64 f) := X.out.cell 1 0 rfl rfl
    have c11 : w7.cell? ⟨b0 + 1, 1, none⟩ = some (.int .i64 t) := X.out.cell 1 1 rfl rfl
    have c20 : w7.cell? ⟨b2, 0, none⟩ = some (.slice gX1 nl.length kX1) := X.out.cell 2 0 rfl rfl
    have c21 : w7.cell? ⟨b2, 1, none⟩ = some (.slice gX2 nr.length kX2) := X.out.cell 2 1 rfl rfl
    have c22 : w7.cell? ⟨b2, 2, none⟩ = some (.slice gX3 np.length kX3) := X.out.cell 2 2 rfl rfl
    have c30 : w7.cell? ⟨b3, 0, none⟩ = some (.slice gY1 nl.length kY1) := X.out.cell 3 0 rfl rfl
    have c31 : w7.cell? ⟨b3, 1, none⟩ = some (.slice gY2 nr.length kY2) := X.out.cell 3 1 rfl rfl
    have c32 : w7.cell? ⟨b3, 2, none⟩ = some (.slice gY3 np.length kY3) := X.out.cell 3 2 rfl rfl
    go_wp2_with fail
    clear c00 c01 c02 c10 c11 c20 c21 c22 c30 c31 c32
    go_at_call 25
    refine (HCK.out _ _ CC.out).mono ?_
    rintro e w8 ⟨rfl, hb⟩
    have X := hide (X.out.up hb)
    have CC := hide (CC.out.below hb)
    have CX := hide (CX.out.below hb)
    have CY := hide (CY.out.below hb)
    have N5 := hide hb.size
    clear hb
    cases t0 with
    | false =>
      have hn := HNO.out (by rw [HOK3.out]; simp)
      have HE2 := hide (show eqC nl nr np l r ps = true by rw [hn.1, hn.2.1, hn.2.2]; simp [eqC])
      clear hn hl1 hl2 hl3
      have c00 : w8.cell? ⟨b0, 0, none⟩ = some (.slice a1 l.length c1) := X.out.cell 0 0 rfl rfl
      have c01 : w8.cell? ⟨b0, 1, none⟩ = some (.slice a2 r.length c2) := X.out.cell 0 1 rfl rfl
      have c02 : w8.cell? ⟨b0, 2, none⟩ = some (.slice a3 ps.length c3) := X.out.cell 0 2 rfl rfl
      have c10 : w8.cell? ⟨b0 + 1, 0, none⟩ = some (.int .i64 f) := X.out.cell 1 0 rfl rfl
      have c11 : w8.cell? ⟨b0 + 1, 1, none⟩ = some (.int .i64 t) := X.out.cell 1 1 rfl rfl
      have c20 : w8.cell? ⟨b2, 0, none⟩ = some (.slice gX1 nl.length kX1) := X.out.cell 2 0 rfl rfl
      have c21 : w8.cell? ⟨b2, 1, none⟩ = some (.slice gX2 nr.length kX2) := X.out.cell 2 1 rfl rfl
      have c22 : w8.cell? ⟨b2, 2, none⟩ = some (.slice gX3 np.length kX3) := X.out.cell 2 2 rfl rfl
      have c30 : w8.cell? ⟨b3, 0, none⟩ = some (.slice gY1 nl.length kY1) := X.out.cell 3 0 rfl rfl
      have c31 : w8.cell? ⟨b3, 1, none⟩ = some (.slice gY2 nr.length kY2) := X.out.cell 3 1 rfl rfl
      have c32 : w8.cell? ⟨b3, 2, none⟩ = some (.slice gY3 np.length kY3) := X.out.cell 3 2 rfl rfl
      go_wp2_with fail
      clear c00 c01 c02 c10 c11 c20 c21 c22 c30 c31 c32
      go_at_call 15
      refine (sEqCk_any _ _ nl nr l r np ps _ _ CX.out CC.out (Nat.le_refl _)).mono ?_
      rintro e w9 ⟨rfl, hb⟩
      rw [HE2.out]
      have X := hide (X.out.up hb)
      have CC := hide (CC.out.below hb)
      have CX := hide (CX.out.below hb)
      have CY := hide (CY.out.below hb)
      have N6 := hide hb.size
      clear hb
      have c00 : w9.cell? ⟨b0, 0, none⟩ = some (.slice a1 l.length c1) := X.out.cell 0 0 rfl rfl
      have c01 : w9.cell? ⟨b0, 1, none⟩ = some (.slice a2 r.length c2) := X.out.cell 0 1 rfl rfl
      have c02 : w9.cell? ⟨b0, 2, none⟩ = some (.slice a3 ps.length c3) := X.out.cell 0 2 rfl rfl
      have c10 : w9.cell? ⟨b0 + 1, 0, none⟩ = some (.int .i64 f) := X.out.cell 1 0 rfl rfl
      have c11 : w9.cell? ⟨b0 + 1, 1, none⟩ = some (.int .i64 t) := X.out.cell 1 1 rfl rfl
      have c20 : w9.cell? ⟨b2, 0, none⟩ = some (.slice gX1 nl.length kX1) := X.out.cell 2 0 rfl rfl
      have c21 : w9.cell? ⟨b2, 1, none⟩ = some (.slice gX2 nr.length kX2) := X.out.cell 2 1 rfl rfl
      have c22 : w9.cell? ⟨b2, 2, none⟩ = some (.slice gX3 np.length kX3) := X.out.cell 2 2 rfl rfl
      have c30 : w9.cell? ⟨b3, 0, none⟩ = some (.slice gY1 nl.length kY1) := X.out.cell 3 0 rfl rfl
      have c31 : w9.cell? ⟨b3, 1, none⟩ = some (.slice gY2 nr.length kY2) := X.out.cell 3 1 rfl rfl
      have c32 : w9.cell? ⟨b3, 2, none⟩ = some (.slice gY3 np.length kY3) := X.out.cell 3 2 rfl rfl
      go_wp2_with fail
      clear c00 c01 c02 c10 c11 c20 c21 c22 c30 c31 c32
      go_ret
      exact ⟨rfl, X.out.below⟩
    | true =>
      have c00 : w8.cell? ⟨b0, 0, none⟩ = some (.slice a1 l.length c1) := X.out.cell 0 0 rfl rfl
      have c01 : w8.cell? ⟨b0, 1, none⟩ = some (.slice a2 r.length c2) := X.out.cell 0 1 rfl rfl
      have c02 : w8.cell? ⟨b0, 2, none⟩ = some (.slice a3 ps.length c3) := X.out.cell 0 2 rfl rfl
      have c10 : w8.cell? ⟨b0 + 1, 0, none⟩ = some (.int .i64 f) := X.out.cell 1 0 rfl rfl
      have c11 : w8.cell? ⟨b0 + 1, 1, none⟩ = some (.int .i64 t) := X.out.cell 1 1 rfl rfl
      have c20 : w8.cell? ⟨b2, 0, none⟩ = some (.slice gX1 nl.length kX1) := X.out.cell 2 0 rfl rfl
      have c21 : w8.cell? ⟨b2, 1, none⟩ = some (.slice gX2 nr.length kX2) := X.out.cell 2 1 rfl rfl
      have c22 : w8.cell? ⟨b2, 2, none⟩ = some (.slice gX3 np.length kX3) := X.out.cell 2 2 rfl rfl
      have c30 : w8.cell? ⟨b3, 0, none⟩ = some (.slice gY1 nl.length kY1) := X.out.cell 3 0 rfl rfl
      have c31 : w8.cell? ⟨b3, 1, none⟩ = some (.slice gY2 nr.length kY2) := X.out.cell 3 1 rfl rfl
      have c32 : w8.cell? ⟨b3, 2, none⟩ = some (.slice gY3 np.length kY3) := X.out.cell 3 2 rfl rfl
      go_wp2_with fail
      clear c00 c01 c02 c10 c11 c20 c21 c22 c30 c31 c32
      go_at_call 26
      refine (HRR.out _).mono ?_
      rintro e w10 ⟨rfl, hb⟩
      have X := hide (X.out.up hb)
      have CC := hide (CC.out.below hb)
      have CX := hide (CX.out.below hb)
      have CY := hide (CY.out.below hb)
      have N6 := hide hb.size
      clear hb
      cases t1 with
      | false =>
        have hn := HNO.out (by rw [HOK3.out]; simp)
        have HE2 := hide (show eqC nl nr np l r ps = true by rw [hn.1, hn.2.1, hn.2.2]; simp [eqC])
        clear hn hl1 hl2 hl3
        have c00 : w10.cell? ⟨b0, 0, none⟩ = some (.slice a1 l.length c1) := X.out.cell 0 0 rfl rfl
        have c01 : w10.cell? ⟨b0, 1, none⟩ = some (.slice a2 r.length c2) := X.out.cell 0 1 rfl rfl
        have c02 : w10.cell? ⟨b0, 2, none⟩ = some (.slice a3 ps.length c3) := X.out.cell 0 2 rfl rfl
        have c10 : w10.cell? ⟨b0 + 1, 0, none⟩ = some (.int .i64 f) := X.out.cell 1 0 rfl rfl
        have c11 : w10.cell? ⟨b0 + 1, 1, none⟩ = some (.int .i64 t) := X.out.cell 1 1 rfl rfl
        have c20 : w10.cell? ⟨b2, 0, none⟩ = some (.slice gX1 nl.length kX1) := X.out.cell 2 0 rfl rfl
        have c21 : w10.cell? ⟨b2, 1, none⟩ = some (.slice gX2 nr.length kX2) := X.out.cell 2 1 rfl rfl
        have c22 : w10.cell? ⟨b2, 2, none⟩ = some (.slice gX3 np.length kX3) := X.out.cell 2 2 rfl rfl
        have c30 : w10.cell? ⟨b3, 0, none⟩ = some (.slice gY1 nl.length kY1) := X.out.cell 3 0 rfl rfl
        have c31 : w10.cell? ⟨b3, 1, none⟩ = some (.slice gY2 nr.length kY2) := X.out.cell 3 1 rfl rfl
        have c32 : w10.cell? ⟨b3, 2, none⟩ = some (.slice gY3 np.length kY3) := X.out.cell 3 2 rfl rfl
        go_wp2_with fail
        clear c00 c01 c02 c10 c11 c20 c21 c22 c30 c31 c32
        go_at_call 15
        refine (sEqCk_any _ _ nl nr l r np ps _ _ CX.out CC.out (Nat.le_refl _)).mono ?_
        rintro e w11 ⟨rfl, hb⟩
        rw [HE2.out]
        have X := hide (X.out.up hb)
        have CC := hide (CC.out.below hb)
        have CX := hide (CX.out.below hb)
        have CY := hide (CY.out.below hb)
        have N7 := hide hb.size
        clear hb
        have c00 : w11.cell? ⟨b0, 0, none⟩ = some (.slice a1 l.length c1) := X.out.cell 0 0 rfl rfl
        have c01 : w11.cell? ⟨b0, 1, none⟩ = some (.slice a2 r.length c2) := X.out.cell 0 1 rfl rfl
        have c02 : w11.cell? ⟨b0, 2, none⟩ = some (.slice a3 ps.length c3) := X.out.cell 0 2 rfl rfl
        have c10 : w11.cell? ⟨b0 + 1, 0, none⟩ = some (.int .i64 f) := X.out.cell 1 0 rfl rfl
        have c11 : w11.cell? ⟨b0 + 1, 1, none⟩ = some (.int .i64 t) := X.out.cell 1 1 rfl rfl
        have c20 : w11.cell? ⟨b2, 0, none⟩ = some (.slice gX1 nl.length kX1) := X.out.cell 2 0 rfl rfl
        have c21 : w11.cell? ⟨b2, 1, none⟩ = some (.slice gX2 nr.length kX2) := X.out.cell 2 1 rfl rfl
        have c22 : w11.cell? ⟨b2, 2, none⟩ = some (.slice gX3 np.length kX3) := X.out.cell 2 2 rfl rfl
        have c30 : w11.cell? ⟨b3, 0, none⟩ = some (.slice gY1 nl.length kY1) := X.out.cell 3 0 rfl rfl
        have c31 : w11.cell? ⟨b3, 1, none⟩ = some (.slice gY2 nr.length kY2) := X.out.cell 3 1 rfl rfl
        have c32 : w11.cell? ⟨b3, 2, none⟩ = some (.slice gY3 np.length kY3) := X.out.cell 3 2 rfl rfl
        go_wp2_with fail
        clear c00 c01 c02 c10 c11 c20 c21 c22 c30 c31 c32
        go_ret
        exact ⟨rfl, X.out.below⟩
      | true =>
        have hs := HSAY.out (by rw [HOK3.out]; rfl)
        obtain ⟨s1, s2, s3, s4⟩ := hs
        rw [s1] at HF0
        rw [s2] at HF1
        have HOK := hide s3
        rw [← s4] at HRI
        clear s1 s2 s3 s4 HSAY HNO
        have c00 : w10.cell? ⟨b0, 0, none⟩ = some (.slice a1 l.length c1) := X.out.cell 0 0 rfl rfl
        have c01 : w10.cell? ⟨b0, 1, none⟩ = some (.slice a2 r.length c2) := X.out.cell 0 1 rfl rfl
        have c02 : w10.cell? ⟨b0, 2, none⟩ = some (.slice a3 ps.length c3) := X.out.cell 0 2 rfl rfl
        have c10 : w10.cell? ⟨b0 + 1, 0, none⟩ = some (.int .i64 f) := X.out.cell 1 0 rfl rfl
        have c11 : w10.cell? ⟨b0 + 1, 1, none⟩ = some (.int .i64 t) := X.out.cell 1 1 rfl rfl
        have c20 : w10.cell? ⟨b2, 0, none⟩ = some (.slice gX1 nl.length kX1) := X.out.cell 2 0 rfl rfl
        have c21 : w10.cell? ⟨b2, 1, none⟩ = some (.slice gX2 nr.length kX2) := X.out.cell 2 1 rfl rfl
        have c22 : w10.cell? ⟨b2, 2, none⟩ = some (.slice gX3 np.length kX3) := X.out.cell 2 2 rfl rfl
        have c30 : w10.cell? ⟨b3, 0, none⟩ = some (.slice gY1 nl.length kY1) := X.out.cell 3 0 rfl rfl
        have c31 : w10.cell? ⟨b3, 1, none⟩ = some (.slice gY2 nr.length kY2) := X.out.cell 3 1 rfl rfl
        have c32 : w10.cell? ⟨b3, 2, none⟩ = some (.slice gY3 np.length kY3) := X.out.cell 3 2 rfl rfl
        go_wp2_with fail
        clear c00 c01 c02 c10 c11 c20 c21 c22 c30 c31 c32
        go_at_call 17
        refine (HF0.out _ _ CX.out).mono ?_
        rintro e w12 ⟨rfl, hb⟩
        have X := hide (X.out.up hb)
        have CC := hide (CC.out.below hb)
        have CX := hide (CX.out.below hb)
        have CY := hide (CY.out.below hb)
        have N7 := hide hb.size
        clear hb
        have c00 : w12.cell? ⟨b0, 0, none⟩ = some (.slice a1 l.length c1) := X.out.cell 0 0 rfl rfl
        have c01 : w12.cell? ⟨b0, 1, none⟩ = some (.slice a2 r.length c2) := X.out.cell 0 1 rfl rfl
        have c02 : w12.cell? ⟨b0, 2, none⟩ = some (.slice a3 ps.length c3) := X.out.cell 0 2 rfl rfl
        have c10 : w12.cell? ⟨b0 + 1, 0, none⟩ = some (.int .i64 f) := X.out.cell 1 0 rfl rfl
        have c11 : w12.cell? ⟨b0 + 1, 1, none⟩ = some (.int .i64 t) := X.out.cell 1 1 rfl rfl
        have c20 : w12.cell? ⟨b2, 0, none⟩ = some (.slice gX1 nl.length kX1) := X.out.cell 2 0 rfl rfl
        have c21 : w12.cell? ⟨b2, 1, none⟩ = some (.slice gX2 nr.length kX2) := X.out.cell 2 1 rfl rfl
        have c22 : w12.cell? ⟨b2, 2, none⟩ = some (.slice gX3 np.length kX3) := X.out.cell 2 2 rfl rfl
        have c30 : w12.cell? ⟨b3, 0, none⟩ = some (.slice gY1 nl.length kY1) := X.out.cell 3 0 rfl rfl
        have c31 : w12.cell? ⟨b3, 1, none⟩ = some (.slice gY2 nr.length kY2) := X.out.cell 3 1 rfl rfl
        have c32 : w12.cell? ⟨b3, 2, none⟩ = some (.slice gY3 np.length kY3) := X.out.cell 3 2 rfl rfl
        go_wp2_with fail
        clear c00 c01 c02 c10 c11 c20 c21 c22 c30 c31 c32
        go_at_call 17
        refine (HF1.out _ _ CX.out).mono ?_
        rintro e w13 ⟨rfl, hb⟩
        have X := hide (X.out.up hb)
        have CC := hide (CC.out.below hb)
        have CX := hide (CX.out.below hb)
        have CY := hide (CY.out.below hb)
        have N8 := hide hb.size
        clear hb
        have c00 : w13.cell? ⟨b0, 0, none⟩ = some (.slice a1 l.length c1) := X.out.cell 0 0 rfl rfl
        have c01 : w13.cell? ⟨b0, 1, none⟩ = some (.slice a2 r.length c2) := X.out.cell 0 1 rfl rfl
        have c02 : w13.cell? ⟨b0, 2, none⟩ = some (.slice a3 ps.length c3) := X.out.cell 0 2 rfl rfl
        have c10 : w13.cell? ⟨b0 + 1, 0, none⟩ = some (.int .i64 f) := X.out.cell 1 0 rfl rfl
        have c11 : w13.cell? ⟨b0 + 1, 1, none⟩ = some (.int .i64 t) := X.out.cell 1 1 rfl rfl
        have c20 : w13.cell? ⟨b2, 0, none⟩ = some (.slice gX1 nl.length kX1) := X.out.cell 2 0 rfl rfl
        have c21 : w13.cell? ⟨b2, 1, none⟩ = some (.slice gX2 nr.length kX2) := X.out.cell 2 1 rfl rfl
        have c22 : w13.cell? ⟨b2, 2, none⟩ = some (.slice gX3 np.length kX3) := X.out.cell 2 2 rfl rfl
        have c30 : w13.cell? ⟨b3, 0, none⟩ = some (.slice gY1 nl.length kY1) := X.out.cell 3 0 rfl rfl
        have c31 : w13.cell? ⟨b3, 1, none⟩ = some (.slice gY2 nr.length kY2) := X.out.cell 3 1 rfl rfl
        have c32 : w13.cell? ⟨b3, 2, none⟩ = some (.slice gY3 np.length kY3) := X.out.cell 3 2 rfl rfl
        go_wp2_with fail
        clear c00 c01 c02 c10 c11 c20 c21 c22 c30 c31 c32
        go_at_call 27
        refine (HA.out _ _ CC.out).mono ?_
        rintro e w14 ⟨x, y, z, v, loZ, hiZ, pZ1, qZ1, pZ2, qZ2, pZ3, qZ3, mZ, mhZ, rfl, hlo, hhm, hhi, CZ, SZ, hb⟩
        obtain ⟨gZ1, kZ1, rfl⟩ := CZ.x.form
        obtain ⟨gZ2, kZ2, rfl⟩ := CZ.y.form
        obtain ⟨gZ3, kZ3, rfl⟩ := CZ.z.own.form
        have CZ := hide (KX.out _ _ _ _ _ _ _ _ _ _ _ _ CZ)
        obtain ⟨gv, kv, rfl⟩ := SZ.form
        have SZ := hide (SZ.ints HANW.out)
        clear hlo hhm hhi
        have X := hide (X.out.up hb)
        have CC := hide (CC.out.below hb)
        have CX := hide (CX.out.below hb)
        have CY := hide (CY.out.below hb)
        have N9 := hide hb.size
        clear hb
        have SZ := hide (show IU w14 (.slice gv na.length kv) na from SZ.out)
        have hbl := below1 w14 (.cells #[.slice gZ1 nl.length kZ1, .slice gZ2 nr.length kZ2, .slice gZ3 np.length kZ3] 27)
        have X := hide (X.out.alloc #[.slice gZ1 nl.length kZ1, .slice gZ2 nr.length kZ2, .slice gZ3 np.length kZ3] 27)
        have CC := hide (CC.out.below hbl)
        have CX := hide (CX.out.below hbl)
        have CY := hide (CY.out.below hbl)
        have CZ := hide (CZ.out.below hbl)
        have SZ := hide (SZ.out.below hbl)
        clear hbl
        obtain ⟨w15, hw15⟩ : ∃ q, q = w14.alloc (.cells #[.slice gZ1 nl.length kZ1, .slice gZ2 nr.length kZ2, .slice gZ3 np.length kZ3] 27) := ⟨_, rfl⟩
        obtain ⟨b4, hb4⟩ : ∃ q, q = w14.heap.size := ⟨_, rfl⟩
        have N10 := hide (show b4 = w14.heap.size ∧ w15.heap.size = w14.heap.size + 1 by rw [hw15, hb4]; simp)
        rw [← hw15] at X CC CX CY CZ SZ
        rw [← hb4] at X
        simp only [List.cons_append, List.nil_append] at X
        have c00 : w15.cell? ⟨b0, 0, none⟩ = some (.slice a1 l.length c1) := X.out.cell 0 0 rfl rfl
        have c01 : w15.cell? ⟨b0, 1, none⟩ = some (.slice a2 r.length c2) := X.out.cell 0 1 rfl rfl
        have c02 : w15.cell? ⟨b0, 2, none⟩ = some (.slice a3 ps.length c3) := X.out.cell 0 2 rfl rfl
        have c10 : w15.cell? ⟨b0 + 1, 0, none⟩ = some (.int .i64 f) := X.out.cell 1 0 rfl rfl
        have c11 : w15.cell? ⟨b0 + 1, 1, none⟩ = some (.int .i64 t) := X.out.cell 1 1 rfl rfl
        have c20 : w15.cell? ⟨b2, 0, none⟩ = some (.slice gX1 nl.length kX1) := X.out.cell 2 0 rfl rfl
        have c21 : w15.cell? ⟨b2, 1, none⟩ = some (.slice gX2 nr.length kX2) := X.out.cell 2 1 rfl rfl
        have c22 : w15.cell? ⟨b2, 2, none⟩ = some (.slice gX3 np.length kX3) := X.out.cell 2 2 rfl rfl
        have c30 : w15.cell? ⟨b3, 0, none⟩ = some (.slice gY1 nl.length kY1) := X.out.cell 3 0 rfl rfl
        have c31 : w15.cell? ⟨b3, 1, none⟩ = some (.slice gY2 nr.length kY2) := X.out.cell 3 1 rfl rfl
        have c32 : w15.cell? ⟨b3, 2, none⟩ = some (.slice gY3 np.length kY3) := X.out.cell 3 2 rfl rfl
        have c40 : w15.cell? ⟨b4, 0, none⟩ = some (.slice gZ1 nl.length kZ1) := X.out.cell 4 0 rfl rfl
        have c41 : w15.cell? ⟨b4, 1, none⟩ = some (.slice gZ2 nr.length kZ2) := X.out.cell 4 1 rfl rfl
        have c42 : w15.cell? ⟨b4, 2, none⟩ = some (.slice gZ3 np.length kZ3) := X.out.cell 4 2 rfl rfl
        rw [hw15] at c00 c01 c02 c10 c11 c20 c21 c22 c30 c31 c32 c40 c41 c42
        go_upto_region 13 with fail
        rw [← hw15]
        try rw [← hb4]
        rw [← hw15] at c00 c01 c02 c10 c11 c20 c21 c22 c30 c31 c32 c40 c41 c42
        clear hw15 hb4
        have v1 : (nf == nf) = true := by simp
        have v2 : (nt == nt) = true := by simp
        have v3 : decide ((nn : Int) ≤ (l.length : Int)) = true := by have := HLE.out; simp; omega
        have v4 : nn ≤ l.length := HLE.out
        have HSO := hide (show sortL (prs nl nr) = sortL (prs l r) from prs_perm HZIP.out)
        obtain ⟨so, hso⟩ : ∃ q, q = sortL (prs l r) := ⟨_, rfl⟩
        have HP1 := hide (fun (W : World) (u : Value) (h : CU W u nl nr np) => show Calls Try.prog 21 #[u] W (RetOw W so) by rw [hso, ← HSO.out]; exact pairs_any u nl nr np W W.heap.size h (Nat.le_refl _) HNL2.out)
        have HP2 := hide (fun (W : World) (u : Value) (h : CU W u l r ps) => show Calls Try.prog 21 #[u] W (RetOw W so) by rw [hso]; exact pairs_any u l r ps W W.heap.size h (Nat.le_refl _) hll)
        have HSOW := hide (show ∀ x ∈ so, I64 x from fun x hx => prs_wf l r x (sortL_mem.1 (by rw [hso] at hx; exact hx)))
        clear hso hll
        have X := hide X.out.drew
        have CC := hide (CC.out.below (Below.refl _ _).drew)
        have CX := hide (CX.out.below (Below.refl _ _).drew)
        have CY := hide (CY.out.below (Below.refl _ _).drew)
        have CZ := hide (CZ.out.below (Below.refl _ _).drew)
        have SZ := hide (SZ.out.below (Below.refl _ _).drew)
        have KS := hide (fun (w' : World) (h : Kn w w' [(b0, #[.slice a1 l.length c1, .slice a2 r.length c2, .slice a3 ps.length c3], 27), (b0 + 1, #[.int .i64 f, .int .i64 t], 43), (b2, #[.slice gX1 nl.length kX1, .slice gX2 nr.length kX2, .slice gX3 np.length kX3], 27), (b3, #[.slice gY1 nl.length kY1, .slice gY2 nr.length kY2, .slice gY3 np.length kY3], 27), (b4, #[.slice gZ1 nl.length kZ1, .slice gZ2 nr.length kZ2, .slice gZ3 np.length kZ3], 27)]) => show w'.cell? ⟨b0, 0, none⟩ = some (.slice a1 l.length c1) ∧ w'.cell? ⟨b0, 1, none⟩ = some (.slice a2 r.length c2) ∧ w'.cell? ⟨b0, 2, none⟩ = some (.slice a3 ps.length c3) ∧ w'.cell? ⟨b0 + 1, 0, none⟩ = some (.int .i64 f) ∧ w'.cell? ⟨b0 + 1, 1, none⟩ = some (.int .i64 t) ∧ w'.cell? ⟨b2, 0, none⟩ = some (.slice gX1 nl.length kX1) ∧ w'.cell? ⟨b2, 1, none⟩ = some (.slice gX2 nr.length kX2) ∧ w'.cell? ⟨b2, 2, none⟩ = some (.slice gX3 np.length kX3) ∧ w'.cell? ⟨b3, 0, none⟩ = some (.slice gY1 nl.length kY1) ∧ w'.cell? ⟨b3, 1, none⟩ = some (.slice gY2 nr.length kY2) ∧ w'.cell? ⟨b3, 2, none⟩ = some (.slice gY3 np.length kY3) ∧ w'.cell? ⟨b4, 0, none⟩ = some (.slice gZ1 nl.length kZ1) ∧ w'.cell? ⟨b4, 1, none⟩ = some (.slice gZ2 nr.length kZ2) ∧ w'.cell? ⟨b4, 2, none⟩ = some (.slice gZ3 np.length kZ3) from ⟨h.cell 0 0 rfl rfl, h.cell 0 1 rfl rfl, h.cell 0 2 rfl rfl, h.cell 1 0 rfl rfl, h.cell 1 1 rfl rfl, h.cell 2 0 rfl rfl, h.cell 2 1 rfl rfl, h.cell 2 2 rfl rfl, h.cell 3 0 rfl rfl, h.cell 3 1 rfl rfl, h.cell 3 2 rfl rfl, h.cell 4 0 rfl rfl, h.cell 4 1 rfl rfl, h.cell 4 2 rfl rfl⟩)
        go_region_held3 (fun w' => w'.cell? ⟨b0, 0, none⟩ = some (.slice a1 l.length c1) ∧ w'.cell? ⟨b0, 1, none⟩ = some (.slice a2 r.length c2) ∧ w'.cell? ⟨b0, 2, none⟩ = some (.slice a3 ps.length c3) ∧ w'.cell? ⟨b0 + 1, 0, none⟩ = some (.int .i64 f) ∧ w'.cell? ⟨b0 + 1, 1, none⟩ = some (.int .i64 t) ∧ w'.cell? ⟨b2, 0, none⟩ = some (.slice gX1 nl.length kX1) ∧ w'.cell? ⟨b2, 1, none⟩ = some (.slice gX2 nr.length kX2) ∧ w'.cell? ⟨b2, 2, none⟩ = some (.slice gX3 np.length kX3) ∧ w'.cell? ⟨b3, 0, none⟩ = some (.slice gY1 nl.length kY1) ∧ w'.cell? ⟨b3, 1, none⟩ = some (.slice gY2 nr.length kY2) ∧ w'.cell? ⟨b3, 2, none⟩ = some (.slice gY3 np.length kY3) ∧ w'.cell? ⟨b4, 0, none⟩ = some (.slice gZ1 nl.length kZ1) ∧ w'.cell? ⟨b4, 1, none⟩ = some (.slice gZ2 nr.length kZ2) ∧ w'.cell? ⟨b4, 2, none⟩ = some (.slice gZ3 np.length kZ3)) (first | with_reducible exact KS.out _ X.out | go_keep) (first
          | (go_at_call 15; refine (sEqCk_any _ _ nl nr nl nr np np _ _ CZ.out CX.out (Nat.le_refl _)).mono ?_; rintro e wq ⟨rfl, hb⟩; rw [HE.out]; replace X := hide (X.out.up hb); replace CC := hide (CC.out.below hb); replace CX := hide (CX.out.below hb); replace CY := hide (CY.out.below hb); replace CZ := hide (CZ.out.below hb); replace SZ := hide (SZ.out.below hb); (try replace RI := hide (RI.out.below hb)); (try replace RB := hide (RB.out.below hb)); (try replace OX := hide (OX.out.below hb)); clear c00 c01 c02 c10 c11 c20 c21 c22 c30 c31 c32 c40 c41 c42; obtain ⟨c00, c01, c02, c10, c11, c20, c21, c22, c30, c31, c32, c40, c41, c42⟩ := KS.out _ X.out; clear hb)
          | (go_at_call 28; refine (HRI.out _ _ CC.out).mono ?_; rintro e wq ⟨vx, hx, rfl, RI, hb⟩; replace X := hide (X.out.up hb); replace CC := hide (CC.out.below hb); replace CX := hide (CX.out.below hb); replace CY := hide (CY.out.below hb); replace CZ := hide (CZ.out.below hb); replace SZ := hide (SZ.out.below hb); (try replace RI := hide (RI.out.below hb)); (try replace RB := hide (RB.out.below hb)); (try replace OX := hide (OX.out.below hb)); clear c00 c01 c02 c10 c11 c20 c21 c22 c30 c31 c32 c40 c41 c42; obtain ⟨c00, c01, c02, c10, c11, c20, c21, c22, c30, c31, c32, c40, c41, c42⟩ := KS.out _ X.out; replace RI := hide (show IU wq vx na from RI.ints HANW.out); clear hb)
          | (go_at_call 29; refine (HRB.out _ _ CX.out).mono ?_; rintro e wq ⟨vy, hx, rfl, RB, hb⟩; replace X := hide (X.out.up hb); replace CC := hide (CC.out.below hb); replace CX := hide (CX.out.below hb); replace CY := hide (CY.out.below hb); replace CZ := hide (CZ.out.below hb); replace SZ := hide (SZ.out.below hb); (try replace RI := hide (RI.out.below hb)); (try replace RB := hide (RB.out.below hb)); (try replace OX := hide (OX.out.below hb)); clear c00 c01 c02 c10 c11 c20 c21 c22 c30 c31 c32 c40 c41 c42; obtain ⟨c00, c01, c02, c10, c11, c20, c21, c22, c30, c31, c32, c40, c41, c42⟩ := KS.out _ X.out; replace RB := hide (show IU wq vy na from RB.ints HANW.out); clear hb)
          | (go_at_call 19; refine (iIsCk_any _ nl nr np _ _ CX.out (Nat.le_refl _)).mono ?_; rintro e wq ⟨rfl, hb⟩; rw [HOK.out]; replace X := hide (X.out.up hb); replace CC := hide (CC.out.below hb); replace CX := hide (CX.out.below hb); replace CY := hide (CY.out.below hb); replace CZ := hide (CZ.out.below hb); replace SZ := hide (SZ.out.below hb); (try replace RI := hide (RI.out.below hb)); (try replace RB := hide (RB.out.below hb)); (try replace OX := hide (OX.out.below hb)); clear c00 c01 c02 c10 c11 c20 c21 c22 c30 c31 c32 c40 c41 c42; obtain ⟨c00, c01, c02, c10, c11, c20, c21, c22, c30, c31, c32, c40, c41, c42⟩ := KS.out _ X.out; clear hb)
          | (go_at_call 21; (with_reducible refine (HP1.out _ _ CX.out).mono ?_); rintro e wq ⟨vz, hx, rfl, OX, hb⟩; replace X := hide (X.out.up hb); replace CC := hide (CC.out.below hb); replace CX := hide (CX.out.below hb); replace CY := hide (CY.out.below hb); replace CZ := hide (CZ.out.below hb); replace SZ := hide (SZ.out.below hb); (try replace RI := hide (RI.out.below hb)); (try replace RB := hide (RB.out.below hb)); (try replace OX := hide (OX.out.below hb)); clear c00 c01 c02 c10 c11 c20 c21 c22 c30 c31 c32 c40 c41 c42; obtain ⟨c00, c01, c02, c10, c11, c20, c21, c22, c30, c31, c32, c40, c41, c42⟩ := KS.out _ X.out; replace OX := hide (show IU wq vz so from OX.ints HSOW.out); clear hb)
          | (go_at_call 21; (with_reducible refine (HP2.out _ _ CC.out).mono ?_); rintro e wq ⟨vc, hc, rfl, OP, hb⟩; replace X := hide (X.out.up hb); replace CC := hide (CC.out.below hb); replace CX := hide (CX.out.below hb); replace CY := hide (CY.out.below hb); replace CZ := hide (CZ.out.below hb); replace SZ := hide (SZ.out.below hb); (try replace RI := hide (RI.out.below hb)); (try replace RB := hide (RB.out.below hb)); (try replace OX := hide (OX.out.below hb)); clear c00 c01 c02 c10 c11 c20 c21 c22 c30 c31 c32 c40 c41 c42; obtain ⟨c00, c01, c02, c10, c11, c20, c21, c22, c30, c31, c32, c40, c41, c42⟩ := KS.out _ X.out; replace OP := hide (show IU wq vc so from OP.ints HSOW.out); clear hb)
          | (go_at_call 20; (first | with_reducible refine (same_iu so _ OX.out OP.out).mono ?_ | with_reducible refine (same_iu na _ SZ.out RI.out).mono ?_ | with_reducible refine (same_iu na _ RB.out SZ.out).mono ?_); rintro e wq ⟨rfl, hb⟩; replace X := hide (X.out.up hb); replace CC := hide (CC.out.below hb); replace CX := hide (CX.out.below hb); replace CY := hide (CY.out.below hb); replace CZ := hide (CZ.out.below hb); replace SZ := hide (SZ.out.below hb); (try replace RI := hide (RI.out.below hb)); (try replace RB := hide (RB.out.below hb)); (try replace OX := hide (OX.out.below hb)); clear c00 c01 c02 c10 c11 c20 c21 c22 c30 c31 c32 c40 c41 c42; obtain ⟨c00, c01, c02, c10, c11, c20, c21, c22, c30, c31, c32, c40, c41, c42⟩ := KS.out _ X.out; clear hb))
        all_goals go_wp2_with fail
        all_goals go_ret
        all_goals exact ⟨rfl, X.out.below⟩

end Go.Proofs.Ytkhhlifnbelckaa
