/- Several texts in one: Prs, CcM, CcW, DrG. -/
import Derived.Test.YtkhhlifnbelckaaCb
import Derived.BigQuiet
import Derived.Deep.RegionLaw
import Derived.Test.YtkhhlifnbelckaaCe
import Derived.Test.YtkhhlifnbelckaaCd
import Derived.Test.YtkhhlifnbelckaaCc
/- The laws' helpers over columns: pairsOf, sameInts, btoi (promises 3 and 4). -/
namespace Go.Proofs.Ytkhhlifnbelckaa
open Go.RowKit Go.ChangeShapes
set_option linter.unusedSimpArgs false
set_option linter.unusedVariables false
set_option maxRecDepth 100000

/-- append(s, i): i lies in a block of its own, in a region that draws its order. -/
theorem appI_wp (W : World) {o : Oper} {a : Act} {K : Act → World → Prop} {Q : Exit → Act → World → Prop} (s x : Operand)
    (ho : o.op = .call { callee := .builtin .append, args := #[s, x], argTypes := #[24, 24] })
    (base : Nat) (v : Value) (l : List Int) (hown : Is W base 3 v l) (hs : a.eval s = v) (i : Int) (c g : Nat)
    (hx : a.eval x = .slice (some ⟨g, 0, none⟩) 1 c) (hg : W.heap[g]? = some (.cells #[.int .i64 i] 3 (0, 0))) (hlen : l.length < 1099511627776) (hbase : base ≤ W.heap.size)
    (h : ∀ v' w', Is w' base 3 v' (l ++ [i]) → Below base W w' → K (a.put o.dst v') w') : o.wp Try.prog a W K Q := by
  obtain ⟨i0, hi0, hi1, hi2, hi3⟩ := info_parts infoI
  obtain ⟨v', w', hr, hown', hgrow, -, -⟩ := run_append_own_at (P := Try.prog) (w := W) base 24 o.type 3 i0 _ 1 8 Try.underlying24 hi0 hi1 hi2 hi3 rfl (by decide) v l.length (intVs l) hown ⟨g, 0, none⟩ 1 c [.int .i64 i] rfl
    (by intro k u hk
        rw [addr_add, cell_of_row W g (0 + k) _ _ (0, 0) hg, Nat.zero_add]
        simpa using hk)
    (by intro u hu; simp at hu; subst hu; rfl) (by unfold maxLen; omega) (by omega) hbase
  unfold Oper.wp execOp
  simp only [ho, resolve, invoke, builtin, Sem.run_bind, Sem.run_pure, Result.andThen_ok, List.map_toArray, List.map_cons, List.map_nil, hs, hx, hr]
  refine h v' w' ?_ ((Below.refl base W).grown hgrow hbase (fun k hk => (World.ownsRow.lt hown k hk).1))
  unfold Is
  rw [show intVs (l ++ [i]) = intVs l ++ [.int .i64 i] by simp [intVs], List.length_append]
  exact hown'

theorem appI_step {W : World} {ops : Array Oper} {o : Oper} {a : Act} {K : Act → World → Prop} {Q : Exit → Act → World → Prop} {E : Prop} (hgd : o.guard = none) (s x : Operand)
    (ho : o.op = .call { callee := .builtin .append, args := #[s, x], argTypes := #[24, 24] })
    (base : Nat) (v : Value) (l : List Int) (hown : Is W base 3 v l) (hs : a.eval s = v) (i : Int) (c g : Nat)
    (hx : a.eval x = .slice (some ⟨g, 0, none⟩) 1 c) (hg : W.heap[g]? = some (.cells #[.int .i64 i] 3 (0, 0))) (hlen : l.length < 1099511627776) (hbase : base ≤ W.heap.size)
    (h : ∀ v' w', Is w' base 3 v' (l ++ [i]) → Below base W w' → K (a.put o.dst v') w') :
    if Region.wanted o (yielded ops a.tmps) = true then Oper.wp Try.prog o a W K Q else E := by
  have hw : Region.wanted o (yielded ops a.tmps) = true := by simp [Region.wanted, hgd]
  rw [if_pos hw]
  exact appI_wp W s x ho base v l hown hs i c g hx hg hlen hbase h

/-- The pairs of values and rows, as numbers. -/
def prs (l r : List Int) : List Int := (l.zip r).map fun p => wrap64 (wrap64 (p.1 * 1000) + p.2)

theorem prs_perm {l r l' r' : List Int} (h : (l'.zip r').Perm (l.zip r)) : sortL (prs l' r') = sortL (prs l r) := sortL_of_perm (h.map _)

theorem wrap_i64 (x : Int) : I64 (wrap64 x) := by
  unfold I64 wrap64
  omega

theorem prs_wf (l r : List Int) : ∀ x ∈ prs l r, I64 x := by
  intro x hx
  obtain ⟨p, _, rfl⟩ := List.mem_map.1 hx
  exact wrap_i64 _

theorem prs_len (l r : List Int) : (prs l r).length = min l.length r.length := by simp [prs]

theorem prs_get (l r : List Int) (k : Nat) (h1 : k < l.length) (h2 : k < r.length) : (prs l r)[k]'(by rw [prs_len]; omega) = wrap64 (wrap64 (l[k] * 1000) + r[k]) := by simp [prs]

theorem Ints.at' {w : World} {B : Nat} {a : Option Addr} {n c : Nat} {l : List Int} (h : Ints w B (.slice a n c) l) (j : Nat) (hj : j < l.length) :
    ∃ b o, a = some ⟨b, o, none⟩ ∧ w.cell? ⟨b, o + j, none⟩ = some (.int .i64 (l.getD j 0)) := by
  obtain ⟨a', c', e1, -, -, h1⟩ := h
  injection e1 with e1 e2 e3
  subst e1
  obtain ⟨b, o, rfl, -, hc⟩ := h1 j hj
  exact ⟨b, o, rfl, by rw [hc]; simp [List.getD_eq_getElem?_getD, List.getElem?_eq_getElem hj]⟩

theorem btoi_any (b : Bool) (w : World) : Calls Try.prog 18 #[.bool b] w fun e w' => e = .returned (.int .i64 (if b = true then 1 else 0)) ∧ w = w' := by
  cases b
  · go_enter Try.func18, Try.ntmps18
    go_wp2
    go_ret
    exact ⟨rfl, rfl⟩
  · go_enter Try.func18, Try.ntmps18
    go_wp2
    go_ret
    exact ⟨rfl, rfl⟩

theorem same_any (v u : Value) (l : List Int) (w : World) (B : Nat) (hv : Ints w B v l) (hu : Ints w B u l) : Calls Try.prog 20 #[v, u] w (RetB1 w true) := by
  obtain ⟨a, c, rfl, hlen, -, hc⟩ := hv
  obtain ⟨a', c', rfl, -, -, hc'⟩ := hu
  have HC := hide hc
  have HC' := hide hc'
  clear hc hc'
  have h1 : (((l.length : Nat) : Int) != ((l.length : Nat) : Int)) = false := by simp
  go_enter Try.func20, Try.ntmps20
  go_wp2_with fail
  go_loopw [5] (fun i wr => ∃ (k q : Nat), k ≤ l.length ∧ i = .int .i64 k ∧ wr = w.drewN q) (fun i _ => l.length - (intOf i).toNat)
  case atStart => exact ⟨0, 0, by omega, rfl, rfl⟩
  case round =>
    obtain ⟨k, q, hk, rfl, rfl⟩ := hrel
    by_cases hlt : k < l.length
    · obtain ⟨b, o, rfl, -, h2⟩ := HC.out k hlt
      obtain ⟨b', o', rfl, -, h3⟩ := HC'.out k hlt
      obtain ⟨x, hx⟩ : ∃ x, x = l[k] := ⟨_, rfl⟩
      rw [← hx] at h2 h3
      have h4 : (x != x) = false := by simp
      clear hx
      go_wp2_with fail
      go_quiet (fail)
      go_wp2_with fail
      go_roundw
      case rel => exact ⟨k + 1, q + nq, by omega, by go_num, rfl⟩
      case measure => simp [intOf]; omega
    · have hke : k = l.length := by omega
      subst hke
      go_wp2_with fail
      go_ret
      exact ⟨rfl, below_drewN (Below.refl _ _) _⟩

set_option maxHeartbeats 4000000 in
theorem pairs_any (v : Value) (l r : List Int) (ps : List Pv) (w : World) (B : Nat) (hv : Ck w B v l r ps) (hB : B ≤ w.heap.size) (hl : l.length ≤ 1048576) :
    Calls Try.prog 21 #[v] w (RetOw w (sortL (prs l r))) := by
  obtain ⟨a1, c1, a2, c2, a3, c3, rfl, i1, i2, -⟩ := hv.form
  have X := hide (Kn.one w #[.slice a1 l.length c1, .slice a2 r.length c2, .slice a3 ps.length c3] 27)
  obtain ⟨w1, hw1⟩ : ∃ w1, w1 = w.alloc (.cells #[.slice a1 l.length c1, .slice a2 r.length c2, .slice a3 ps.length c3] 27) := ⟨_, rfl⟩
  rw [← hw1] at X
  have hz := hide (show w1.heap.size = w.heap.size + 1 by rw [hw1]; simp)
  have H1 := hide (fun (W : World) (h : Below w.heap.size w W) => i1.below h hB)
  have H2 := hide (fun (W : World) (h : Below w.heap.size w W) => i2.below h hB)
  clear i1 i2 hv
  have HS := hide (fun (W : World) (v : Value) (lo : Nat) (h : Is W lo 3 v (prs l r)) => show Calls Try.prog 73 #[v] W (RetOw W (sortL (prs l r))) by
    obtain ⟨a', c', rfl⟩ := h.form
    have hlen : (prs l r).length ≤ 1048576 := by rw [prs_len]; omega
    refine sSort_any a' c' _ W W.heap.size (h.ints (Nat.le_refl _) (by omega) (prs_wf l r)) ?_ (Nat.le_refl _) hlen
    intro ha
    subst ha
    rcases h.2 with ⟨e, _⟩ | ⟨g, cap, cur, e, _⟩
    · injection e
    · injection e with e1; cases e1)
  go_enter Try.func21, Try.ntmps21
  go_wp2_with fail
  rw [← hw1]
  clear hw1
  have O := hide (Is.made w1 w1.heap.size 3 (Nat.le_refl _))
  have HB := hide ((Below.refl w1.heap.size w1).alloc (Nat.le_refl _) (.cells #[] 3))
  have hlr := hide (show ∀ k, k < l.length → k < r.length → (prs l r).take (k + 1) = (prs l r).take k ++ [wrap64 (wrap64 (l.getD k 0 * 1000) + r.getD k 0)] from fun k h1 h2 => by
    rw [List.take_succ_eq_append_getElem (by rw [prs_len]; omega), prs_get l r k h1 h2]
    simp [List.getD_eq_getElem?_getD, List.getElem?_eq_getElem h1, List.getElem?_eq_getElem h2])
  have hend := hide (show ∀ k, k ≤ l.length → k ≤ r.length → ¬ (k < l.length ∧ k < r.length) → (prs l r).take k = prs l r from fun k h1 h2 h3 => List.take_of_length_le (by rw [prs_len]; omega))
  go_loopw [3, 4] (fun u i wr => ∃ (k : Nat) (ua : Option Addr) (uc : Nat), k ≤ l.length ∧ k ≤ r.length ∧ i = .int .i64 k ∧ u = .slice ua k uc ∧ Hid (Is wr w1.heap.size 3 u ((prs l r).take k)) ∧ Hid (Below w1.heap.size w1 wr)) (fun _ i _ => l.length - (intOf i).toNat)
  case atStart => exact ⟨0, _, _, by omega, by omega, rfl, rfl, by show Is _ _ _ _ _; simp only [List.take_zero]; rw [← hz.out]; exact O.out, HB.out⟩
  case round =>
    obtain ⟨k, ua, uc, hk1, hk2, rfl, rfl, O, HB⟩ := hrel
    have XX := hide (X.out.up HB.out)
    have c0 : wr.cell? ⟨w.heap.size, 0, none⟩ = some (.slice a1 l.length c1) := XX.out.cell 0 0 rfl rfl
    have c1' : wr.cell? ⟨w.heap.size, 1, none⟩ = some (.slice a2 r.length c2) := XX.out.cell 0 1 rfl rfl
    by_cases hlt : k < l.length ∧ k < r.length
    · obtain ⟨h1, h2⟩ := hlt
      obtain ⟨b, o, hab, e1⟩ := (H1.out wr XX.out.below).at' k h1
      obtain ⟨b', o', hab', e2⟩ := (H2.out wr XX.out.below).at' k h2
      subst hab hab'
      have hst := hide (hlr.out k h1 h2)
      obtain ⟨x, hx⟩ : ∃ x, x = l.getD k 0 := ⟨_, rfl⟩
      obtain ⟨y, hy⟩ : ∃ y, y = r.getD k 0 := ⟨_, rfl⟩
      rw [← hx] at e1 hst
      rw [← hy] at e2 hst
      have hsz := hide HB.out.size
      have HOf := hide (fun (W : World) (h : Below wr.heap.size wr W) => O.out.below h)
      have HLN := hide (show ((prs l r).take k).length = k by rw [List.length_take, prs_len]; omega)
      have HLN2 := hide (show ((prs l r).take (k + 1)).length = k + 1 by rw [List.length_take, prs_len]; omega)
      have HBf := hide (fun (W : World) (h : Below wr.heap.size wr W) => HB.out.trans (h.mono hsz.out))
      have hnw : (wr.alloc (.cells #[.int .i64 (IntKind.i64.wrap (IntKind.i64.wrap (x * 1000) + y))] 3)).heap[wr.heap.size]? = some (.cells #[.int .i64 (wrap64 (wrap64 (x * 1000) + y))] 3 (0, 0)) := by
        rw [heap_alloc_new, IntWalk.i64_left, IntWalk.i64_left]
      clear hx hy
      go_wp2_with fail
      go_region_law (refine appI_step rfl _ _ rfl w1.heap.size (.slice ua k uc) _ (HOf.out _ (by first | exact (below1 _ _).drew | exact (Below.refl _ _).drew.alloc (Nat.le_refl _) _ | exact below1 _ _)) (by simp [Act.eval, Act.put]) (wrap64 (wrap64 (x * 1000) + y)) 1 wr.heap.size (by simp [Act.eval, Act.put]) (by first | exact heap_alloc_new _ _ | exact hnw) (by have := HLN.out; omega) (by have := hsz.out; simp; omega) ?_; intro v5 w5' hown hb; rw [← hst.out] at hown; obtain ⟨ub, uc', rfl⟩ := hown.form; rw [HLN2.out] at hown ⊢; have OO := hide hown; have BB := hide ((HBf.out _ (by first | exact (below1 _ _).drew | exact (Below.refl _ _).drew.alloc (Nat.le_refl _) _ | exact below1 _ _)).trans hb))
      all_goals go_wp2_with fail
      all_goals exact ⟨⟨k + 1, _, _, by omega, by omega, by go_num, rfl, OO.out, BB.out⟩, by simp [intOf]; omega⟩
    · have hf := hide (hend.out k hk1 hk2 hlt)
      rw [hf.out] at O
      have HW := hide (XX.out.below)
      have HF := hide (HS.out _ _ _ O.out)
      clear O HB X
      by_cases h1 : k < l.length
      · have t2 : decide (k < r.length) = false := by simp; omega
        clear hlt
        go_wp2_with fail
        go_at_call 73
        refine HF.out.mono ?_
        rintro e w6 ⟨v, hi, rfl, O, hb⟩
        go_wp2_with fail
        go_ret
        exact ⟨_, _, rfl, O.wide HW.out.size, HW.out.trans (hb.mono HW.out.size)⟩
      · have t1 : decide (k < l.length) = false := by simp; omega
        clear hlt
        go_wp2_with fail
        go_at_call 73
        refine HF.out.mono ?_
        rintro e w6 ⟨v, hi, rfl, O, hb⟩
        go_wp2_with fail
        go_ret
        exact ⟨_, _, rfl, O.wide HW.out.size, HW.out.trans (hb.mono HW.out.size)⟩

end Go.Proofs.Ytkhhlifnbelckaa

/- FnCracks in numbers (promise 3): cracking divides one piece at a value, leaves all others as they are, and once more does nothing. -/
namespace Go.Proofs.Ytkhhlifnbelckaa
open Go.RowKit Go.ChangeShapes
set_option linter.unusedSimpArgs false
set_option linter.unusedVariables false
set_option maxRecDepth 100000

theorem lo_found {v : Int} : ∀ (ps : List Pv) (a : Int), Asc ps → (fndP ps v).2 = true → loP ps v a = (fndP ps v).1
  | [], a, _, h => by simp [fndP] at h
  | p :: ps, a, hs, h => by
    obtain ⟨s1, s2⟩ := hs.cons
    rw [fndP] at h ⊢
    rw [loP]
    by_cases hp : p.1 = v
    · rw [if_pos hp, if_pos (by omega)]
      exact loP_above v ps p.2 (fun q hq => by have := s1 q hq; omega)
    · rw [if_neg hp] at h ⊢
      exact lo_found ps _ s2 h

theorem hi_found {v n : Int} : ∀ (ps : List Pv), Asc ps → (fndP ps v).2 = true → hiP ps v n = (fndP ps v).1
  | [], _, h => by simp [fndP] at h
  | p :: ps, hs, h => by
    obtain ⟨s1, s2⟩ := hs.cons
    rw [fndP] at h ⊢
    rw [hiP]
    by_cases hp : p.1 = v
    · rw [if_pos hp, if_pos (by omega)]
    · rw [if_neg hp] at h ⊢
      have hm : v ≠ p.1 := fun e => hp e.symm
      have hlt : p.1 < v := by
        obtain ⟨q, hq⟩ : ∃ q ∈ ps, q.1 = v := by
          clear s1 s2 hs hp hm
          induction ps with
          | nil => simp [fndP] at h
          | cons q ps ih =>
            rw [fndP] at h
            by_cases hq : q.1 = v
            · exact ⟨q, by simp, hq⟩
            · rw [if_neg hq] at h
              obtain ⟨x, hx, e⟩ := ih h
              exact ⟨x, by simp [hx], e⟩
        have := s1 q hq.1
        have := hq.2
        omega
      rw [if_neg (by omega)]
      exact hi_found ps s2 h

/-- What FnCracks says of a valid column and a bound. -/
structure CrSays (l r : List Int) (ps : List Pv) (v : Int) : Prop where
  found : (fndP (crP l r ps v) v).2 = true
  lo : (pieceP l r ps v).1 ≤ (fndP (crP l r ps v) v).1
  hi : (fndP (crP l r ps v) v).1 ≤ (pieceP l r ps v).2
  len : (crP l r ps v).length = ps.length + (if (fndP ps v).2 = true then 0 else 1)
  ok : isCk (crL l r ps v) (crR l r ps v) (crP l r ps v) = true
  out : ∀ k : Nat, (k : Int) < (pieceP l r ps v).1 ∨ (pieceP l r ps v).2 ≤ (k : Int) → (crL l r ps v).getD k 0 = l.getD k 0 ∧ (crR l r ps v).getD k 0 = r.getD k 0
  againOk : crOk (crL l r ps v) (crR l r ps v) (crP l r ps v) v = true
  again : crL (crL l r ps v) (crR l r ps v) (crP l r ps v) v = crL l r ps v ∧ crR (crL l r ps v) (crR l r ps v) (crP l r ps v) v = crR l r ps v ∧ crP (crL l r ps v) (crR l r ps v) (crP l r ps v) v = crP l r ps v ∧ crS (crL l r ps v) (crR l r ps v) (crP l r ps v) v = []
  pairs : ((crL l r ps v).zip (crR l r ps v)).Perm (l.zip r)

theorem cr_says {l r : List Int} {ps : List Pv} {v : Int} (h : crOk l r ps v = true) : CrSays l r ps v := by
  have h0 := h
  unfold crOk at h
  simp only [Bool.and_eq_true, decide_eq_true_eq] at h
  obtain ⟨hc, hv⟩ := h
  have hpc : pieceP l r ps v = (loP ps v 0, hiP ps v l.length) := by unfold pieceP; rw [if_pos ⟨hc, hv⟩]
  have hasc := (pvsOk_asc.1 (isCk_parts hc).2.2.2).1
  have hck := crack_isCk (v := v) hc
  have hag := crack_none (crack_again h0)
  by_cases hd : crDiv l r ps v = true
  · obtain ⟨a, b, t, d, e, -⟩ := crack_eqs hd
    have hn : (fndP ps v).2 = false := by
      unfold crDiv at hd
      simp only [Bool.and_eq_true, Bool.not_eq_true'] at hd
      exact hd.2
    have hf : fndP (crP l r ps v) v = ((t : Int), true) := by rw [e]; exact fnd_ins' (p := (v, (t : Int))) hn
    have hle := d.le
    refine ⟨by rw [hf], by rw [hf, d.lo]; simp; omega, by rw [hf, d.hi]; simp; omega, by rw [e, adIn_length, hn]; simp, hck, fun k hk => ?_, crOk_of hck hv.1 hv.2, hag, crack_zip l r ps v⟩
    rw [d.lo, d.hi] at hk
    exact d.out k (by omega)
  · obtain ⟨e1, e2, e3, -⟩ := crack_none hd
    have hf : (fndP ps v).2 = true := by
      unfold crDiv at hd
      rw [h0] at hd
      simpa using hd
    refine ⟨by rw [e3]; exact hf, by rw [e3, hpc, lo_found ps 0 hasc hf]; exact Int.le_refl _, by rw [e3, hpc, hi_found ps hasc hf]; exact Int.le_refl _, by rw [e3, hf]; simp, hck, fun k _ => by rw [e1, e2]; exact ⟨rfl, rfl⟩, crOk_of hck hv.1 hv.2, hag, crack_zip l r ps v⟩

end Go.Proofs.Ytkhhlifnbelckaa

/- FnCracks (promise 3): the law's walk, its drawing as a premise. Written by gen_cc.py. -/
namespace Go.Proofs.Ytkhhlifnbelckaa
open Go.RowKit Go.ChangeShapes
set_option linter.unusedSimpArgs false
set_option linter.unusedVariables false
set_option maxRecDepth 100000

/-- A drawn column, to be read, and a small number. -/
def DrCk (w : World) (e : Ending) (w' : World) : Prop := ∃ (a1 a2 a3 : Option Addr) (c1 c2 c3 : Nat) (l r : List Int) (ps : List Pv) (v : Int),
  e = .returned (.tuple #[.agg #[.slice a1 l.length c1, .slice a2 r.length c2, .slice a3 ps.length c3], .int .i64 v]) ∧ CU w' (.agg #[.slice a1 l.length c1, .slice a2 r.length c2, .slice a3 ps.length c3]) l r ps ∧ Wf l r ps 100 ∧ I64 v ∧ Below w.heap.size w w'

set_option maxHeartbeats 20000000 in
theorem cracks_walk (w : World) (v0 : Value) (w0 : CodeV w v0) (HD : ∀ (a : Option Addr) (len cap : Nat) (W : World), CodeAt W a len cap → len ≤ 1048576 → Calls Try.prog 12 #[.slice a len cap] W (DrCk W)) :
    Calls Try.prog 3 #[v0] w fun e w' => e = .returned (.bool true) ∧ Below w.heap.size w w' := by
  obtain ⟨ca, clen, ccap, rfl, hcode⟩ := w0
  by_cases hbig : ¬ clen ≤ 1048576
  · go_enter Try.func3, Try.ntmps3
    go_wp2_with fail
    go_at_call 11
    refine (bigY ca clen ccap w (by omega)).mono ?_
    rintro e wq ⟨rfl, rfl⟩
    go_wp2_with fail
    go_ret
    exact ⟨rfl, Below.refl _ _⟩
  · skip
    have X := hide (Kn.start w)
    have HBG := hide (bigN ca clen ccap w (by omega))
    have HDR := hide (HD ca clen ccap w hcode (by omega))
    clear hcode hbig HD
    go_enter Try.func3, Try.ntmps3
    go_wp2_with fail
    go_at_call 11
    refine HBG.out.mono ?_
    rintro e wq ⟨rfl, rfl⟩
    go_wp2_with fail
    go_at_call 12
    refine HDR.out.mono ?_
    rintro e w1 ⟨a1, a2, a3, c1, c2, c3, l, r, ps, v, rfl, hcu, hwf, hvi, hb⟩
    have X := hide (X.out.up hb)
    have CC := hide hcu
    clear hb hcu HBG HDR
    have HI := hide (fun (W : World) (u : Value) (h : CU W u l r ps) => iCrack_any u l r ps v W W.heap.size h (Nat.le_refl _) hwf.1 hwf.2.1 (by have := hwf.2.2.1; omega) hvi)
    have HS := hide (fun (W : World) (u : Value) (h : CU W u l r ps) => sCrack_any u l r ps v W W.heap.size h (Nat.le_refl _) hwf.1 hwf.2.1 (by have := hwf.2.2.1; omega) hvi)
    have HPC := hide (fun (W : World) (u : Value) (h : CU W u l r ps) => iPieceOf_any u l r ps v W W.heap.size h (Nat.le_refl _))
    have HF0 := hide (fun (W : World) (u : Value) (h : CU W u l r ps) => iFindP_any u l r ps v W W.heap.size h (Nat.le_refl _))
    obtain ⟨wf2, sl, sw⟩ := crack_Wf hwf (by omega) hvi
    have hsay := fun h => cr_says (l := l) (r := r) (ps := ps) (v := v) h
    have hno := fun (h : ¬ crOk l r ps v = true) => crack_none (l := l) (r := r) (ps := ps) (v := v) (fun hd => h (by unfold crDiv at hd; simp only [Bool.and_eq_true] at hd; exact hd.1))
    have HG := hide (fun (W : World) (u : Value) (h : CU W u (crL l r ps v) (crR l r ps v) (crP l r ps v)) => iCrack_any u _ _ _ v W W.heap.size h (Nat.le_refl _) wf2.1 wf2.2.1 (by have := wf2.2.2.1; omega) hvi)
    have HF1 := hide (fun (W : World) (u : Value) (h : CU W u (crL l r ps v) (crR l r ps v) (crP l r ps v)) => iFindP_any u _ _ _ v W W.heap.size h (Nat.le_refl _))
    have KX := hide (fun (W : World) (x y z : Value) (lo hi p1 q1 p2 q2 p3 q3 : Nat) (h : OC W x y z (crL l r ps v) (crR l r ps v) (crP l r ps v) lo hi p1 q1 p2 q2 p3 q3) => (show CU W _ (crL l r ps v) (crR l r ps v) (crP l r ps v) from h.ck wf2.2.2.2.1 wf2.2.2.2.2.1 (by have := wf2.2.2.1; omega) wf2.2.2.2.2.2))
    have HSAY := hide hsay
    have HNO := hide hno
    have HRL := hide (show ∀ (h : crOk l r ps v = true), r.length = l.length from fun h => by unfold crOk at h; simp only [Bool.and_eq_true] at h; exact (isCk_parts h.1).2.1)
    have HRR := hide (show (crR l r ps v).length = r.length by unfold crR; split; exact apR_length _ _ _; rfl)
    have hll : l.length ≤ 1048576 := hwf.1
    have hpl : ps.length ≤ 100 := hwf.2.2.1
    have HLL := hide (show (crL l r ps v).length = l.length by unfold crL; split; exact apL_length _ _ _; rfl)
    clear hsay hno wf2 hwf hvi
    obtain ⟨nl, hnl⟩ : ∃ q, q = crL l r ps v := ⟨_, rfl⟩
    obtain ⟨nr, hnr⟩ : ∃ q, q = crR l r ps v := ⟨_, rfl⟩
    obtain ⟨np, hnp⟩ : ∃ q, q = crP l r ps v := ⟨_, rfl⟩
    obtain ⟨ns, hns⟩ : ∃ q, q = crS l r ps v := ⟨_, rfl⟩
    obtain ⟨t, ht⟩ : ∃ q, q = crOk l r ps v := ⟨_, rfl⟩
    rw [← hnl, ← hnr, ← hnp, ← hns, ← ht] at HI HS
    rw [← hnl, ← hnr, ← hnp] at HG HF1 KX
    rw [← hns] at sl sw
    have HNL := hide hnl
    have HNR := hide hnr
    have HNP := hide hnp
    have HNS := hide hns
    have HT := hide ht
    clear hnl hnr hnp hns ht
    have SW := hide sw
    clear sw
    have hl1 : (((ns.length : Nat) : Int) != ((ns.length : Nat) : Int)) = false := by simp
    have hl2 : (t != t) = false := by simp
    have HE := hide (show eqC nl nr np nl nr np = true by simp [eqC])
    have hbl := below1 w1 (.cells #[.slice a1 l.length c1, .slice a2 r.length c2, .slice a3 ps.length c3] 27)
    have X := hide (X.out.alloc #[.slice a1 l.length c1, .slice a2 r.length c2, .slice a3 ps.length c3] 27)
    have CC := hide (CC.out.below hbl)
    clear hbl
    obtain ⟨w2, hw2⟩ : ∃ q, q = w1.alloc (.cells #[.slice a1 l.length c1, .slice a2 r.length c2, .slice a3 ps.length c3] 27) := ⟨_, rfl⟩
    obtain ⟨b0, hb0⟩ : ∃ q, q = w1.heap.size := ⟨_, rfl⟩
    have N0 := hide (show b0 = w1.heap.size ∧ w2.heap.size = w1.heap.size + 1 by rw [hw2, hb0]; simp)
    rw [← hw2] at X CC
    rw [← hb0] at X
    simp only [List.cons_append, List.nil_append] at X
    have c00 : w2.cell? ⟨b0, 0, none⟩ = some (.slice a1 l.length c1) := X.out.cell 0 0 rfl rfl
    have c01 : w2.cell? ⟨b0, 1, none⟩ = some (.slice a2 r.length c2) := X.out.cell 0 1 rfl rfl
    have c02 : w2.cell? ⟨b0, 2, none⟩ = some (.slice a3 ps.length c3) := X.out.cell 0 2 rfl rfl
    rw [hw2] at c00 c01 c02
    go_wp2_with fail
    rw [← hw2]
    try rw [← hb0]
    clear hw2 hb0
    clear c00 c01 c02
    go_at_call 13
    refine (HI.out _ _ CC.out).mono ?_
    rintro e w3 ⟨x, y, z, svX, loX, hiX, pX1, qX1, pX2, qX2, pX3, qX3, sloX, shiX, rfl, hlo, hhi, CX, SX, hss, hb⟩
    obtain ⟨gX1, kX1, rfl⟩ := CX.x.form
    obtain ⟨gX2, kX2, rfl⟩ := CX.y.form
    obtain ⟨gX3, kX3, rfl⟩ := CX.z.own.form
    obtain ⟨sgX, skX, rfl⟩ := SX.own.form
    have CX := hide (KX.out _ _ _ _ _ _ _ _ _ _ _ _ CX)
    clear hlo hhi hss SX
    have X := hide (X.out.up hb)
    have CC := hide (CC.out.below hb)
    have N1 := hide hb.size
    clear hb
    have hbl := below1 w3 (.cells #[.slice gX1 nl.length kX1, .slice gX2 nr.length kX2, .slice gX3 np.length kX3] 27)
    have X := hide (X.out.alloc #[.slice gX1 nl.length kX1, .slice gX2 nr.length kX2, .slice gX3 np.length kX3] 27)
    have CC := hide (CC.out.below hbl)
    have CX := hide (CX.out.below hbl)
    clear hbl
    obtain ⟨w4, hw4⟩ : ∃ q, q = w3.alloc (.cells #[.slice gX1 nl.length kX1, .slice gX2 nr.length kX2, .slice gX3 np.length kX3] 27) := ⟨_, rfl⟩
    obtain ⟨b1, hb1⟩ : ∃ q, q = w3.heap.size := ⟨_, rfl⟩
    have N2 := hide (show b1 = w3.heap.size ∧ w4.heap.size = w3.heap.size + 1 by rw [hw4, hb1]; simp)
    rw [← hw4] at X CC CX
    rw [← hb1] at X
    simp only [List.cons_append, List.nil_append] at X
    have c00 : w4.cell? ⟨b0, 0, none⟩ = some (.slice a1 l.length c1) := X.out.cell 0 0 rfl rfl
    have c01 : w4.cell? ⟨b0, 1, none⟩ = some (.slice a2 r.length c2) := X.out.cell 0 1 rfl rfl
    have c02 : w4.cell? ⟨b0, 2, none⟩ = some (.slice a3 ps.length c3) := X.out.cell 0 2 rfl rfl
    have c10 : w4.cell? ⟨b1, 0, none⟩ = some (.slice gX1 nl.length kX1) := X.out.cell 1 0 rfl rfl
    have c11 : w4.cell? ⟨b1, 1, none⟩ = some (.slice gX2 nr.length kX2) := X.out.cell 1 1 rfl rfl
    have c12 : w4.cell? ⟨b1, 2, none⟩ = some (.slice gX3 np.length kX3) := X.out.cell 1 2 rfl rfl
    rw [hw4] at c00 c01 c02 c10 c11 c12
    go_wp2_with fail
    rw [← hw4]
    try rw [← hb1]
    clear hw4 hb1
    clear c00 c01 c02 c10 c11 c12
    go_at_call 14
    refine (HS.out _ _ CC.out).mono ?_
    rintro e w5 ⟨x, y, z, svY, loY, hiY, pY1, qY1, pY2, qY2, pY3, qY3, sloY, shiY, rfl, hlo, hhi, CY, SY, hss, hb⟩
    obtain ⟨gY1, kY1, rfl⟩ := CY.x.form
    obtain ⟨gY2, kY2, rfl⟩ := CY.y.form
    obtain ⟨gY3, kY3, rfl⟩ := CY.z.own.form
    obtain ⟨sgY, skY, rfl⟩ := SY.own.form
    have CY := hide (KX.out _ _ _ _ _ _ _ _ _ _ _ _ CY)
    clear hlo hhi hss SY
    have X := hide (X.out.up hb)
    have CC := hide (CC.out.below hb)
    have CX := hide (CX.out.below hb)
    have N3 := hide hb.size
    clear hb
    have hbl := below1 w5 (.cells #[.slice gY1 nl.length kY1, .slice gY2 nr.length kY2, .slice gY3 np.length kY3] 27)
    have X := hide (X.out.alloc #[.slice gY1 nl.length kY1, .slice gY2 nr.length kY2, .slice gY3 np.length kY3] 27)
    have CC := hide (CC.out.below hbl)
    have CX := hide (CX.out.below hbl)
    have CY := hide (CY.out.below hbl)
    clear hbl
    obtain ⟨w6, hw6⟩ : ∃ q, q = w5.alloc (.cells #[.slice gY1 nl.length kY1, .slice gY2 nr.length kY2, .slice gY3 np.length kY3] 27) := ⟨_, rfl⟩
    obtain ⟨b2, hb2⟩ : ∃ q, q = w5.heap.size := ⟨_, rfl⟩
    have N4 := hide (show b2 = w5.heap.size ∧ w6.heap.size = w5.heap.size + 1 by rw [hw6, hb2]; simp)
    rw [← hw6] at X CC CX CY
    rw [← hb2] at X
    simp only [List.cons_append, List.nil_append] at X
    have c00 : w6.cell? ⟨b0, 0, none⟩ = some (.slice a1 l.length c1) := X.out.cell 0 0 rfl rfl
    have c01 : w6.cell? ⟨b0, 1, none⟩ = some (.slice a2 r.length c2) := X.out.cell 0 1 rfl rfl
    have c02 : w6.cell? ⟨b0, 2, none⟩ = some (.slice a3 ps.length c3) := X.out.cell 0 2 rfl rfl
    have c10 : w6.cell? ⟨b1, 0, none⟩ = some (.slice gX1 nl.length kX1) := X.out.cell 1 0 rfl rfl
    have c11 : w6.cell? ⟨b1, 1, none⟩ = some (.slice gX2 nr.length kX2) := X.out.cell 1 1 rfl rfl
    have c12 : w6.cell? ⟨b1, 2, none⟩ = some (.slice gX3 np.length kX3) := X.out.cell 1 2 rfl rfl
    have c20 : w6.cell? ⟨b2, 0, none⟩ = some (.slice gY1 nl.length kY1) := X.out.cell 2 0 rfl rfl
    have c21 : w6.cell? ⟨b2, 1, none⟩ = some (.slice gY2 nr.length kY2) := X.out.cell 2 1 rfl rfl
    have c22 : w6.cell? ⟨b2, 2, none⟩ = some (.slice gY3 np.length kY3) := X.out.cell 2 2 rfl rfl
    rw [hw6] at c00 c01 c02 c10 c11 c12 c20 c21 c22
    go_wp2_with fail
    rw [← hw6]
    try rw [← hb2]
    clear hw6 hb2
    clear c00 c01 c02 c10 c11 c12 c20 c21 c22
    go_at_call 15
    refine (sEqCk_any _ _ nl nr nl nr np np _ _ CX.out CY.out (Nat.le_refl _)).mono ?_
    rintro e w7 ⟨rfl, hb⟩
    rw [HE.out]
    have X := hide (X.out.up hb)
    have CC := hide (CC.out.below hb)
    have CX := hide (CX.out.below hb)
    have CY := hide (CY.out.below hb)
    have N5 := hide hb.size
    clear hb
    cases t with
    | false =>
      have hn := HNO.out (by rw [← HT.out]; simp)
      rw [← HNL.out, ← HNR.out, ← HNP.out, ← HNS.out] at hn
      have HE2 := hide (show eqC nl nr np l r ps = true by rw [hn.1, hn.2.1, hn.2.2.1]; simp [eqC])
      have hns := hn.2.2.2
      subst hns
      clear hn hl1 hl2
      have c00 : w7.cell? ⟨b0, 0, none⟩ = some (.slice a1 l.length c1) := X.out.cell 0 0 rfl rfl
      have c01 : w7.cell? ⟨b0, 1, none⟩ = some (.slice a2 r.length c2) := X.out.cell 0 1 rfl rfl
      have c02 : w7.cell? ⟨b0, 2, none⟩ = some (.slice a3 ps.length c3) := X.out.cell 0 2 rfl rfl
      have c10 : w7.cell? ⟨b1, 0, none⟩ = some (.slice gX1 nl.length kX1) := X.out.cell 1 0 rfl rfl
      have c11 : w7.cell? ⟨b1, 1, none⟩ = some (.slice gX2 nr.length kX2) := X.out.cell 1 1 rfl rfl
      have c12 : w7.cell? ⟨b1, 2, none⟩ = some (.slice gX3 np.length kX3) := X.out.cell 1 2 rfl rfl
      have c20 : w7.cell? ⟨b2, 0, none⟩ = some (.slice gY1 nl.length kY1) := X.out.cell 2 0 rfl rfl
      have c21 : w7.cell? ⟨b2, 1, none⟩ = some (.slice gY2 nr.length kY2) := X.out.cell 2 1 rfl rfl
      have c22 : w7.cell? ⟨b2, 2, none⟩ = some (.slice gY3 np.length kY3) := X.out.cell 2 2 rfl rfl
      go_wp2_with fail
      clear c00 c01 c02 c10 c11 c12 c20 c21 c22
      go_at_call 15
      refine (sEqCk_any _ _ nl nr l r np ps _ _ CX.out CC.out (Nat.le_refl _)).mono ?_
      rintro e w8 ⟨rfl, hb⟩
      rw [HE2.out]
      have X := hide (X.out.up hb)
      have CC := hide (CC.out.below hb)
      have CX := hide (CX.out.below hb)
      have CY := hide (CY.out.below hb)
      have N6 := hide hb.size
      clear hb
      have c00 : w8.cell? ⟨b0, 0, none⟩ = some (.slice a1 l.length c1) := X.out.cell 0 0 rfl rfl
      have c01 : w8.cell? ⟨b0, 1, none⟩ = some (.slice a2 r.length c2) := X.out.cell 0 1 rfl rfl
      have c02 : w8.cell? ⟨b0, 2, none⟩ = some (.slice a3 ps.length c3) := X.out.cell 0 2 rfl rfl
      have c10 : w8.cell? ⟨b1, 0, none⟩ = some (.slice gX1 nl.length kX1) := X.out.cell 1 0 rfl rfl
      have c11 : w8.cell? ⟨b1, 1, none⟩ = some (.slice gX2 nr.length kX2) := X.out.cell 1 1 rfl rfl
      have c12 : w8.cell? ⟨b1, 2, none⟩ = some (.slice gX3 np.length kX3) := X.out.cell 1 2 rfl rfl
      have c20 : w8.cell? ⟨b2, 0, none⟩ = some (.slice gY1 nl.length kY1) := X.out.cell 2 0 rfl rfl
      have c21 : w8.cell? ⟨b2, 1, none⟩ = some (.slice gY2 nr.length kY2) := X.out.cell 2 1 rfl rfl
      have c22 : w8.cell? ⟨b2, 2, none⟩ = some (.slice gY3 np.length kY3) := X.out.cell 2 2 rfl rfl
      go_wp2_with fail
      clear c00 c01 c02 c10 c11 c12 c20 c21 c22
      go_ret
      exact ⟨rfl, X.out.below⟩
    | true =>
      have hs := HSAY.out (by rw [← HT.out])
      have HSY := hide hs
      clear hs
      obtain ⟨pq, hpq⟩ : ∃ q, q = pieceP l r ps v := ⟨_, rfl⟩
      rw [← hpq] at HPC
      have HPQ := hide hpq
      clear hpq
      obtain ⟨pa, pb⟩ := pq
      try simp only at HPC
      have c00 : w7.cell? ⟨b0, 0, none⟩ = some (.slice a1 l.length c1) := X.out.cell 0 0 rfl rfl
      have c01 : w7.cell? ⟨b0, 1, none⟩ = some (.slice a2 r.length c2) := X.out.cell 0 1 rfl rfl
      have c02 : w7.cell? ⟨b0, 2, none⟩ = some (.slice a3 ps.length c3) := X.out.cell 0 2 rfl rfl
      have c10 : w7.cell? ⟨b1, 0, none⟩ = some (.slice gX1 nl.length kX1) := X.out.cell 1 0 rfl rfl
      have c11 : w7.cell? ⟨b1, 1, none⟩ = some (.slice gX2 nr.length kX2) := X.out.cell 1 1 rfl rfl
      have c12 : w7.cell? ⟨b1, 2, none⟩ = some (.slice gX3 np.length kX3) := X.out.cell 1 2 rfl rfl
      have c20 : w7.cell? ⟨b2, 0, none⟩ = some (.slice gY1 nl.length kY1) := X.out.cell 2 0 rfl rfl
      have c21 : w7.cell? ⟨b2, 1, none⟩ = some (.slice gY2 nr.length kY2) := X.out.cell 2 1 rfl rfl
      have c22 : w7.cell? ⟨b2, 2, none⟩ = some (.slice gY3 np.length kY3) := X.out.cell 2 2 rfl rfl
      go_wp2_with fail
      clear c00 c01 c02 c10 c11 c12 c20 c21 c22
      go_at_call 16
      refine (HPC.out _ _ CC.out).mono ?_
      rintro e w9 ⟨rfl, hb⟩
      have X := hide (X.out.up hb)
      have CC := hide (CC.out.below hb)
      have CX := hide (CX.out.below hb)
      have CY := hide (CY.out.below hb)
      have N6 := hide hb.size
      clear hb
      have c00 : w9.cell? ⟨b0, 0, none⟩ = some (.slice a1 l.length c1) := X.out.cell 0 0 rfl rfl
      have c01 : w9.cell? ⟨b0, 1, none⟩ = some (.slice a2 r.length c2) := X.out.cell 0 1 rfl rfl
      have c02 : w9.cell? ⟨b0, 2, none⟩ = some (.slice a3 ps.length c3) := X.out.cell 0 2 rfl rfl
      have c10 : w9.cell? ⟨b1, 0, none⟩ = some (.slice gX1 nl.length kX1) := X.out.cell 1 0 rfl rfl
      have c11 : w9.cell? ⟨b1, 1, none⟩ = some (.slice gX2 nr.length kX2) := X.out.cell 1 1 rfl rfl
      have c12 : w9.cell? ⟨b1, 2, none⟩ = some (.slice gX3 np.length kX3) := X.out.cell 1 2 rfl rfl
      have c20 : w9.cell? ⟨b2, 0, none⟩ = some (.slice gY1 nl.length kY1) := X.out.cell 2 0 rfl rfl
      have c21 : w9.cell? ⟨b2, 1, none⟩ = some (.slice gY2 nr.length kY2) := X.out.cell 2 1 rfl rfl
      have c22 : w9.cell? ⟨b2, 2, none⟩ = some (.slice gY3 np.length kY3) := X.out.cell 2 2 rfl rfl
      go_wp2_with fail
      go_loopw [13] (fun u wr => ∃ (k qq : Nat), k ≤ l.length ∧ u = .int .i64 k ∧ w9.drewN qq = wr) (fun u _ => l.length - (intOf u).toNat)
      case atStart => exact ⟨0, 0, by omega, rfl, rfl⟩
      case round =>
      obtain ⟨k, qq, hk, rfl, rfl⟩ := hrel
      by_cases hlt : k < l.length
      · have hkr : k < r.length := by rw [HRL.out (by rw [← HT.out])]; exact hlt
        have hkl2 : k < nl.length := by rw [HNL.out, HLL.out]; exact hlt
        have hkr2 : k < nr.length := by rw [HNR.out, HRR.out]; exact hkr
        by_cases hin : pa ≤ (k : Int) ∧ (k : Int) < pb
        · have t1 : decide ((k : Int) < pa) = false := by simp; omega
          have t2 : decide (pb ≤ (k : Int)) = false := by simp; omega
          clear hin hkr hkl2 hkr2
          go_wp2_with fail
          go_quiet (fail)
          go_wp2_with fail
          go_roundw
          case rel => exact ⟨k + 1, qq + nq, by omega, by go_num, rfl⟩
          case measure => simp [intOf]; omega
        · have hsm := HSY.out.out k (by rw [← HPQ.out]; simp only; omega)
          rw [← HNL.out, ← HNR.out] at hsm
          obtain ⟨b1', o1, hg1, hc1⟩ := CX.out.left k hkl2
          obtain ⟨b2', o2, hg2, hc2⟩ := CC.out.left k hlt
          obtain ⟨b3', o3, hg3, hc3⟩ := CX.out.right k hkr2
          obtain ⟨b4', o4, hg4, hc4⟩ := CC.out.right k hkr
          subst hg1 hg2 hg3 hg4
          rw [hsm.1] at hc1
          rw [hsm.2] at hc3
          obtain ⟨y, hy⟩ : ∃ y, y = l.getD k 0 := ⟨_, rfl⟩
          obtain ⟨z, hz⟩ : ∃ y, y = r.getD k 0 := ⟨_, rfl⟩
          rw [← hy] at hc1 hc2
          rw [← hz] at hc3 hc4
          have u1 : (y != y) = false := by simp
          have u2 : (z != z) = false := by simp
          clear hy hz hsm
          by_cases hleft : (k : Int) < pa
          · have t1 : decide ((k : Int) < pa) = true := by simp; omega
            clear hin hleft
            go_wp2_with fail
            go_quiet (fail)
            go_wp2_with fail
            go_roundw
            case rel => exact ⟨k + 1, qq + nq, by omega, by go_num, rfl⟩
            case measure => simp [intOf]; omega
          · have t1 : decide ((k : Int) < pa) = false := by simp; omega
            have t2 : decide (pb ≤ (k : Int)) = true := by simp; omega
            clear hin hleft
            go_wp2_with fail
            go_quiet (fail)
            go_wp2_with fail
            go_roundw
            case rel => exact ⟨k + 1, qq + nq, by omega, by go_num, rfl⟩
            case measure => simp [intOf]; omega
      · have hke : k = l.length := by omega
        subst hke
        have X := hide (X.out.drewN qq)
        have CC := hide (CC.out.below (below_drewN (Below.refl _ _) qq))
        have CX := hide (CX.out.below (below_drewN (Below.refl _ _) qq))
        have CY := hide (CY.out.below (below_drewN (Below.refl _ _) qq))
        clear c00 c01 c02 c10 c11 c12 c20 c21 c22
        obtain ⟨wv, hwv⟩ : ∃ q, q = w9.drewN qq := ⟨_, rfl⟩
        rw [← hwv] at X CC CX CY
        rw [← hwv]
        clear hwv
        have c00 : wv.cell? ⟨b0, 0, none⟩ = some (.slice a1 l.length c1) := X.out.cell 0 0 rfl rfl
        have c01 : wv.cell? ⟨b0, 1, none⟩ = some (.slice a2 r.length c2) := X.out.cell 0 1 rfl rfl
        have c02 : wv.cell? ⟨b0, 2, none⟩ = some (.slice a3 ps.length c3) := X.out.cell 0 2 rfl rfl
        have c10 : wv.cell? ⟨b1, 0, none⟩ = some (.slice gX1 nl.length kX1) := X.out.cell 1 0 rfl rfl
        have c11 : wv.cell? ⟨b1, 1, none⟩ = some (.slice gX2 nr.length kX2) := X.out.cell 1 1 rfl rfl
        have c12 : wv.cell? ⟨b1, 2, none⟩ = some (.slice gX3 np.length kX3) := X.out.cell 1 2 rfl rfl
        have c20 : wv.cell? ⟨b2, 0, none⟩ = some (.slice gY1 nl.length kY1) := X.out.cell 2 0 rfl rfl
        have c21 : wv.cell? ⟨b2, 1, none⟩ = some (.slice gY2 nr.length kY2) := X.out.cell 2 1 rfl rfl
        have c22 : wv.cell? ⟨b2, 2, none⟩ = some (.slice gY3 np.length kY3) := X.out.cell 2 2 rfl rfl
        go_wp2_with fail
        clear c00 c01 c02 c10 c11 c12 c20 c21 c22
        go_at_call 17
        refine (HF0.out _ _ CC.out).mono ?_
        rintro e w10 ⟨rfl, hb⟩
        have X := hide (X.out.up hb)
        have CC := hide (CC.out.below hb)
        have CX := hide (CX.out.below hb)
        have CY := hide (CY.out.below hb)
        have N7 := hide hb.size
        clear hb
        have c00 : w10.cell? ⟨b0, 0, none⟩ = some (.slice a1 l.length c1) := X.out.cell 0 0 rfl rfl
        have c01 : w10.cell? ⟨b0, 1, none⟩ = some (.slice a2 r.length c2) := X.out.cell 0 1 rfl rfl
        have c02 : w10.cell? ⟨b0, 2, none⟩ = some (.slice a3 ps.length c3) := X.out.cell 0 2 rfl rfl
        have c10 : w10.cell? ⟨b1, 0, none⟩ = some (.slice gX1 nl.length kX1) := X.out.cell 1 0 rfl rfl
        have c11 : w10.cell? ⟨b1, 1, none⟩ = some (.slice gX2 nr.length kX2) := X.out.cell 1 1 rfl rfl
        have c12 : w10.cell? ⟨b1, 2, none⟩ = some (.slice gX3 np.length kX3) := X.out.cell 1 2 rfl rfl
        have c20 : w10.cell? ⟨b2, 0, none⟩ = some (.slice gY1 nl.length kY1) := X.out.cell 2 0 rfl rfl
        have c21 : w10.cell? ⟨b2, 1, none⟩ = some (.slice gY2 nr.length kY2) := X.out.cell 2 1 rfl rfl
        have c22 : w10.cell? ⟨b2, 2, none⟩ = some (.slice gY3 np.length kY3) := X.out.cell 2 2 rfl rfl
        go_wp2_with fail
        clear c00 c01 c02 c10 c11 c12 c20 c21 c22
        go_at_call 17
        refine (HF1.out _ _ CX.out).mono ?_
        rintro e w11 ⟨rfl, hb⟩
        have X := hide (X.out.up hb)
        have CC := hide (CC.out.below hb)
        have CX := hide (CX.out.below hb)
        have CY := hide (CY.out.below hb)
        have N8 := hide hb.size
        clear hb
        have hag := HSY.out.again
        have hok := HSY.out.againOk
        rw [← HNL.out, ← HNR.out, ← HNP.out] at hag hok
        rw [hag.1, hag.2.1, hag.2.2.1, hag.2.2.2, hok] at HG
        clear hag hok
        have c00 : w11.cell? ⟨b0, 0, none⟩ = some (.slice a1 l.length c1) := X.out.cell 0 0 rfl rfl
        have c01 : w11.cell? ⟨b0, 1, none⟩ = some (.slice a2 r.length c2) := X.out.cell 0 1 rfl rfl
        have c02 : w11.cell? ⟨b0, 2, none⟩ = some (.slice a3 ps.length c3) := X.out.cell 0 2 rfl rfl
        have c10 : w11.cell? ⟨b1, 0, none⟩ = some (.slice gX1 nl.length kX1) := X.out.cell 1 0 rfl rfl
        have c11 : w11.cell? ⟨b1, 1, none⟩ = some (.slice gX2 nr.length kX2) := X.out.cell 1 1 rfl rfl
        have c12 : w11.cell? ⟨b1, 2, none⟩ = some (.slice gX3 np.length kX3) := X.out.cell 1 2 rfl rfl
        have c20 : w11.cell? ⟨b2, 0, none⟩ = some (.slice gY1 nl.length kY1) := X.out.cell 2 0 rfl rfl
        have c21 : w11.cell? ⟨b2, 1, none⟩ = some (.slice gY2 nr.length kY2) := X.out.cell 2 1 rfl rfl
        have c22 : w11.cell? ⟨b2, 2, none⟩ = some (.slice gY3 np.length kY3) := X.out.cell 2 2 rfl rfl
        go_wp2_with fail
        clear c00 c01 c02 c10 c11 c12 c20 c21 c22
        go_at_call 13
        refine (HG.out _ _ CX.out).mono ?_
        rintro e w12 ⟨x, y, z, svZ, loZ, hiZ, pZ1, qZ1, pZ2, qZ2, pZ3, qZ3, sloZ, shiZ, rfl, hlo, hhi, CZ, SZ, hss, hb⟩
        obtain ⟨gZ1, kZ1, rfl⟩ := CZ.x.form
        obtain ⟨gZ2, kZ2, rfl⟩ := CZ.y.form
        obtain ⟨gZ3, kZ3, rfl⟩ := CZ.z.own.form
        obtain ⟨sgZ, skZ, rfl⟩ := SZ.own.form
        have CZ := hide (KX.out _ _ _ _ _ _ _ _ _ _ _ _ CZ)
        clear hlo hhi hss SZ
        have X := hide (X.out.up hb)
        have CC := hide (CC.out.below hb)
        have CX := hide (CX.out.below hb)
        have CY := hide (CY.out.below hb)
        have N9 := hide hb.size
        clear hb
        have hbl := below1 w12 (.cells #[.slice gZ1 nl.length kZ1, .slice gZ2 nr.length kZ2, .slice gZ3 np.length kZ3] 27)
        have X := hide (X.out.alloc #[.slice gZ1 nl.length kZ1, .slice gZ2 nr.length kZ2, .slice gZ3 np.length kZ3] 27)
        have CC := hide (CC.out.below hbl)
        have CX := hide (CX.out.below hbl)
        have CY := hide (CY.out.below hbl)
        have CZ := hide (CZ.out.below hbl)
        clear hbl
        obtain ⟨w13, hw13⟩ : ∃ q, q = w12.alloc (.cells #[.slice gZ1 nl.length kZ1, .slice gZ2 nr.length kZ2, .slice gZ3 np.length kZ3] 27) := ⟨_, rfl⟩
        obtain ⟨b3, hb3⟩ : ∃ q, q = w12.heap.size := ⟨_, rfl⟩
        have N10 := hide (show b3 = w12.heap.size ∧ w13.heap.size = w12.heap.size + 1 by rw [hw13, hb3]; simp)
        rw [← hw13] at X CC CX CY CZ
        rw [← hb3] at X
        simp only [List.cons_append, List.nil_append] at X
        have c00 : w13.cell? ⟨b0, 0, none⟩ = some (.slice a1 l.length c1) := X.out.cell 0 0 rfl rfl
        have c01 : w13.cell? ⟨b0, 1, none⟩ = some (.slice a2 r.length c2) := X.out.cell 0 1 rfl rfl
        have c02 : w13.cell? ⟨b0, 2, none⟩ = some (.slice a3 ps.length c3) := X.out.cell 0 2 rfl rfl
        have c10 : w13.cell? ⟨b1, 0, none⟩ = some (.slice gX1 nl.length kX1) := X.out.cell 1 0 rfl rfl
        have c11 : w13.cell? ⟨b1, 1, none⟩ = some (.slice gX2 nr.length kX2) := X.out.cell 1 1 rfl rfl
        have c12 : w13.cell? ⟨b1, 2, none⟩ = some (.slice gX3 np.length kX3) := X.out.cell 1 2 rfl rfl
        have c20 : w13.cell? ⟨b2, 0, none⟩ = some (.slice gY1 nl.length kY1) := X.out.cell 2 0 rfl rfl
        have c21 : w13.cell? ⟨b2, 1, none⟩ = some (.slice gY2 nr.length kY2) := X.out.cell 2 1 rfl rfl
        have c22 : w13.cell? ⟨b2, 2, none⟩ = some (.slice gY3 np.length kY3) := X.out.cell 2 2 rfl rfl
        have c30 : w13.cell? ⟨b3, 0, none⟩ = some (.slice gZ1 nl.length kZ1) := X.out.cell 3 0 rfl rfl
        have c31 : w13.cell? ⟨b3, 1, none⟩ = some (.slice gZ2 nr.length kZ2) := X.out.cell 3 1 rfl rfl
        have c32 : w13.cell? ⟨b3, 2, none⟩ = some (.slice gZ3 np.length kZ3) := X.out.cell 3 2 rfl rfl
        rw [hw13] at c00 c01 c02 c10 c11 c12 c20 c21 c22 c30 c31 c32
        go_upto_region 1 with fail
        rw [← hw13]
        try rw [← hb3]
        rw [← hw13] at c00 c01 c02 c10 c11 c12 c20 c21 c22 c30 c31 c32
        clear hw13 hb3
        have v1 : decide (pa ≤ (fndP np v).1) = true := by have := HSY.out.lo; rw [← HPQ.out, ← HNP.out] at this; simpa using this
        have v2 : decide ((fndP np v).1 ≤ pb) = true := by have := HSY.out.hi; rw [← HPQ.out, ← HNP.out] at this; simpa using this
        have v0' : (fndP np v).2 = true := by have := HSY.out.found; rw [← HNP.out] at this; exact this
        obtain ⟨z, hz⟩ : ∃ z : Int, z = (if (!(fndP ps v).2) = true then 1 else 0) := ⟨_, rfl⟩
        have hz01 : 0 ≤ z ∧ z ≤ 1 := by rw [hz]; split <;> omega
        have v3 : ((np.length : Int) == (ps.length : Int) + z) = true := by
          have := HSY.out.len
          rw [← HNP.out] at this
          rw [this, hz]
          cases (fndP ps v).2 <;> simp
        have HBT := hide (fun (W : World) => show Calls Try.prog 18 #[.bool (!(fndP ps v).2)] W (fun e w' => e = .returned (.int .i64 z) ∧ W = w') by rw [hz]; exact btoi_any _ W)
        clear hz
        have w1' : IntKind.i64.wrap ((ps.length : Int) + z) = (ps.length : Int) + z := by rw [IntWalk.i64_left, IntWalk.wrap64_in _ (by omega)]
        have w2' : RowKit.wrap64 ((ps.length : Int) + z) = (ps.length : Int) + z := IntWalk.wrap64_in _ (by omega)
        have HOK := hide (show isCk nl nr np = true by have := HSY.out.ok; rw [← HNL.out, ← HNR.out, ← HNP.out] at this; exact this)
        have HSO := hide (show sortL (prs nl nr) = sortL (prs l r) by have := HSY.out.pairs; rw [← HNL.out, ← HNR.out] at this; exact prs_perm this)
        have HNL2 := hide (show nl.length ≤ 1048576 by rw [HNL.out, HLL.out]; exact hll)
        obtain ⟨so, hso⟩ : ∃ q, q = sortL (prs l r) := ⟨_, rfl⟩
        have HP1 := hide (fun (W : World) (u : Value) (h : CU W u nl nr np) => show Calls Try.prog 21 #[u] W (RetOw W so) by rw [hso, ← HSO.out]; exact pairs_any u nl nr np W W.heap.size h (Nat.le_refl _) HNL2.out)
        have HP2 := hide (fun (W : World) (u : Value) (h : CU W u l r ps) => show Calls Try.prog 21 #[u] W (RetOw W so) by rw [hso]; exact pairs_any u l r ps W W.heap.size h (Nat.le_refl _) hll)
        have HSOW := hide (show ∀ x ∈ so, I64 x from fun x hx => prs_wf l r x (sortL_mem.1 (by rw [hso] at hx; exact hx)))
        clear hso
        obtain ⟨eb, heb⟩ : ∃ q, q = fndP np v := ⟨_, rfl⟩
        rw [← heb] at v0' v1 v2
        try rw [← heb]
        clear heb
        obtain ⟨e1, e1b⟩ := eb
        simp only at v0' v1 v2
        subst v0'
        have X := hide X.out.drew
        have CC := hide (CC.out.below (Below.refl _ _).drew)
        have CX := hide (CX.out.below (Below.refl _ _).drew)
        have CY := hide (CY.out.below (Below.refl _ _).drew)
        have CZ := hide (CZ.out.below (Below.refl _ _).drew)
        have KS := hide (fun (w' : World) (h : Kn w w' [(b0, #[.slice a1 l.length c1, .slice a2 r.length c2, .slice a3 ps.length c3], 27), (b1, #[.slice gX1 nl.length kX1, .slice gX2 nr.length kX2, .slice gX3 np.length kX3], 27), (b2, #[.slice gY1 nl.length kY1, .slice gY2 nr.length kY2, .slice gY3 np.length kY3], 27), (b3, #[.slice gZ1 nl.length kZ1, .slice gZ2 nr.length kZ2, .slice gZ3 np.length kZ3], 27)]) => show w'.cell? ⟨b0, 0, none⟩ = some (.slice a1 l.length c1) ∧ w'.cell? ⟨b0, 1, none⟩ = some (.slice a2 r.length c2) ∧ w'.cell? ⟨b0, 2, none⟩ = some (.slice a3 ps.length c3) ∧ w'.cell? ⟨b1, 0, none⟩ = some (.slice gX1 nl.length kX1) ∧ w'.cell? ⟨b1, 1, none⟩ = some (.slice gX2 nr.length kX2) ∧ w'.cell? ⟨b1, 2, none⟩ = some (.slice gX3 np.length kX3) ∧ w'.cell? ⟨b2, 0, none⟩ = some (.slice gY1 nl.length kY1) ∧ w'.cell? ⟨b2, 1, none⟩ = some (.slice gY2 nr.length kY2) ∧ w'.cell? ⟨b2, 2, none⟩ = some (.slice gY3 np.length kY3) ∧ w'.cell? ⟨b3, 0, none⟩ = some (.slice gZ1 nl.length kZ1) ∧ w'.cell? ⟨b3, 1, none⟩ = some (.slice gZ2 nr.length kZ2) ∧ w'.cell? ⟨b3, 2, none⟩ = some (.slice gZ3 np.length kZ3) from ⟨h.cell 0 0 rfl rfl, h.cell 0 1 rfl rfl, h.cell 0 2 rfl rfl, h.cell 1 0 rfl rfl, h.cell 1 1 rfl rfl, h.cell 1 2 rfl rfl, h.cell 2 0 rfl rfl, h.cell 2 1 rfl rfl, h.cell 2 2 rfl rfl, h.cell 3 0 rfl rfl, h.cell 3 1 rfl rfl, h.cell 3 2 rfl rfl⟩)
        go_region_held3 (fun w' => w'.cell? ⟨b0, 0, none⟩ = some (.slice a1 l.length c1) ∧ w'.cell? ⟨b0, 1, none⟩ = some (.slice a2 r.length c2) ∧ w'.cell? ⟨b0, 2, none⟩ = some (.slice a3 ps.length c3) ∧ w'.cell? ⟨b1, 0, none⟩ = some (.slice gX1 nl.length kX1) ∧ w'.cell? ⟨b1, 1, none⟩ = some (.slice gX2 nr.length kX2) ∧ w'.cell? ⟨b1, 2, none⟩ = some (.slice gX3 np.length kX3) ∧ w'.cell? ⟨b2, 0, none⟩ = some (.slice gY1 nl.length kY1) ∧ w'.cell? ⟨b2, 1, none⟩ = some (.slice gY2 nr.length kY2) ∧ w'.cell? ⟨b2, 2, none⟩ = some (.slice gY3 np.length kY3) ∧ w'.cell? ⟨b3, 0, none⟩ = some (.slice gZ1 nl.length kZ1) ∧ w'.cell? ⟨b3, 1, none⟩ = some (.slice gZ2 nr.length kZ2) ∧ w'.cell? ⟨b3, 2, none⟩ = some (.slice gZ3 np.length kZ3)) (first | with_reducible exact KS.out _ X.out | go_keep) (first
          | (go_at_call 18; refine (HBT.out _).mono ?_; rintro e wq ⟨rfl, rfl⟩)
          | (go_at_call 15; refine (sEqCk_any _ _ nl nr nl nr np np _ _ CZ.out CX.out (Nat.le_refl _)).mono ?_; rintro e wq ⟨rfl, hb⟩; rw [HE.out]; replace X := hide (X.out.up hb); replace CC := hide (CC.out.below hb); replace CX := hide (CX.out.below hb); replace CY := hide (CY.out.below hb); replace CZ := hide (CZ.out.below hb); clear c00 c01 c02 c10 c11 c12 c20 c21 c22 c30 c31 c32; obtain ⟨c00, c01, c02, c10, c11, c12, c20, c21, c22, c30, c31, c32⟩ := KS.out _ X.out; clear hb)
          | (go_at_call 19; refine (iIsCk_any _ nl nr np _ _ CX.out (Nat.le_refl _)).mono ?_; rintro e wq ⟨rfl, hb⟩; rw [HOK.out]; replace X := hide (X.out.up hb); replace CC := hide (CC.out.below hb); replace CX := hide (CX.out.below hb); replace CY := hide (CY.out.below hb); replace CZ := hide (CZ.out.below hb); clear c00 c01 c02 c10 c11 c12 c20 c21 c22 c30 c31 c32; obtain ⟨c00, c01, c02, c10, c11, c12, c20, c21, c22, c30, c31, c32⟩ := KS.out _ X.out; clear hb)
          | (go_at_call 21; (with_reducible refine (HP1.out _ _ CX.out).mono ?_); rintro e wq ⟨vx, hx, rfl, OX, hb⟩; replace OX := hide OX; replace X := hide (X.out.up hb); replace CC := hide (CC.out.below hb); replace CX := hide (CX.out.below hb); replace CY := hide (CY.out.below hb); replace CZ := hide (CZ.out.below hb); clear c00 c01 c02 c10 c11 c12 c20 c21 c22 c30 c31 c32; obtain ⟨c00, c01, c02, c10, c11, c12, c20, c21, c22, c30, c31, c32⟩ := KS.out _ X.out; clear hb)
          | (go_at_call 21; (with_reducible refine (HP2.out _ _ CC.out).mono ?_); rintro e wq ⟨vc, hc, rfl, OP, hb⟩; replace OP := hide OP; replace OX := hide (OX.out.below hb); replace X := hide (X.out.up hb); replace CC := hide (CC.out.below hb); replace CX := hide (CX.out.below hb); replace CY := hide (CY.out.below hb); replace CZ := hide (CZ.out.below hb); clear c00 c01 c02 c10 c11 c12 c20 c21 c22 c30 c31 c32; obtain ⟨c00, c01, c02, c10, c11, c12, c20, c21, c22, c30, c31, c32⟩ := KS.out _ X.out; clear hb)
          | (go_at_call 20; refine (same_any _ _ so _ _ (OX.out.ints HSOW.out) (OP.out.ints HSOW.out)).mono ?_; rintro e wq ⟨rfl, hb⟩; replace X := hide (X.out.up hb); replace CC := hide (CC.out.below hb); replace CX := hide (CX.out.below hb); replace CY := hide (CY.out.below hb); replace CZ := hide (CZ.out.below hb); clear c00 c01 c02 c10 c11 c12 c20 c21 c22 c30 c31 c32; obtain ⟨c00, c01, c02, c10, c11, c12, c20, c21, c22, c30, c31, c32⟩ := KS.out _ X.out; clear hb))
        all_goals go_wp2_with fail
        all_goals go_ret
        all_goals exact ⟨rfl, X.out.below⟩

end Go.Proofs.Ytkhhlifnbelckaa

/- DrawCrackAt: a drawn column, some of them spoilt, and a number (promise 3). Written by gen_drg.py. -/
namespace Go.Proofs.Ytkhhlifnbelckaa
open Go.RowKit Go.ChangeShapes
set_option linter.unusedSimpArgs false
set_option linter.unusedVariables false
set_option maxRecDepth 100000

theorem Kd.below0 {w W : World} {L : List (Nat × Array Value × TypeId)} (h : Kd [] w W L) : Below w.heap.size w W := h.only.toBelow (by simp) (Nat.le_refl _)

/-- A draw whose reader is the call's own. -/
theorem Kd.draw0 {w W W' : World} {L : List (Nat × Array Value × TypeId)} {g : Nat} (h : Kd [] w W L) (ho : Only [g] W W') (hg : w.heap.size ≤ g) (hL : ∀ e ∈ L, e.1 ≠ g) : Kd [] w W' L :=
  h.others ho (fun b hb => .inr (by simp at hb; omega)) (fun e he => by simp; exact hL e he)

theorem CPA.wf {l r : List Int} {ps : List Pv} (h : CPA l r ps) : Wf l r ps 100 := ⟨by have := h.nl; omega, by have := h.nr; omega, by have := h.np; omega, h.i64, h.vr, h.vp⟩

set_option maxHeartbeats 8000000 in
theorem drCk_any (a : Option Addr) (len cap : Nat) (w : World) (hcode : CodeAt w a len cap) (hlen : len ≤ 1048576) : Calls Try.prog 12 #[.slice a len cap] w (DrCk w) := by
  have X := hide (Kd.one [] w #[.slice none 0 0, .slice none 0 0, .slice none 0 0] 27)
  obtain ⟨w1, hw1⟩ : ∃ w1, w1 = w.alloc (.cells #[.slice none 0 0, .slice none 0 0, .slice none 0 0] 27) := ⟨_, rfl⟩
  rw [← hw1] at X
  have H := hide (hcode.below X.out.below0 (Nat.le_refl _))
  have hz := hide (X.out.lt 0 rfl)
  clear hcode
  go_enter Try.func12, Try.ntmps12
  go_wp2_with fail
  rw [← hw1]
  clear hw1
  refine (new_any a len cap _ H.out hlen).mono ?_
  rintro e wa ⟨g, rfl, hr, hb⟩
  have R := hide hr
  have X := hide (X.out.up hb)
  have HG := hide (show w.heap.size < g from Nat.lt_of_lt_of_le hz.out hr.high)
  clear hr hb H
  go_wp2_with fail
  go_at_call 52
  refine (anyC_d _ a len cap g _ R.out).mono ?_
  rintro e wb ⟨a1, a2, a3, c1, c2, c3, l, r, ps, lo, rfl, hc, hlo, hA, hr, ho⟩
  have HLO := hide (Nat.lt_of_lt_of_le R.out.lt hlo)
  have HG0 := hide hr.lt
  have R := hide hr
  have X := hide (X.out.draw0 ho (Nat.le_of_lt HG.out) (by intro e he; simp at he; subst he; have := HG.out; simp only; omega))
  have O := hide hc
  have HA := hide hA
  clear hr ho hc hlo hA
  have bl := below1 wb (.cells #[.slice a1 l.length c1, .slice a2 r.length c2, .slice a3 ps.length c3] 27)
  have X := hide (X.out.alloc #[.slice a1 l.length c1, .slice a2 r.length c2, .slice a3 ps.length c3] 27)
  have R := hide (R.out.alloc (.cells #[.slice a1 l.length c1, .slice a2 r.length c2, .slice a3 ps.length c3] 27))
  have O := hide (O.out.below bl)
  clear bl
  have HGM := hide (show g < wb.heap.size from HG0.out)
  clear HG0
  obtain ⟨wc, hwc⟩ : ∃ q, q = wb.alloc (.cells #[.slice a1 l.length c1, .slice a2 r.length c2, .slice a3 ps.length c3] 27) := ⟨_, rfl⟩
  obtain ⟨m, hm⟩ : ∃ q, q = wb.heap.size := ⟨_, rfl⟩
  rw [← hwc] at X R O
  rw [← hm] at X HGM
  simp only [List.cons_append, List.nil_append] at X
  go_wp2_with fail
  rw [← hwc]
  try rw [← hm]
  clear hwc hm
  have HNE := hide (show ∀ e ∈ ([(w.heap.size, #[.slice none 0 0, .slice none 0 0, .slice none 0 0], 27), (m, #[.slice a1 l.length c1, .slice a2 r.length c2, .slice a3 ps.length c3], 27)] : List (Nat × Array Value × TypeId)), e.1 ≠ g by
    intro e he
    have := HG.out
    have := HGM.out
    simp only [List.mem_cons, List.not_mem_nil, or_false] at he
    rcases he with rfl | rfl
    · simp only; omega
    · simp only; omega)
  go_at_call 53
  refine (once_d _ a len cap g _ R.out 12 (by omega) (by omega)).mono ?_
  rintro e wd ⟨b, rfl, hr, ho⟩
  have R := hide hr
  have X := hide (X.out.draw0 ho (Nat.le_of_lt HG.out) HNE.out)
  have O := hide (O.out.only ho HLO.out)
  clear hr ho
  have KS := hide (fun (W : World) (h : Kd [] w W [(w.heap.size, #[.slice none 0 0, .slice none 0 0, .slice none 0 0], 27), (m, #[.slice a1 l.length c1, .slice a2 r.length c2, .slice a3 ps.length c3], 27)]) => show W.cell? ⟨m, 0, none⟩ = some (.slice a1 l.length c1) ∧ W.cell? ⟨m, 1, none⟩ = some (.slice a2 r.length c2) ∧ W.cell? ⟨m, 2, none⟩ = some (.slice a3 ps.length c3) ∧ W.cell? ⟨w.heap.size, 0, none⟩ = some (.slice none 0 0) ∧ W.cell? ⟨w.heap.size, 1, none⟩ = some (.slice none 0 0) ∧ W.cell? ⟨w.heap.size, 2, none⟩ = some (.slice none 0 0) ∧ W.frozen? ⟨w.heap.size, 0, none⟩ = false ∧ W.frozen? ⟨w.heap.size, 1, none⟩ = false ∧ W.frozen? ⟨w.heap.size, 2, none⟩ = false from ⟨h.cell 1 0 rfl rfl, h.cell 1 1 rfl rfl, h.cell 1 2 rfl rfl, h.cell 0 0 rfl rfl, h.cell 0 1 rfl rfl, h.cell 0 2 rfl rfl, h.free 0 0 rfl, h.free 0 1 rfl, h.free 0 2 rfl⟩)
  have hne := X.out.ne' 0 1 rfl rfl (by omega)
  have hne2 := fun e => hne (Eq.symm e)
  have R0 := R
  have X0 := X
  have O0 := O
  obtain ⟨c10, c11, c12, c00, c01, c02, f00, f01, f02⟩ := KS.out _ X.out
  have PK := hide (fun (W : World) (hr : Rd w1.heap.size a len cap W g) => show Calls Try.prog 54 #[.pointer (some ⟨g, 0, none⟩), .slice (some ⟨W.heap.size, 0, none⟩) 3 3] (W.alloc (.cells #[.int .i64 1001, .int .i64 (-1001), .int .i64 1000] 3)) (RetD w1.heap.size a len cap g (W.alloc (.cells #[.int .i64 1001, .int .i64 (-1001), .int .i64 1000] 3)) (· ∈ [(1001 : Int), -1001, 1000])) from pickI_d w1.heap.size a len cap g _ (hr.alloc (.cells ([(1001 : Int), -1001, 1000].map (Value.int .i64)).toArray 3)) [1001, -1001, 1000] W.heap.size 3 3 rfl (by omega) (by omega) (by have := hr.lt; omega) (by simp) (litsI W [1001, -1001, 1000] 3))
  have PKd := hide (fun (W : World) (hr : Rd w1.heap.size a len cap W g) => show Calls Try.prog 54 #[.pointer (some ⟨g, 0, none⟩), .slice (some ⟨W.heap.size, 0, none⟩) 3 3] (W.alloc (.cells #[.int .i64 1001, .int .i64 (-1001), .int .i64 1000] 3)).drew (RetD w1.heap.size a len cap g (W.alloc (.cells #[.int .i64 1001, .int .i64 (-1001), .int .i64 1000] 3)).drew (· ∈ [(1001 : Int), -1001, 1000])) from pickI_d w1.heap.size a len cap g _ (hr.alloc (.cells ([(1001 : Int), -1001, 1000].map (Value.int .i64)).toArray 3)).drew' [1001, -1001, 1000] W.heap.size 3 3 rfl (by omega) (by omega) (by have := hr.lt; omega) (by simp) (litsI W [1001, -1001, 1000] 3))
  cases b with
  | true =>
    go_upto_region 4 with fail
    have R := hide (R.out.drew')
    have X := hide X.out.drew
    have O := hide (O.out.below (Below.refl _ _).drew)
    clear c10 c11 c12 c00 c01 c02 f00 f01 f02
    obtain ⟨c10, c11, c12, c00, c01, c02, f00, f01, f02⟩ := KS.out _ X.out
    have b1 := KS.out _ (X.out.up (below1 _ (.cells #[.int .i64 1001, .int .i64 (-1001), .int .i64 1000] 3)))
    have b2 := KS.out _ (X0.out.up (below1 _ (.cells #[.int .i64 1001, .int .i64 (-1001), .int .i64 1000] 3))).drew
    obtain ⟨uc10, uc11, uc12, uc00, uc01, uc02, uf00, uf01, uf02⟩ := b1
    obtain ⟨vc10, vc11, vc12, vc00, vc01, vc02, vf00, vf01, vf02⟩ := b2
    go_region_with (first
      | (go_at_call 54; (first | with_reducible refine (PK.out _ R.out).mono ?_ | with_reducible refine (PKd.out _ R0.out).mono ?_); rintro e wq ⟨x, hx, rfl, hr, ho⟩; have hx := hide hx; replace R := hide hr; replace X := hide (by first | with_reducible exact (X.out.up (below1 _ _)).draw0 ho (Nat.le_of_lt HG.out) HNE.out | with_reducible exact (X0.out.up (below1 _ _)).drew.draw0 ho (Nat.le_of_lt HG.out) HNE.out); replace O := hide (by first | with_reducible exact (O.out.below (below1 _ _)).only ho HLO.out | with_reducible exact (O0.out.below ((below1 _ _).drew)).only ho HLO.out); clear hr ho c10 c11 c12 c00 c01 c02 f00 f01 f02 uc10 uc11 uc12 uc00 uc01 uc02 uf00 uf01 uf02 vc10 vc11 vc12 vc00 vc01 vc02 vf00 vf01 vf02; obtain ⟨c10, c11, c12, c00, c01, c02, f00, f01, f02⟩ := KS.out _ X.out))
    all_goals
      have hx4 := hx.out
      have hxb : I64 x := by simp at hx4; exact ⟨by omega, by omega⟩
      have hx := hide hxb
      clear hx4 hxb
      have Z := ((X.out.set 0 0 rfl (.slice a1 l.length c1)).set 0 1 rfl (.slice a2 r.length c2)).set 0 2 rfl (.slice a3 ps.length c3)
      have z0 := Z.cell 0 0 rfl rfl
      have z1 := Z.cell 0 1 rfl rfl
      have z2 := Z.cell 0 2 rfl rfl
      have Q9 := O.out.seg (seg3 _ w.heap.size (.slice a1 l.length c1) (.slice a2 r.length c2) (.slice a3 ps.length c3)) (by have := HG.out; have := HLO.out; omega)
      go_wp2_with fail
      exact bodyPost_ret (v := .tuple #[.agg #[.slice a1 l.length c1, .slice a2 r.length c2, .slice a3 ps.length c3], .int .i64 x]) (by simp [results, Try.results12, go_sem, z0, z1, z2]) rfl ⟨a1, a2, a3, c1, c2, c3, l, r, ps, x, rfl, Q9.cu, HA.out.wf, hx.out, Z.below0⟩
  | false =>
    have hvl := hide HA.out.vl
    have hnl := hide HA.out.nl
    go_upto_region 5 with fail
    have R := hide (R.out.drew')
    have X := hide X.out.drew
    have O := hide (O.out.below (Below.refl _ _).drew)
    clear c10 c11 c12 c00 c01 c02 f00 f01 f02
    obtain ⟨c10, c11, c12, c00, c01, c02, f00, f01, f02⟩ := KS.out _ X.out
    go_region_with (first
      | (go_at_call 55; refine (value_r _ a len cap g _ R.out a1 a2 a3 c1 c2 c3 l r ps lo O.out HLO.out (by have := hnl.out; omega) hvl.out).mono ?_; rintro e wq ⟨x, hx, rfl, hr, ho⟩; have hx := hide hx; replace R := hide hr; replace X := hide (X.out.draw0 ho (Nat.le_of_lt HG.out) HNE.out); replace O := hide (O.out.only ho HLO.out); clear hr ho c10 c11 c12 c00 c01 c02 f00 f01 f02; obtain ⟨c10, c11, c12, c00, c01, c02, f00, f01, f02⟩ := KS.out _ X.out))
    all_goals
      have hx4 := hx.out
      have hxb : I64 x := by unfold VP at hx4; exact ⟨by omega, by omega⟩
      have hx := hide hxb
      clear hx4 hxb
      have Z := ((X.out.set 0 0 rfl (.slice a1 l.length c1)).set 0 1 rfl (.slice a2 r.length c2)).set 0 2 rfl (.slice a3 ps.length c3)
      have z0 := Z.cell 0 0 rfl rfl
      have z1 := Z.cell 0 1 rfl rfl
      have z2 := Z.cell 0 2 rfl rfl
      have Q9 := O.out.seg (seg3 _ w.heap.size (.slice a1 l.length c1) (.slice a2 r.length c2) (.slice a3 ps.length c3)) (by have := HG.out; have := HLO.out; omega)
      go_wp2_with fail
      exact bodyPost_ret (v := .tuple #[.agg #[.slice a1 l.length c1, .slice a2 r.length c2, .slice a3 ps.length c3], .int .i64 x]) (by simp [results, Try.results12, go_sem, z0, z1, z2]) rfl ⟨a1, a2, a3, c1, c2, c3, l, r, ps, x, rfl, Q9.cu, HA.out.wf, hx.out, Z.below0⟩

end Go.Proofs.Ytkhhlifnbelckaa
