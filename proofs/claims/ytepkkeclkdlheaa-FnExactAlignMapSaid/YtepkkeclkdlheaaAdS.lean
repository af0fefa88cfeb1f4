/- What AddPivot of the reference returns (promise 3). -/
import Derived.Test.YtepkkeclkdlheaaAdC
import Derived.Test.YtepkkeclkdlheaaCkT
import Derived.BigQuiet
import Derived.Deep.RegionLaw
namespace Go.Proofs.Ytepkkeclkdlheaa
open Go.RowKit Go.ChangeShapes
set_option linter.unusedSimpArgs false
set_option linter.unusedVariables false
set_option maxRecDepth 100000

theorem Op.made (w : World) (base : Nat) (hb : base ≤ w.heap.size) : Op (w.alloc (.cells #[] 147)) base (.slice (some ⟨w.heap.size, 0, none⟩) 0 0) [] :=
  World.ownsRow_made w #[] 0 hb (by unfold maxLen; omega) rfl

theorem Op.poke {w : World} {base : Nat} {v : Value} {ps : List Pv} (h : Op w base v ps) {m : Nat} (hm : m < base) (j : Nat) (u : Value) : Op (w.setCell ⟨m, j, none⟩ u) base v ps :=
  owns_eq h fun g hg => Below.heap_setCell _ _ _ _ (by have := (World.ownsRow.lt h g hg).1; show g ≠ m; omega)

/-- append(s, p): p lies in a block of its own. -/
theorem op_append_wp (W : World) {o : Oper} {a : Act} {K : Act → World → Prop} {Q : Exit → Act → World → Prop} (s x : Operand)
    (ho : o.op = .call { callee := .builtin .append, args := #[s, x], argTypes := #[23, 23] })
    (base : Nat) (v : Value) (ps : List Pv) (hown : Op W base v ps) (hs : a.eval s = v) (i j : Int) (c g : Nat)
    (hx : a.eval x = .slice (some ⟨g, 0, none⟩) 1 c) (hg : W.heap[g]? = some (.cells #[.int .i64 i, .int .i64 j] 147 (0, 0))) (hlen : ps.length < 1099511627776) (hbase : base ≤ W.heap.size)
    (h : ∀ v' w', Op w' base v' (ps ++ [(i, j)]) → Below base W w' → (∀ k, k < W.heap.size → some k ≠ v.ownBlock → w'.heap[k]? = W.heap[k]?) → K (a.put o.dst v') w') : o.wp Try.prog a W K Q := by
  obtain ⟨i0, hi0, hi1, hi2, hi3⟩ := info_parts infoP
  obtain ⟨v', w', hr, hown', hgrow, -, -⟩ := run_append_own_at (P := Try.prog) (w := W) base 23 o.type 147 i0 _ 2 16 Try.underlying23 hi0 hi1 hi2 hi3 rfl (by decide) v ps.length (pvVs ps) hown ⟨g, 0, none⟩ 1 c [.int .i64 i, .int .i64 j] rfl
    (by intro k u hk
        rw [addr_add, cell_of_row W g (0 + k) _ _ (0, 0) hg, Nat.zero_add]
        simpa using hk)
    (by intro u hu; simp at hu; rcases hu with rfl | rfl <;> rfl) (by unfold maxLen; omega) (by omega) hbase
  unfold Oper.wp execOp
  simp only [ho, resolve, invoke, builtin, Sem.run_bind, Sem.run_pure, Result.andThen_ok, List.map_toArray, List.map_cons, List.map_nil, hs, hx, hr]
  refine h v' w' ?_ ((Below.refl base W).grown hgrow hbase (fun k hk => (World.ownsRow.lt hown k hk).1)) (fun k hk hne => hgrow.block k hk hne)
  unfold Op
  rw [pvVs_append, List.length_append]
  exact hown'

theorem op_append_list (W : World) {ops : Array Oper} {rest : List Oper} {o : Oper} {a : Act} {Q : Exit → Act → World → Prop} (hgd : o.guard = none) (s x : Operand)
    (ho : o.op = .call { callee := .builtin .append, args := #[s, x], argTypes := #[23, 23] })
    (base : Nat) (v : Value) (ps : List Pv) (hown : Op W base v ps) (hs : a.eval s = v) (i j : Int) (c g : Nat)
    (hx : a.eval x = .slice (some ⟨g, 0, none⟩) 1 c) (hg : W.heap[g]? = some (.cells #[.int .i64 i, .int .i64 j] 147 (0, 0))) (hlen : ps.length < 1099511627776) (hbase : base ≤ W.heap.size)
    (h : ∀ v' w', Op w' base v' (ps ++ [(i, j)]) → Below base W w' → (∀ k, k < W.heap.size → some k ≠ v.ownBlock → w'.heap[k]? = W.heap[k]?) → wpList Try.prog ops Q rest (a.put o.dst v') w') :
    wpList Try.prog ops Q (o :: rest) a W :=
  wpList_plain hgd fun K hK => op_append_wp W s x ho base v ps hown hs i j c g hx hg hlen hbase fun v' w' q1 q2 q3 => hK _ _ (h v' w' q1 q2 q3)

theorem op_append_step {W : World} {ops : Array Oper} {o : Oper} {a : Act} {K : Act → World → Prop} {Q : Exit → Act → World → Prop} {E : Prop} (hgd : o.guard = none) (s x : Operand)
    (ho : o.op = .call { callee := .builtin .append, args := #[s, x], argTypes := #[23, 23] })
    (base : Nat) (v : Value) (ps : List Pv) (hown : Op W base v ps) (hs : a.eval s = v) (i j : Int) (c g : Nat)
    (hx : a.eval x = .slice (some ⟨g, 0, none⟩) 1 c) (hg : W.heap[g]? = some (.cells #[.int .i64 i, .int .i64 j] 147 (0, 0))) (hlen : ps.length < 1099511627776) (hbase : base ≤ W.heap.size)
    (h : ∀ v' w', Op w' base v' (ps ++ [(i, j)]) → Below base W w' → (∀ k, k < W.heap.size → some k ≠ v.ownBlock → w'.heap[k]? = W.heap[k]?) → K (a.put o.dst v') w') :
    if Region.wanted o (yielded ops a.tmps) = true then Oper.wp Try.prog o a W K Q else E := by
  have hw : Region.wanted o (yielded ops a.tmps) = true := by simp [Region.wanted, hgd]
  rw [if_pos hw]
  exact op_append_wp W s x ho base v ps hown hs i j c g hx hg hlen hbase h

/-- The list as it grows: k pivots were looked at, b stand before the new one. -/
def outK (ps : List Pv) (b : Nat) (p : Pv) (k : Nat) : List Pv := if b < k then ps.take b ++ p :: (ps.drop b).take (k - b) else ps.take k

theorem outK_zero (ps : List Pv) (b : Nat) (p : Pv) : outK ps b p 0 = [] := by unfold outK; rw [if_neg (by omega)]; rfl

theorem outK_plain (ps : List Pv) (b : Nat) (p : Pv) (k : Nat) (hk : k < ps.length) (hne : k ≠ b) : outK ps b p (k + 1) = outK ps b p k ++ [ps[k]] := by
  unfold outK
  by_cases h : b < k
  · rw [if_pos h, if_pos (by omega), show k + 1 - b = (k - b) + 1 by omega, List.take_succ_eq_append_getElem (by rw [List.length_drop]; omega)]
    have e : (ps.drop b)[k - b]'(by rw [List.length_drop]; omega) = ps[k] := by rw [List.getElem_drop]; congr 1; omega
    rw [e]
    simp
  · rw [if_neg h, if_neg (by omega), List.take_succ_eq_append_getElem hk]

theorem outK_at (ps : List Pv) (b : Nat) (p : Pv) (hb : b < ps.length) : outK ps b p (b + 1) = (outK ps b p b ++ [p]) ++ [ps[b]] := by
  unfold outK
  rw [if_pos (by omega), if_neg (by omega), show b + 1 - b = 0 + 1 by omega, List.take_succ_eq_append_getElem (by rw [List.length_drop]; omega)]
  simp

theorem outK_done (ps : List Pv) (b : Nat) (p : Pv) (hb : b < ps.length) : outK ps b p ps.length = insAt ps b p := by
  unfold outK insAt
  rw [if_pos hb, show (ps.drop b).take (ps.length - b) = ps.drop b from List.take_of_length_le (by rw [List.length_drop]; exact Nat.le_refl _)]

theorem outK_end (ps : List Pv) (p : Pv) : outK ps ps.length p ps.length ++ [p] = insAt ps ps.length p := by
  unfold outK insAt
  rw [if_neg (by omega)]
  simp

theorem outK_length (ps : List Pv) (b : Nat) (p : Pv) (k : Nat) (hb : b ≤ ps.length) (hk : k ≤ ps.length) : (outK ps b p k).length ≤ k + 1 := by
  unfold outK
  split
  · simp; omega
  · simp; omega

end Go.Proofs.Ytepkkeclkdlheaa
