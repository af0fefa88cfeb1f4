/- The laws' helpers over columns: pairsOf, sameInts, btoi (promises 3 and 4). -/
import Derived.Test.YtfldnjkojdnjcaaCrN
import Derived.BigQuiet
import Derived.Deep.RegionLaw
namespace Go.Proofs.Ytfldnjkojdnjcaa
open Go.RowKit Go.ChangeShapes
set_option linter.unusedSimpArgs false
set_option linter.unusedVariables false
set_option maxRecDepth 100000

/-- append(s, i): i lies in a block of its own, in a region that draws its order. -/
theorem appI_wp (W : World) {o : Oper} {a : Act} {K : Act → World → Prop} {Q : Exit → Act → World → Prop} (s x : Operand)
    (ho : o.op = .call { callee := .builtin .append, args := #[s, x], argTypes := #[24, 24] })
    (base : Nat) (v : Value) (l : List Int) (hown : Is W base 3 v l) (hs : a.eval s = v) (i : Int) (c g : Nat)
    (hx : a.eval x = .slice (some ⟨g, 0, none⟩) 1 c) (hg : W.heap[g]? = some (.cells #[.int .i64 i] 3 (0, 0))) (hlen : l.length < 1099511627776) (hbase : base ≤ W.heap.size)
    (h : ∀ v' w', Is w' base 3 v' (l ++ [i]) → Below base W w' → K (a.put o.dst v') w') : o.wp Try.prog a W K Q := by
  obtain ⟨i0, hi0, hi1, hi2, hi3⟩ := info_parts infoI
  obtain ⟨v', w', hr, hown', hgrow, -, -⟩ := run_append_own_at (P := Try.prog) (w := W) base 24 o.type 3 i0 _ 1 8 Try.underlying24 hi0 hi1 hi2 hi3 rfl (by decide) v l.length (intVs l) hown ⟨g, 0, none⟩ 1 c [.int .i64 i] rfl
    (by intro k u hk
        rw [addr_add, cell_of_row W g (0 + k) _ _ (0, 0) hg, Nat.zero_add]
        simpa using hk)
    (by intro u hu; simp at hu; subst hu; rfl) (by unfold maxLen; omega) (by omega) hbase
  unfold Oper.wp execOp
  simp only [ho, resolve, invoke, builtin, Sem.run_bind, Sem.run_pure, Result.andThen_ok, List.map_toArray, List.map_cons, List.map_nil, hs, hx, hr]
  refine h v' w' ?_ ((Below.refl base W).grown hgrow hbase (fun k hk => (World.ownsRow.lt hown k hk).1))
  unfold Is
  rw [show intVs (l ++ [i]) = intVs l ++ [.int .i64 i] by simp [intVs], List.length_append]
  exact hown'

theorem appI_step {W : World} {ops : Array Oper} {o : Oper} {a : Act} {K : Act → World → Prop} {Q : Exit → Act → World → Prop} {E : Prop} (hgd : o.guard = none) (s x : Operand)
    (ho : o.op = .call { callee := .builtin .append, args := #[s, x], argTypes := #[24, 24] })
    (base : Nat) (v : Value) (l : List Int) (hown : Is W base 3 v l) (hs : a.eval s = v) (i : Int) (c g : Nat)
    (hx : a.eval x = .slice (some ⟨g, 0, none⟩) 1 c) (hg : W.heap[g]? = some (.cells #[.int .i64 i] 3 (0, 0))) (hlen : l.length < 1099511627776) (hbase : base ≤ W.heap.size)
    (h : ∀ v' w', Is w' base 3 v' (l ++ [i]) → Below base W w' → K (a.put o.dst v') w') :
    if Region.wanted o (yielded ops a.tmps) = true then Oper.wp Try.prog o a W K Q else E := by
  have hw : Region.wanted o (yielded ops a.tmps) = true := by simp [Region.wanted, hgd]
  rw [if_pos hw]
  exact appI_wp W s x ho base v l hown hs i c g hx hg hlen hbase h

/-- The pairs of values and rows, as numbers. -/
def prs (l r : List Int) : List Int := (l.zip r).map fun p => wrap64 (wrap64 (p.1 * 1000) + p.2)

theorem prs_perm {l r l' r' : List Int} (h : (l'.zip r').Perm (l.zip r)) : sortL (prs l' r') = sortL (prs l r) := sortL_of_perm (h.map _)

theorem wrap_i64 (x : Int) : I64 (wrap64 x) := by
  unfold I64 wrap64
  omega

theorem prs_wf (l r : List Int) : ∀ x ∈ prs l r, I64 x := by
  intro x hx
  obtain ⟨p, _, rfl⟩ := List.mem_map.1 hx
  exact wrap_i64 _

theorem prs_len (l r : List Int) : (prs l r).length = min l.length r.length := by simp [prs]

theorem prs_get (l r : List Int) (k : Nat) (h1 : k < l.length) (h2 : k < r.length) : (prs l r)[k]'(by rw [prs_len]; omega) = wrap64 (wrap64 (l[k] * 1000) + r[k]) := by simp [prs]

theorem Ints.at' {w : World} {B : Nat} {a : Option Addr} {n c : Nat} {l : List Int} (h : Ints w B (.slice a n c) l) (j : Nat) (hj : j < l.length) :
    ∃ b o, a = some ⟨b, o, none⟩ ∧ w.cell? ⟨b, o + j, none⟩ = some (.int .i64 (l.getD j 0)) := by
  obtain ⟨a', c', e1, -, -, h1⟩ := h
  injection e1 with e1 e2 e3
  subst e1
  obtain ⟨b, o, rfl, -, hc⟩ := h1 j hj
  exact ⟨b, o, rfl, by rw [hc]; simp [List.getD_eq_getElem?_getD, List.getElem?_eq_getElem hj]⟩

theorem btoi_any (b : Bool) (w : World) : Calls Try.prog 12 #[.bool b] w fun e w' => e = .returned (.int .i64 (if b = true then 1 else 0)) ∧ w = w' := by
  cases b
  · go_enter Try.func12, Try.ntmps12
    go_wp2
    go_ret
    exact ⟨rfl, rfl⟩
  · go_enter Try.func12, Try.ntmps12
    go_wp2
    go_ret
    exact ⟨rfl, rfl⟩

theorem same_any (v u : Value) (l : List Int) (w : World) (B : Nat) (hv : Ints w B v l) (hu : Ints w B u l) : Calls Try.prog 22 #[v, u] w (RetB1 w true) := by
  obtain ⟨a, c, rfl, hlen, -, hc⟩ := hv
  obtain ⟨a', c', rfl, -, -, hc'⟩ := hu
  have HC := hide hc
  have HC' := hide hc'
  clear hc hc'
  have h1 : (((l.length : Nat) : Int) != ((l.length : Nat) : Int)) = false := by simp
  go_enter Try.func22, Try.ntmps22
  go_wp2_with fail
  go_loopw [5] (fun i wr => ∃ (k q : Nat), k ≤ l.length ∧ i = .int .i64 k ∧ wr = w.drewN q) (fun i _ => l.length - (intOf i).toNat)
  case atStart => exact ⟨0, 0, by omega, rfl, rfl⟩
  case round =>
    obtain ⟨k, q, hk, rfl, rfl⟩ := hrel
    by_cases hlt : k < l.length
    · obtain ⟨b, o, rfl, -, h2⟩ := HC.out k hlt
      obtain ⟨b', o', rfl, -, h3⟩ := HC'.out k hlt
      obtain ⟨x, hx⟩ : ∃ x, x = l[k] := ⟨_, rfl⟩
      rw [← hx] at h2 h3
      have h4 : (x != x) = false := by simp
      clear hx
      go_wp2_with fail
      go_quiet (fail)
      go_wp2_with fail
      go_roundw
      case rel => exact ⟨k + 1, q + nq, by omega, by go_num, rfl⟩
      case measure => simp [intOf]; omega
    · have hke : k = l.length := by omega
      subst hke
      go_wp2_with fail
      go_ret
      exact ⟨rfl, below_drewN (Below.refl _ _) _⟩

end Go.Proofs.Ytfldnjkojdnjcaa
