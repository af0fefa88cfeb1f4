/- What ScanRange returns, of the reference and of the program (promise 2). -/
import Derived.Test.YtepkkeclkdlheaaRng2
import Derived.Test.YtepkkeclkdlheaaKn
namespace Go.Proofs.Ytepkkeclkdlheaa
open Go.RowKit Go.ChangeShapes
set_option linter.unusedSimpArgs false
set_option linter.unusedVariables false
set_option maxRecDepth 100000

theorem Kn.at' {w W W' : World} {L : List (Nat × Array Value × TypeId)} {B : Nat} (h : Kn w W L) (hb : Below B W W') (hB : w.heap.size ≤ B) (hL : ∀ e ∈ L, e.1 < B) : Kn w W' L :=
  ⟨h.below.trans (hb.mono hB), fun e he => by rw [hb.block _ (hL e he)]; exact h.hold e he, h.high, h.nodup⟩

theorem Is.nil (w : World) (base : Nat) (e : TypeId) : Is w base e (.slice none 0 0) [] := World.ownsRow_nil _ _ _ _
theorem Is.made (w : World) (base : Nat) (e : TypeId) (hb : base ≤ w.heap.size) : Is (w.alloc (.cells #[] e)) base e (.slice (some ⟨w.heap.size, 0, none⟩) 0 0) [] :=
  World.ownsRow_made w #[] 0 hb (by unfold maxLen; omega) rfl

/-- out = append(out, x): x lies in a block of one cell that was just made. -/
theorem is_append1 {P : Program} (W : World) {ops : Array Oper} {rest : List Oper} {o : Oper} {a : Act} {Q : Exit → Act → World → Prop} (hgd : o.guard = none) (s x : Operand) (t : TypeId)
    (ho : o.op = .call { callee := .builtin .append, args := #[s, x], argTypes := #[t, t] })
    (base : Nat) (e : TypeId) (ht : P.underlying t = some (.slice e)) (hinf : (P.info? e).map (fun i => (i.zero, i.size, i.bytes)) = some (some (.int .i64 0), 1, 8))
    (v : Value) (l : List Int) (hown : Is W base e v l) (hs : a.eval s = v) (b : Int) (c : Nat)
    (hx : a.eval x = .slice (some ⟨W.heap.size, 0, none⟩) 1 c) (hlen : l.length < 1099511627776) (hbase : base ≤ W.heap.size)
    (h : ∀ v' w', Is w' base e v' (l ++ [b]) → Below base W w' → wpList P ops Q rest (a.put o.dst v') w') :
    wpList P ops Q (o :: rest) a (W.alloc (.cells #[.int .i64 b] e)) := by
  obtain ⟨i0, hi, hz0, hz1, hz2⟩ := info_parts hinf
  refine wpList_append_own _ hgd s x t ho base e i0 (.int .i64 0) 1 8 ht hi hz0 hz1 hz2 rfl (by decide) v l.length (intVs l) hs (World.ownsRow.alloc hown _) ⟨W.heap.size, 0, none⟩ 1 c [.int .i64 b] hx rfl ?_ ?_ ?_ ?_ ?_ ?_
  · intro j u hj
    match j, hj with
    | 0, hj => simp at hj; subst hj; simp [Addr.add]
  · intro u hu; simp at hu; subst hu; rfl
  · unfold maxLen; omega
  · omega
  · simp; omega
  · intro v' w' hown' hgrow _
    refine h v' w' ?_ ?_
    · unfold Is
      rw [show intVs (l ++ [b]) = intVs l ++ [.int .i64 b] by simp [intVs], List.length_append]
      exact hown'
    · exact (((Below.refl base W).alloc hbase _).grown hgrow (by simp; omega) (fun k hk => (World.ownsRow.lt hown k hk).1))

/-- The indices below k of the numbers in the range. -/
def scanK (l : List Int) (f t : Int) (k : Nat) : List Int := ((List.range k).filter fun i => inR f t (l.getD i 0)).map fun (i : Nat) => (i : Int)

theorem scanK_length (l : List Int) (f t : Int) (k : Nat) : (scanK l f t k).length ≤ k := by
  unfold scanK
  rw [List.length_map]
  exact Nat.le_trans (List.length_filter_le _ _) (by simp)

theorem scanK_yes {l : List Int} {f t x : Int} {k : Nat} (hk : k < l.length) (hx : x = l[k]) (h : inR f t x = true) : scanK l f t (k + 1) = scanK l f t k ++ [(k : Int)] := by
  unfold scanK
  rw [List.range_succ, List.filter_append, List.map_append]
  have e : l.getD k 0 = x := by rw [List.getD_eq_getElem?_getD, List.getElem?_eq_getElem hk, hx]; rfl
  rw [show ([k].filter fun i => inR f t (l.getD i 0)) = [k] by rw [List.filter_cons, if_pos (by rw [e]; exact h)]; rfl]
  rfl

theorem scanK_no {l : List Int} {f t x : Int} {k : Nat} (hk : k < l.length) (hx : x = l[k]) (h : inR f t x = false) : scanK l f t (k + 1) = scanK l f t k := by
  unfold scanK
  rw [List.range_succ, List.filter_append, List.map_append]
  have e : l.getD k 0 = x := by rw [List.getD_eq_getElem?_getD, List.getElem?_eq_getElem hk, hx]; rfl
  rw [show ([k].filter fun i => inR f t (l.getD i 0)) = [] by rw [List.filter_cons, if_neg (by rw [e, h]; simp)]; rfl]
  simp

theorem scanK_wf (l : List Int) (f t : Int) (k : Nat) (hk : k ≤ 9223372036854775807) : ∀ x ∈ scanK l f t k, I64 x := by
  intro x hx
  unfold scanK at hx
  obtain ⟨i, hi, rfl⟩ := List.mem_map.1 hx
  have := List.mem_range.1 (List.mem_filter.1 hi).1
  exact ⟨by omega, by omega⟩

theorem sInR_at {f t v : Int} {r : Bool} (h : inR f t v = r) (w : World) : Calls Try.prog 98 #[.agg #[.int .i64 f, .int .i64 t], .int .i64 v] w (RetB1 w r) := by rw [← h]; exact sInR_any f t v w
theorem iInR_at {f t v : Int} {r : Bool} (h : inR f t v = r) (w : World) : Calls Try.prog 105 #[.agg #[.int .i64 f, .int .i64 t], .int .i64 v] w (RetB1 w r) := by rw [← h]; exact iInR_any f t v w

end Go.Proofs.Ytepkkeclkdlheaa
