/- The drawn numbers and texts: they return, with values in range, and write into new memory alone. -/
import Derived.Test.YtdjhnamofmcmjaaCur
namespace Go.Proofs.Ytdjhnamofmcmjaa
open Go.RowKit
set_option linter.unusedSimpArgs false
set_option linter.unusedVariables false
set_option maxRecDepth 100000

theorem lits_at (w : World) (L : List Int) (t : TypeId) (hL : L.all (fun v => decide (-9223372036854775808 ≤ v) && decide (v ≤ 9223372036854775807)) = true) :
    ∀ j, j < L.length → ∃ v : Int, (w.alloc (.cells (L.map (Value.int .i64)).toArray t)).cell? ⟨w.heap.size, j, none⟩ = some (.int .i64 v) ∧ -9223372036854775808 ≤ v ∧ v ≤ 9223372036854775807 := by
  intro j hj
  refine ⟨L[j], ?_, ?_⟩
  · rw [World.cell?_alloc_mark]
    simp [hj]
  · have := List.all_eq_true.1 hL L[j] (List.getElem_mem hj)
    simpa using this

def numLits : List Int := [-1, 0, 127, 128, 255, 256, 16383, 16384, 65535, 65536, 562949953421311, 562949953421312, 999999999, 1000000000, -999999999, 9223372036854775807, -9223372036854775808]

theorem own_apart {w : World} {base : Nat} {e t : TypeId} {v : Value} {l : List UInt8} {g : Nat} {cs : Array Value} (h : Bs w base e v l) (hg : w.heap[g]? = some (.cells cs t (0, 0))) (he : e ≠ t) : v.ownBlock ≠ some g := by
  intro hv
  rcases h.2 with ⟨rfl, _⟩ | ⟨k, cap, cur, rfl, _, hk, _⟩
  · simp [Value.ownBlock] at hv
  · simp [Value.ownBlock] at hv
    subst hv
    rw [hg] at hk
    simp at hk
    exact he hk.2.symm

theorem Bs.grown {w w' : World} {base : Nat} {e : TypeId} {v : Value} {l : List UInt8} {g : Nat} (h : Bs w base e v l) (hg : w.grownBy w' (some g)) (hne : v.ownBlock ≠ some g) : Bs w' base e v l :=
  World.ownsRow.kept h hg (.inr hne)

/-- out = append(out, byte(x)), with what is said of the blocks that were there. -/
theorem bs_append2 {P : Program} (W : World) {ops : Array Oper} {rest : List Oper} {o : Oper} {a : Act} {Q : Exit → Act → World → Prop} (hgd : o.guard = none) (s x : Operand) (t : TypeId)
    (ho : o.op = .call { callee := .builtin .append, args := #[s, x], argTypes := #[t, t] })
    (base : Nat) (e : TypeId) (ht : P.underlying t = some (.slice e)) (hinf : (P.info? e).map (fun i => (i.zero, i.size, i.bytes)) = some (some (.int .u8 0), 1, 1))
    (v : Value) (l : List UInt8) (hown : Bs W base e v l) (hs : a.eval s = v) (b : Int) (c : Nat) (h0 : 0 ≤ b) (h1 : b ≤ 255)
    (hx : a.eval x = .slice (some ⟨W.heap.size, 0, none⟩) 1 c) (hlen : l.length < 140737488355328) (hbase : base ≤ W.heap.size)
    (h : ∀ v' w', Bs w' base e v' (l ++ [UInt8.ofNat b.toNat]) → Below base W w' → (∀ k, k < W.heap.size → some k ≠ v.ownBlock → w'.heap[k]? = W.heap[k]?) → wpList P ops Q rest (a.put o.dst v') w') :
    wpList P ops Q (o :: rest) a (W.alloc (.cells #[.int .u8 b] e)) := by
  obtain ⟨i0, hi, hz0, hz1, hz2⟩ := info_parts hinf
  refine wpList_append_own _ hgd s x t ho base e i0 (.int .u8 0) 1 1 ht hi hz0 hz1 hz2 rfl (by decide) v l.length (byteVs l) hs (hown.alloc _) ⟨W.heap.size, 0, none⟩ 1 c [.int .u8 b] hx rfl ?_ ?_ ?_ ?_ ?_ ?_
  · intro j u hj
    match j, hj with
    | 0, hj => simp at hj; subst hj; simp [Addr.add]
  · intro u hu; simp at hu; subst hu; rfl
  · unfold maxLen; omega
  · omega
  · simp; omega
  · intro v' w' hown' hgrow _
    refine h v' w' ?_ ?_ ?_
    · unfold Bs
      rw [byteVs_append, byteVs_one h0 h1, List.length_append]
      exact hown'
    · exact (((Below.refl base W).alloc hbase _).grown hgrow (by simp; omega) (fun k hk => (World.ownsRow.lt hown k hk).1))
    · intro k hk hne
      rw [hgrow.block k (by simp; omega) hne, Below.heap_alloc _ _ _ hk]

/-- A drawn number; a drawn text; two drawn numbers. -/
def RetDn (w : World) (e : Ending) (w' : World) : Prop := ∃ x : Int, -9223372036854775808 ≤ x ∧ x ≤ 9223372036854775807 ∧ e = .returned (.int .i64 x) ∧ Below w.heap.size w w'
def RetDt (w : World) (e : Ending) (w' : World) : Prop := ∃ l : List UInt8, l.length ≤ 40 ∧ e = .returned (.string ⟨l.toArray⟩) ∧ Below w.heap.size w w'
def RetDnn (w : World) (e : Ending) (w' : World) : Prop := ∃ x y : Int, -9223372036854775808 ≤ x ∧ x ≤ 9223372036854775807 ∧ -1 ≤ y ∧ y ≤ 8 ∧ e = .returned (.tuple #[.int .i64 x, .int .i64 y]) ∧ Below w.heap.size w w'

end Go.Proofs.Ytdjhnamofmcmjaa
