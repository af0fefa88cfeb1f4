/- The blocks that a call makes at its beginning (its boxed parameters, its results' variables), kept in view while callees make memory; any program. -/
import Derived.Test.YtlpnapmjflkheaaKit
namespace Go.Proofs.Ytlpnapmjflkheaa
open Go.RowKit
set_option linter.unusedSimpArgs false
set_option linter.unusedVariables false

/-- Since the call began (world w) nothing old has turned, and the first blocks that it made hold os. -/
structure Bx (w W : World) (os : List (Array Value × TypeId)) : Prop where
  below : Below w.heap.size w W
  size : w.heap.size + os.length ≤ W.heap.size
  at' : ∀ (i : Nat) (o : Array Value × TypeId), os[i]? = some o → W.heap[w.heap.size + i]? = some (.cells o.1 o.2 (0, 0))

theorem Bx.new (w : World) : Bx w w [] := ⟨Below.refl _ _, by simp, fun i o h => by simp at h⟩

theorem Bx.alloc {w W : World} {os : List (Array Value × TypeId)} (h : Bx w W os) (hs : W.heap.size = w.heap.size + os.length) (c : Array Value) (t : TypeId) : Bx w (W.alloc (.cells c t)) (os ++ [(c, t)]) := by
  refine ⟨h.below.alloc (by omega) _, by simp; omega, fun i o ho => ?_⟩
  by_cases hi : i < os.length
  · rw [List.getElem?_append_left hi] at ho
    rw [Below.heap_alloc _ _ _ (by omega)]
    exact h.at' i o ho
  · rw [List.getElem?_append_right (by omega)] at ho
    have hio : i = os.length := by
      by_cases e : i - os.length = 0
      · omega
      · rw [List.getElem?_eq_none (by simp; omega)] at ho
        cases ho
    subst hio
    simp at ho
    subst ho
    rw [← hs]
    exact heap_alloc_new W _

theorem Bx.one (w : World) (c : Array Value) (t : TypeId) : Bx w (w.alloc (.cells c t)) [(c, t)] := (Bx.new w).alloc (by simp) c t
theorem Bx.two (w : World) (c d : Array Value) (t u : TypeId) : Bx w ((w.alloc (.cells c t)).alloc (.cells d u)) [(c, t), (d, u)] := (Bx.one w c t).alloc (by simp) d u
theorem Bx.three (w : World) (c d e : Array Value) (t u v : TypeId) : Bx w (((w.alloc (.cells c t)).alloc (.cells d u)).alloc (.cells e v)) [(c, t), (d, u), (e, v)] := (Bx.two w c d t u).alloc (by simp) e v
theorem Bx.four (w : World) (c d e f : Array Value) (t u v x : TypeId) : Bx w ((((w.alloc (.cells c t)).alloc (.cells d u)).alloc (.cells e v)).alloc (.cells f x)) [(c, t), (d, u), (e, v), (f, x)] := (Bx.three w c d e t u v).alloc (by simp) f x

theorem Bx.up {w W W' : World} {os : List (Array Value × TypeId)} (h : Bx w W os) (hb : Below W.heap.size W W') : Bx w W' os :=
  ⟨h.below.trans (hb.mono h.below.size), Nat.le_trans h.size hb.size, fun i o ho => by
    have hi : i < os.length := (List.getElem?_eq_some_iff.1 ho).1
    rw [hb.block _ (by have := h.size; omega)]
    exact h.at' i o ho⟩

theorem Bx.drew {w W : World} {os : List (Array Value × TypeId)} (h : Bx w W os) : Bx w W.drew os := ⟨h.below.drew, h.size, h.at'⟩
theorem Bx.drewN {w W : World} {os : List (Array Value × TypeId)} (h : Bx w W os) (n : Nat) : Bx w (W.drewN n) os := ⟨below_drewN h.below n, h.size, h.at'⟩

theorem Bx.cell {w W : World} {os : List (Array Value × TypeId)} (h : Bx w W os) (i j : Nat) {c : Array Value} {t : TypeId} {x : Value} (ho : os[i]? = some (c, t)) (hx : c[j]? = some x) : W.cell? ⟨w.heap.size + i, j, none⟩ = some x := by
  rw [cell_of_row W (w.heap.size + i) j c t (0, 0) (h.at' i _ ho)]
  exact hx

theorem Bx.free {w W : World} {os : List (Array Value × TypeId)} (h : Bx w W os) (i j : Nat) {c : Array Value} {t : TypeId} (ho : os[i]? = some (c, t)) : W.frozen? ⟨w.heap.size + i, j, none⟩ = false :=
  frozen_of_row W (w.heap.size + i) j c t (h.at' i _ ho)

/-- A store into one of them. -/
theorem Bx.set {w W : World} {os : List (Array Value × TypeId)} (h : Bx w W os) (i j : Nat) {c : Array Value} {t : TypeId} (ho : os[i]? = some (c, t)) (u : Value) : Bx w (W.setCell ⟨w.heap.size + i, j, none⟩ u) (os.set i (c.setIfInBounds j u, t)) := by
  have hi : i < os.length := (List.getElem?_eq_some_iff.1 ho).1
  refine ⟨h.below.setCell (Nat.le_add_right _ _) u, by simpa using h.size, fun k o hk => ?_⟩
  by_cases hki : k = i
  · subst hki
    rw [List.getElem?_set_self hi] at hk
    obtain rfl := Option.some.inj hk
    exact heap_setCell_same W (w.heap.size + k) j c t u (h.at' k _ ho)
  · rw [List.getElem?_set_ne (fun e => hki e.symm)] at hk
    rw [heap_setCell_other W ⟨w.heap.size + i, j, none⟩ (w.heap.size + k) u (fun e => hki (by simpa using e))]
    exact h.at' k o hk

end Go.Proofs.Ytlpnapmjflkheaa
