/- Blocks of the call's own whose contents are known, kept in view while callees make memory (a list of block, cells, type); any program. -/
import Derived.Test.YtepkkeclkdlheaaKit
import Derived.Deep.DeepCutAuto
import Derived.Deep.RegionHeld3
namespace Go.Proofs.Ytepkkeclkdlheaa
open Go.RowKit
set_option linter.unusedSimpArgs false
set_option linter.unusedVariables false

/-- Since the call began (world w) nothing old has turned; each block of L, made since, holds what L says. -/
structure Kn (w W : World) (L : List (Nat × Array Value × TypeId)) : Prop where
  below : Below w.heap.size w W
  hold : ∀ e ∈ L, W.heap[e.1]? = some (.cells e.2.1 e.2.2 (0, 0))
  high : ∀ e ∈ L, w.heap.size ≤ e.1
  nodup : (L.map (·.1)).Nodup

theorem Kn.start (w : World) : Kn w w [] := ⟨Below.refl _ _, fun e h => by simp at h, fun e h => by simp at h, by simp⟩

theorem Kn.alloc {w W : World} {L : List (Nat × Array Value × TypeId)} (h : Kn w W L) (c : Array Value) (t : TypeId) : Kn w (W.alloc (.cells c t)) (L ++ [(W.heap.size, c, t)]) := by
  have lt : ∀ e ∈ L, e.1 < W.heap.size := fun e he => (Array.getElem?_eq_some_iff.1 (h.hold e he)).1
  refine ⟨h.below.alloc h.below.size _, fun e he => ?_, fun e he => ?_, ?_⟩
  · rcases List.mem_append.1 he with he | he
    · rw [Below.heap_alloc _ _ _ (lt e he)]; exact h.hold e he
    · obtain rfl : e = (W.heap.size, c, t) := by simpa using he
      exact heap_alloc_new W _
  · rcases List.mem_append.1 he with he | he
    · exact h.high e he
    · obtain rfl : e = (W.heap.size, c, t) := by simpa using he
      exact h.below.size
  · rw [List.map_append, List.nodup_append]
    refine ⟨h.nodup, by simp, fun a ha b hb => ?_⟩
    obtain ⟨e, he, rfl⟩ := List.mem_map.1 ha
    obtain rfl : b = W.heap.size := by simpa using hb
    exact Nat.ne_of_lt (lt e he)

theorem Kn.up {w W W' : World} {L : List (Nat × Array Value × TypeId)} (h : Kn w W L) (hb : Below W.heap.size W W') : Kn w W' L :=
  ⟨h.below.trans (hb.mono h.below.size), fun e he => by rw [hb.block _ (Array.getElem?_eq_some_iff.1 (h.hold e he)).1]; exact h.hold e he, h.high, h.nodup⟩

/-- A callee's call right behind the making of a block. -/
theorem Kn.upA {w W W' : World} {L : List (Nat × Array Value × TypeId)} {c : Array Value} {t : TypeId} (h : Kn w W L) (hb : Below (W.alloc (.cells c t)).heap.size (W.alloc (.cells c t)) W') : Kn w W' (L ++ [(W.heap.size, c, t)]) := (h.alloc c t).up hb

theorem Kn.drew {w W : World} {L : List (Nat × Array Value × TypeId)} (h : Kn w W L) : Kn w W.drew L := ⟨h.below.drew, h.hold, h.high, h.nodup⟩
theorem Kn.drewN {w W : World} {L : List (Nat × Array Value × TypeId)} (h : Kn w W L) (n : Nat) : Kn w (W.drewN n) L := ⟨below_drewN h.below n, h.hold, h.high, h.nodup⟩

/-- The same, where the making came right behind a draw. -/
theorem Kn.upD {w W W' : World} {L : List (Nat × Array Value × TypeId)} {c : Array Value} {t : TypeId} (h : Kn w W L) (hb : Below (W.alloc (.cells c t)).drew.heap.size (W.alloc (.cells c t)).drew W') : Kn w W' (L ++ [(W.heap.size, c, t)]) := (h.alloc c t).drew.up hb

theorem Kn.mem {w W : World} {L : List (Nat × Array Value × TypeId)} (h : Kn w W L) (i : Nat) {g : Nat} {c : Array Value} {t : TypeId} (ho : L[i]? = some (g, c, t)) : W.heap[g]? = some (.cells c t (0, 0)) := h.hold _ (List.mem_of_getElem? ho)

theorem Kn.cell {w W : World} {L : List (Nat × Array Value × TypeId)} (h : Kn w W L) (i j : Nat) {g : Nat} {c : Array Value} {t : TypeId} {x : Value} (ho : L[i]? = some (g, c, t)) (hx : c[j]? = some x) : W.cell? ⟨g, j, none⟩ = some x := by
  rw [cell_of_row W g j c t (0, 0) (h.mem i ho)]; exact hx

theorem Kn.free {w W : World} {L : List (Nat × Array Value × TypeId)} (h : Kn w W L) (i j : Nat) {g : Nat} {c : Array Value} {t : TypeId} (ho : L[i]? = some (g, c, t)) : W.frozen? ⟨g, j, none⟩ = false := frozen_of_row W g j c t (h.mem i ho)

theorem Kn.lt {w W : World} {L : List (Nat × Array Value × TypeId)} (h : Kn w W L) (i : Nat) {g : Nat} {c : Array Value} {t : TypeId} (ho : L[i]? = some (g, c, t)) : g < W.heap.size := (Array.getElem?_eq_some_iff.1 (h.mem i ho)).1

theorem Kn.low {w W : World} {L : List (Nat × Array Value × TypeId)} (h : Kn w W L) (i : Nat) {g : Nat} {c : Array Value} {t : TypeId} (ho : L[i]? = some (g, c, t)) : w.heap.size ≤ g := h.high _ (List.mem_of_getElem? ho)

/-- A store into one of them. -/
theorem Kn.set {w W : World} {L : List (Nat × Array Value × TypeId)} (h : Kn w W L) (i j : Nat) {g : Nat} {c : Array Value} {t : TypeId} (ho : L[i]? = some (g, c, t)) (u : Value) : Kn w (W.setCell ⟨g, j, none⟩ u) (L.set i (g, c.setIfInBounds j u, t)) := by
  have hi : i < L.length := (List.getElem?_eq_some_iff.1 ho).1
  have hg := (List.getElem?_eq_some_iff.1 ho).2
  have hmap : (L.set i (g, c.setIfInBounds j u, t)).map (·.1) = L.map (·.1) := by
    apply List.ext_getElem
    · simp
    · intro k h1 h2
      by_cases hk : k = i
      · subst hk; simp [hg]
      · simp [List.getElem_set, Ne.symm hk]
  have other : ∀ k (hk : k < L.length), k ≠ i → L[k].1 ≠ g := by
    intro k hk hki e
    have h2 := List.pairwise_iff_getElem.1 h.nodup
    have hL : (L.map (·.1)).length = L.length := List.length_map _
    rcases Nat.lt_or_gt_of_ne hki with hlt | hlt
    · have := h2 k i (by omega) (by omega) hlt
      simp [e, hg] at this
    · have := h2 i k (by omega) (by omega) hlt
      simp [e, hg] at this
  refine ⟨h.below.setCell (h.low i ho) u, fun e he => ?_, fun e he => ?_, by rw [hmap]; exact h.nodup⟩
  · obtain ⟨k, hk, rfl⟩ := List.getElem_of_mem he
    rw [List.length_set] at hk
    by_cases hki : k = i
    · subst hki
      simp only [List.getElem_set_self]
      exact heap_setCell_same W g j c t u (h.mem k ho)
    · rw [List.getElem_set_ne (Ne.symm hki)]
      rw [heap_setCell_other W ⟨g, j, none⟩ _ u (other k hk hki)]
      exact h.hold _ (List.getElem_mem hk)
  · obtain ⟨k, hk, rfl⟩ := List.getElem_of_mem he
    rw [List.length_set] at hk
    by_cases hki : k = i
    · subst hki
      simp only [List.getElem_set_self]
      exact h.low k ho
    · rw [List.getElem_set_ne (Ne.symm hki)]
      exact h.high _ (List.getElem_mem hk)

/-- All that is known of some of them is forgotten. -/
theorem Kn.sub {w W : World} {L M : List (Nat × Array Value × TypeId)} (h : Kn w W L) (hs : M.Sublist L) : Kn w W M :=
  ⟨h.below, fun e he => h.hold e (hs.subset he), fun e he => h.high e (hs.subset he), h.nodup.sublist (hs.map _)⟩

theorem Kn.one (w : World) (c : Array Value) (t : TypeId) : Kn w (w.alloc (.cells c t)) [(w.heap.size, c, t)] := (Kn.start w).alloc c t
theorem Kn.two (w : World) (c d : Array Value) (t u : TypeId) : Kn w ((w.alloc (.cells c t)).alloc (.cells d u)) [(w.heap.size, c, t), (w.heap.size + 1, d, u)] := by
  have := (Kn.one w c t).alloc d u
  simpa using this
theorem Kn.three (w : World) (c d e : Array Value) (t u v : TypeId) : Kn w (((w.alloc (.cells c t)).alloc (.cells d u)).alloc (.cells e v)) [(w.heap.size, c, t), (w.heap.size + 1, d, u), (w.heap.size + 1 + 1, e, v)] := by
  have := (Kn.two w c d t u).alloc e v
  simpa using this

end Go.Proofs.Ytepkkeclkdlheaa
