/- Blocks of the call's own whose contents are known, while a reader's block (G) may turn; any program. -/
import Derived.Test.YtajfhalalnlejaaGreatDraw2
namespace Go.Proofs.YtajfhalalnlejaaGreat
open Go.RowKit
set_option linter.unusedSimpArgs false
set_option linter.unusedVariables false

/-- Since the call began (world w) nothing old has turned; each block of L, made since, holds what L says. -/
structure Kd (G : List Nat) (w W : World) (L : List (Nat × Array Value × TypeId)) : Prop where
  only : Only G w W
  hold : ∀ e ∈ L, W.heap[e.1]? = some (.cells e.2.1 e.2.2 (0, 0))
  high : ∀ e ∈ L, w.heap.size ≤ e.1
  nodup : (L.map (·.1)).Nodup

theorem Kd.start (G : List Nat) (w : World) : Kd G w w [] := ⟨Only.refl _ _, fun e h => by simp at h, fun e h => by simp at h, by simp⟩

theorem Kd.alloc {G : List Nat} {w W : World} {L : List (Nat × Array Value × TypeId)} (h : Kd G w W L) (c : Array Value) (t : TypeId) : Kd G w (W.alloc (.cells c t)) (L ++ [(W.heap.size, c, t)]) := by
  have lt : ∀ e ∈ L, e.1 < W.heap.size := fun e he => (Array.getElem?_eq_some_iff.1 (h.hold e he)).1
  refine ⟨h.only.trans (Only.of_below ((Below.refl _ _).alloc (Nat.le_refl _) _)), fun e he => ?_, fun e he => ?_, ?_⟩
  · rcases List.mem_append.1 he with he | he
    · rw [Below.heap_alloc _ _ _ (lt e he)]; exact h.hold e he
    · obtain rfl : e = (W.heap.size, c, t) := by simpa using he
      exact heap_alloc_new W _
  · rcases List.mem_append.1 he with he | he
    · exact h.high e he
    · obtain rfl : e = (W.heap.size, c, t) := by simpa using he
      exact h.only.below.size
  · rw [List.map_append, List.nodup_append]
    refine ⟨h.nodup, by simp, fun a ha b hb => ?_⟩
    obtain ⟨e, he, rfl⟩ := List.mem_map.1 ha
    obtain rfl : b = W.heap.size := by simpa using hb
    exact Nat.ne_of_lt (lt e he)

theorem Kd.up {G : List Nat} {w W W' : World} {L : List (Nat × Array Value × TypeId)} (h : Kd G w W L) (hb : Below W.heap.size W W') : Kd G w W' L :=
  ⟨h.only.trans (Only.of_below hb), fun e he => by rw [hb.block _ (Array.getElem?_eq_some_iff.1 (h.hold e he)).1]; exact h.hold e he, h.high, h.nodup⟩

/-- A callee's call right behind the making of a block. -/
theorem Kd.upA {G : List Nat} {w W W' : World} {L : List (Nat × Array Value × TypeId)} {c : Array Value} {t : TypeId} (h : Kd G w W L) (hb : Below (W.alloc (.cells c t)).heap.size (W.alloc (.cells c t)) W') : Kd G w W' (L ++ [(W.heap.size, c, t)]) := (h.alloc c t).up hb

theorem Kd.drew {G : List Nat} {w W : World} {L : List (Nat × Array Value × TypeId)} (h : Kd G w W L) : Kd G w W.drew L := ⟨h.only.drew, h.hold, h.high, h.nodup⟩
theorem Kd.drewN {G : List Nat} {w W : World} {L : List (Nat × Array Value × TypeId)} (h : Kd G w W L) (n : Nat) : Kd G w (W.drewN n) L := ⟨h.only.trans (Only.of_below (below_drewN (Below.refl _ _) n)), h.hold, h.high, h.nodup⟩

/-- The same, where the making came right behind a draw. -/
theorem Kd.upD {G : List Nat} {w W W' : World} {L : List (Nat × Array Value × TypeId)} {c : Array Value} {t : TypeId} (h : Kd G w W L) (hb : Below (W.alloc (.cells c t)).drew.heap.size (W.alloc (.cells c t)).drew W') : Kd G w W' (L ++ [(W.heap.size, c, t)]) := (h.alloc c t).drew.up hb

theorem Kd.mem {G : List Nat} {w W : World} {L : List (Nat × Array Value × TypeId)} (h : Kd G w W L) (i : Nat) {g : Nat} {c : Array Value} {t : TypeId} (ho : L[i]? = some (g, c, t)) : W.heap[g]? = some (.cells c t (0, 0)) := h.hold _ (List.mem_of_getElem? ho)

theorem Kd.cell {G : List Nat} {w W : World} {L : List (Nat × Array Value × TypeId)} (h : Kd G w W L) (i j : Nat) {g : Nat} {c : Array Value} {t : TypeId} {x : Value} (ho : L[i]? = some (g, c, t)) (hx : c[j]? = some x) : W.cell? ⟨g, j, none⟩ = some x := by
  rw [cell_of_row W g j c t (0, 0) (h.mem i ho)]; exact hx

theorem Kd.free {G : List Nat} {w W : World} {L : List (Nat × Array Value × TypeId)} (h : Kd G w W L) (i j : Nat) {g : Nat} {c : Array Value} {t : TypeId} (ho : L[i]? = some (g, c, t)) : W.frozen? ⟨g, j, none⟩ = false := frozen_of_row W g j c t (h.mem i ho)

theorem Kd.lt {G : List Nat} {w W : World} {L : List (Nat × Array Value × TypeId)} (h : Kd G w W L) (i : Nat) {g : Nat} {c : Array Value} {t : TypeId} (ho : L[i]? = some (g, c, t)) : g < W.heap.size := (Array.getElem?_eq_some_iff.1 (h.mem i ho)).1

theorem Kd.low {G : List Nat} {w W : World} {L : List (Nat × Array Value × TypeId)} (h : Kd G w W L) (i : Nat) {g : Nat} {c : Array Value} {t : TypeId} (ho : L[i]? = some (g, c, t)) : w.heap.size ≤ g := h.high _ (List.mem_of_getElem? ho)

/-- A store into one of them. -/
theorem Kd.set {G : List Nat} {w W : World} {L : List (Nat × Array Value × TypeId)} (h : Kd G w W L) (i j : Nat) {g : Nat} {c : Array Value} {t : TypeId} (ho : L[i]? = some (g, c, t)) (u : Value) : Kd G w (W.setCell ⟨g, j, none⟩ u) (L.set i (g, c.setIfInBounds j u, t)) := by
  have hi : i < L.length := (List.getElem?_eq_some_iff.1 ho).1
  have hg := (List.getElem?_eq_some_iff.1 ho).2
  have hmap : (L.set i (g, c.setIfInBounds j u, t)).map (·.1) = L.map (·.1) := by
    apply List.ext_getElem
    · simp
    · intro k h1 h2
      by_cases hk : k = i
      · subst hk; simp [hg]
      · simp [List.getElem_set, Ne.symm hk]
  have other : ∀ k (hk : k < L.length), k ≠ i → L[k].1 ≠ g := by
    intro k hk hki e
    have h2 := List.pairwise_iff_getElem.1 h.nodup
    have hL : (L.map (·.1)).length = L.length := List.length_map _
    rcases Nat.lt_or_gt_of_ne hki with hlt | hlt
    · have := h2 k i (by omega) (by omega) hlt
      simp [e, hg] at this
    · have := h2 i k (by omega) (by omega) hlt
      simp [e, hg] at this
  refine ⟨h.only.then' ((Below.refl _ _).setCell (h.low i ho) u), fun e he => ?_, fun e he => ?_, by rw [hmap]; exact h.nodup⟩
  · obtain ⟨k, hk, rfl⟩ := List.getElem_of_mem he
    rw [List.length_set] at hk
    by_cases hki : k = i
    · subst hki
      simp only [List.getElem_set_self]
      exact heap_setCell_same W g j c t u (h.mem k ho)
    · rw [List.getElem_set_ne (Ne.symm hki)]
      rw [heap_setCell_other W ⟨g, j, none⟩ _ u (other k hk hki)]
      exact h.hold _ (List.getElem_mem hk)
  · obtain ⟨k, hk, rfl⟩ := List.getElem_of_mem he
    rw [List.length_set] at hk
    by_cases hki : k = i
    · subst hki
      simp only [List.getElem_set_self]
      exact h.low k ho
    · rw [List.getElem_set_ne (Ne.symm hki)]
      exact h.high _ (List.getElem_mem hk)

/-- All that is known of some of them is forgotten. -/
theorem Kd.sub {G : List Nat} {w W : World} {L M : List (Nat × Array Value × TypeId)} (h : Kd G w W L) (hs : M.Sublist L) : Kd G w W M :=
  ⟨h.only, fun e he => h.hold e (hs.subset he), fun e he => h.high e (hs.subset he), h.nodup.sublist (hs.map _)⟩


/-- A draw: the reader's block turns. -/
theorem Kd.drawn {G : List Nat} {w W W' : World} {L : List (Nat × Array Value × TypeId)} (h : Kd G w W L) (ho : Only G W W') (hG : ∀ b ∈ G, b < w.heap.size) : Kd G w W' L :=
  ⟨h.only.trans ho, fun e he => by rw [ho.block _ (Array.getElem?_eq_some_iff.1 (h.hold e he)).1 (fun hb => by have := hG _ hb; have := h.high e he; omega)]; exact h.hold e he, h.high, h.nodup⟩

/-- Blocks above them turn. -/
theorem Kd.far {G : List Nat} {w W W' : World} {L : List (Nat × Array Value × TypeId)} {B : Nat} (h : Kd G w W L) (hb : Below B W W') (hB : w.heap.size ≤ B) (hL : ∀ e ∈ L, e.1 < B) : Kd G w W' L :=
  ⟨h.only.then' (hb.mono hB), fun e he => by rw [hb.block _ (hL e he)]; exact h.hold e he, h.high, h.nodup⟩

/-- Blocks turn that are none of them. -/
theorem Kd.others {G F : List Nat} {w W W' : World} {L : List (Nat × Array Value × TypeId)} (h : Kd G w W L) (ho : Only F W W') (hF : ∀ b ∈ F, b ∈ G ∨ w.heap.size ≤ b) (hL : ∀ e ∈ L, e.1 ∉ F) : Kd G w W' L :=
  ⟨⟨h.only.below.trans ho.below, fun b hb hn => (ho.block b (Nat.lt_of_lt_of_le hb h.only.below.size) (fun hf => (hF b hf).elim hn (fun h1 => by omega))).trans (h.only.block b hb hn)⟩,
    fun e he => by rw [ho.block _ (Array.getElem?_eq_some_iff.1 (h.hold e he)).1 (hL e he)]; exact h.hold e he, h.high, h.nodup⟩

theorem Kd.one (G : List Nat) (w : World) (c : Array Value) (t : TypeId) : Kd G w (w.alloc (.cells c t)) [(w.heap.size, c, t)] := (Kd.start G w).alloc c t

end Go.Proofs.YtajfhalalnlejaaGreat
