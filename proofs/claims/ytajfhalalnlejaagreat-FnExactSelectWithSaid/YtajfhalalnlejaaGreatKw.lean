/- Known blocks of a drawn region beside a fact that no new memory breaks (Kw): for regions with calls and several makings. Any program. -/
import Derived.Test.YtajfhalalnlejaaGreatKnO
import Derived.Test.YtajfhalalnlejaaGreatKn
namespace Go.Proofs.YtajfhalalnlejaaGreat
open Go.RowKit
set_option linter.unusedSimpArgs false
set_option linter.unusedVariables false

theorem Kd.ne {G : List Nat} {w W : World} {L : List (Nat × Array Value × TypeId)} (h : Kd G w W L) (i j : Nat) {g g' : Nat} {c c' : Array Value} {t t' : TypeId} (hi : L[i]? = some (g, c, t)) (hj : L[j]? = some (g', c', t')) (hij : i ≠ j) : g ≠ g' := by
  obtain ⟨h1, e1⟩ := List.getElem?_eq_some_iff.1 hi
  obtain ⟨h2, e2⟩ := List.getElem?_eq_some_iff.1 hj
  intro he
  have hn := h.nodup
  have q := List.pairwise_iff_getElem.1 hn
  have hL : (L.map (·.1)).length = L.length := List.length_map _
  rcases Nat.lt_or_gt_of_ne hij with hlt | hlt
  · have := q i j (by omega) (by omega) hlt
    simp [e1, e2, he] at this
  · have := q j i (by omega) (by omega) hlt
    simp [e1, e2, he] at this

/-- A fact that holds now and goes on to hold whatever new memory is made. -/
def Bl (F : World → Prop) (W : World) : Prop := ∀ W', Below W.heap.size W W' → F W'
theorem Bl.now {F : World → Prop} {W : World} (h : Bl F W) : F W := h W (Below.refl _ _)
theorem Bl.up {F : World → Prop} {W W' : World} (h : Bl F W) (hb : Below W.heap.size W W') : Bl F W' := fun X hX => h X (hb.trans (hX.mono hb.size))

/-- Since the region began (world w) of what was there only blocks of G have turned; each block of L, made since, holds what L says; F holds and goes on to. -/
structure Kw (F : World → Prop) (G : List Nat) (w W : World) (L : List (Nat × Array Value × TypeId)) : Prop where
  kd : Kd G w W L
  hold : Bl F W

theorem Kw.now {F : World → Prop} {G : List Nat} {w W : World} {L : List (Nat × Array Value × TypeId)} (h : Kw F G w W L) : F W := h.hold.now
theorem Kw.start {F : World → Prop} (G : List Nat) (w : World) (h : Bl F w) : Kw F G w w [] := ⟨Kd.start G w, h⟩
theorem Kw.up {F : World → Prop} {G : List Nat} {w W W' : World} {L : List (Nat × Array Value × TypeId)} (h : Kw F G w W L) (hb : Below W.heap.size W W') : Kw F G w W' L := ⟨h.kd.up hb, h.hold.up hb⟩
theorem Kw.alloc {F : World → Prop} {G : List Nat} {w W : World} {L : List (Nat × Array Value × TypeId)} (h : Kw F G w W L) (c : Array Value) (t : TypeId) : Kw F G w (W.alloc (.cells c t)) (L ++ [(W.heap.size, c, t)]) :=
  ⟨h.kd.alloc c t, h.hold.up (below1 W _)⟩
theorem Kw.drew {F : World → Prop} {G : List Nat} {w W : World} {L : List (Nat × Array Value × TypeId)} (h : Kw F G w W L) : Kw F G w W.drew L := ⟨h.kd.drew, h.hold.up (Below.refl _ _).drew⟩
/-- A call that makes new memory alone, with a new fact. -/
theorem Kw.next {F F' : World → Prop} {G : List Nat} {w W W' : World} {L : List (Nat × Array Value × TypeId)} (h : Kw F G w W L) (hb : Below W.heap.size W W') (hF : Bl F' W') : Kw F' G w W' L := ⟨h.kd.up hb, hF⟩
/-- A call that turns blocks of G, with a new fact. -/
theorem Kw.turn {F F' : World → Prop} {G : List Nat} {w W W' : World} {L : List (Nat × Array Value × TypeId)} (h : Kw F G w W L) (ho : Only G W W') (hG : ∀ b ∈ G, b < w.heap.size) (hF : Bl F' W') : Kw F' G w W' L := ⟨h.kd.drawn ho hG, hF⟩
theorem Kw.turnM {F F' : World → Prop} {G : List Nat} {w W W' : World} {L : List (Nat × Array Value × TypeId)} (h : Kw F G w W L) (ho : Only G W W') (hG : ∀ b ∈ G, b < w.heap.size) (hF : Bl F' W') : Kw F' G w W' L ∧ ∀ e ∈ L, e.1 < W.heap.size :=
  ⟨h.turn ho hG hF, fun e he => (Array.getElem?_eq_some_iff.1 (h.kd.hold e he)).1⟩
theorem Kw.lt {F : World → Prop} {G : List Nat} {w W : World} {L : List (Nat × Array Value × TypeId)} (h : Kw F G w W L) : w.heap.size ≤ W.heap.size := h.kd.only.below.size

end Go.Proofs.YtajfhalalnlejaaGreat
