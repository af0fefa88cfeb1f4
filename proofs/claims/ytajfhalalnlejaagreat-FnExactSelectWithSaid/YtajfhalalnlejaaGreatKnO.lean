/- Known blocks while others of the call's own turn; any program. -/
import Derived.Test.YtajfhalalnlejaaGreatKd
namespace Go.Proofs.YtajfhalalnlejaaGreat
open Go.RowKit
set_option linter.unusedSimpArgs false
set_option linter.unusedVariables false

/-- Blocks of the call's own turn that are none of them. -/
theorem Kn.others {F : List Nat} {w W W' : World} {L : List (Nat × Array Value × TypeId)} (h : Kn w W L) (ho : Only F W W') (hF : ∀ b ∈ F, w.heap.size ≤ b) (hL : ∀ e ∈ L, e.1 ∉ F) : Kn w W' L :=
  ⟨h.below.trans (ho.toBelow hF h.below.size), fun e he => by rw [ho.block _ (Array.getElem?_eq_some_iff.1 (h.hold e he)).1 (hL e he)]; exact h.hold e he, h.high, h.nodup⟩

/-- What was known ahead of a stretch that turned only blocks of G, and what the stretch made. -/
theorem Kn.joinD {G : List Nat} {w w6 W : World} {L M : List (Nat × Array Value × TypeId)} (h : Kn w w6 L) (y : Kd G w6 W M) (hG : ∀ b ∈ G, w.heap.size ≤ b) (hL : ∀ e ∈ L, e.1 ∉ G) : Kn w W (L ++ M) := by
  have h1 := h.others y.only hG hL
  refine ⟨h1.below, fun e he => ?_, fun e he => ?_, ?_⟩
  · rcases List.mem_append.1 he with he | he
    · exact h1.hold e he
    · exact y.hold e he
  · rcases List.mem_append.1 he with he | he
    · exact h1.high e he
    · exact Nat.le_trans h.below.size (y.high e he)
  · rw [List.map_append, List.nodup_append]
    refine ⟨h1.nodup, y.nodup, fun a ha b hb => ?_⟩
    obtain ⟨e, he, rfl⟩ := List.mem_map.1 ha
    obtain ⟨e2, he2, rfl⟩ := List.mem_map.1 hb
    have h3 : e.1 < w6.heap.size := (Array.getElem?_eq_some_iff.1 (h.hold e he)).1
    have h4 := y.high e2 he2
    omega

end Go.Proofs.YtajfhalalnlejaaGreat
