/- Drawn numbers, lists and ranges, by what may turn: the reader's block alone. -/
import Derived.Test.YtdjhnamofmcmjaaDraw
import Derived.Test.YtdjhnamofmcmjaaOwn
import Derived.Test.YtdjhnamofmcmjaaScan
import Derived.Deep.AppendLies
namespace Go.Proofs.Ytdjhnamofmcmjaa
open Go.RowKit Go.ChangeShapes
set_option linter.unusedSimpArgs false
set_option linter.unusedVariables false
set_option maxRecDepth 100000

theorem grown_only {w w' : World} {g : Nat} (h : w.grownBy w' (some g)) : Only [g] w w' :=
  ⟨⟨h.os, h.tape, h.output, h.size, fun k hk => absurd hk (Nat.not_lt_zero k)⟩, fun k hk hn => h.block k hk (fun e => hn (by simp [Option.some.inj e]))⟩

theorem Only.then' {F : List Nat} {w a c : World} (h : Only F w a) (hb : Below w.heap.size a c) : Only F w c :=
  ⟨h.below.trans (hb.mono (Nat.zero_le _)), fun b hlt hn => (hb.block b hlt).trans (h.block b hlt hn)⟩

theorem Only.low {F : List Nat} {w w' : World} (h : Only F w w') {B : Nat} (hF : ∀ b ∈ F, B ≤ b) (hB : B ≤ w.heap.size) : Below B w w' := h.toBelow hF hB

theorem Is.only {w w' : World} {base : Nat} {e : TypeId} {v : Value} {l : List Int} {F : List Nat} (h : Is w base e v l) (ho : Only F w w') (hF : ∀ b ∈ F, b < base) : Is w' base e v l := by
  refine ⟨h.1, ?_⟩
  rcases h.2 with h2 | ⟨g, cap, cur, hv, hb, hg, r⟩
  · exact .inl h2
  · exact .inr ⟨g, cap, cur, hv, hb, by rw [ho.block g (Array.getElem?_eq_some_iff.1 hg).1 (fun hf => by have := hF g hf; omega)]; exact hg, r⟩

/-- The cells of a list of literals, just made. -/
theorem litsI (w : World) (L : List Int) (t : TypeId) : ∀ j (hj : j < L.length), (w.alloc (.cells (L.map (Value.int .i64)).toArray t)).cell? ⟨w.heap.size, j, none⟩ = some (.int .i64 L[j]) := by
  intro j hj
  rw [World.cell?_alloc_mark]
  simp [hj]
theorem litsS (w : World) (L : List ByteArray) (t : TypeId) : ∀ j (hj : j < L.length), (w.alloc (.cells (L.map Value.string).toArray t)).cell? ⟨w.heap.size, j, none⟩ = some (.string L[j]) := by
  intro j hj
  rw [World.cell?_alloc_mark]
  simp [hj]

theorem wide_pos {x : Int} (h : x ∈ [3, 10, 30, 1000]) : x = 3 ∨ x = 10 ∨ x = 30 ∨ x = 1000 := by simpa using h

end Go.Proofs.Ytdjhnamofmcmjaa
