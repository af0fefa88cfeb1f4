/- A pivot that came in as an argument of a law (promise 3). -/
import Derived.Test.YtoaafklogibfpaaOck
namespace Go.Proofs.Ytoaafklogibfpaa
open Go.RowKit Go.ChangeShapes
set_option linter.unusedSimpArgs false
set_option linter.unusedVariables false
set_option maxRecDepth 100000

theorem open_pv1 {H : Type} {enc : TypeId × Value → H} {W : World} {base : Nat} {v : Value} {d : DataW H} {p : List MemPlace} (hv : Value.okWide Try.prog W .any base 27 v) (h : DataW.Trod enc Try.prog W 0 (fun _ => true) true 27 v d p) :
    ∃ f t : Int, v = .agg #[.int .i64 f, .int .i64 t] ∧ I64 f ∧ I64 t := by
  obtain ⟨v0, v1, y0, y1, n, rfl, _, _, t0, t1⟩ := Joins.open_agg2 Try.underlying27 (by kernel_rfl) (by kernel_rfl) hv h
  obtain ⟨f, hf, _, wf⟩ := DataW.trod_int Try.underlying3 t0
  obtain ⟨t, ht, _, wt⟩ := DataW.trod_int Try.underlying3 t1
  simp at hf ht
  subst hf; subst ht
  have b0 := bounds_i64 wf
  have b1 := bounds_i64 wt
  exact ⟨f, t, rfl, ⟨by omega, by omega⟩, ⟨by omega, by omega⟩⟩

end Go.Proofs.Ytoaafklogibfpaa
