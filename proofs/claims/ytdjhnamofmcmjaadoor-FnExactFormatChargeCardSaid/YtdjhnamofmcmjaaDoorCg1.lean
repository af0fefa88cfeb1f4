/- A charge that came in as an argument of a law (promise 6). -/
import Derived.Test.YtdjhnamofmcmjaaDoorCg
namespace Go.Proofs.YtdjhnamofmcmjaaDoor
open Go.RowKit Go.ChangeShapes Go.WideShapes
set_option linter.unusedSimpArgs false
set_option linter.unusedVariables false
set_option maxRecDepth 100000

/-- A charge that came in as an argument of a law. -/
theorem open_chg1 {H : Type} {enc : TypeId × Value → H} {W : World} {base : Nat} {v : Value} {d : DataW H} {p : List MemPlace} (hv : Value.okWide Tryd.prog W .any base 23 v) (h : DataW.Trod enc Tryd.prog W 0 (fun _ => true) true 23 v d p) :
    ∃ c : Chg, v = .agg #[.int .i64 c.q, .int .i64 c.v, .int .i64 c.a, .int .i64 c.b, .int .i64 c.n] ∧ c.Ok := by
  have ce : Tryd.prog.cellsOf 23 = 5 := by kernel_rfl
  have he : ∃ f0 f1 f2 f3 f4 : Field, Tryd.prog.underlying 23 = some (.struct #[f0, f1, f2, f3, f4]) ∧ (f0.offset = 0 ∧ f1.offset = 1 ∧ f2.offset = 2 ∧ f3.offset = 3 ∧ f4.offset = 4) ∧ (f0.type = 3 ∧ f1.type = 3 ∧ f2.type = 3 ∧ f3.type = 3 ∧ f4.type = 3) :=
    ⟨_, _, _, _, _, Tryd.underlying23, ⟨rfl, rfl, rfl, rfl, rfl⟩, rfl, rfl, rfl, rfl, rfl⟩
  have ci : Tryd.prog.cellsOf 3 = 1 := by kernel_rfl
  obtain ⟨f0, f1, f2, f3, f4, hu, ⟨o0, o1, o2, o3, o4⟩, e0, e1, e2, e3, e4⟩ := he
  obtain ⟨cs, rfl, hsz⟩ := okWide_struct hu hv
  obtain ⟨x0, x1, x2, x3, x4, rfl⟩ : ∃ x0 x1 x2 x3 x4, cs = #[x0, x1, x2, x3, x4] := by
    obtain ⟨l⟩ := cs
    match l, hsz.trans ce with
    | [x0, x1, x2, x3, x4], _ => exact ⟨_, _, _, _, _, rfl⟩
  obtain ⟨fuel, hf⟩ := h
  obtain ⟨xs, k, hk, hxy, _, hxl, hx⟩ := DataW.trod_struct hu hf
  match xs, hxl with
  | [y0, y1, y2, y3, y4], _ =>
    have g0 := hx 0 f0 rfl
    have g1 := hx 1 f1 rfl
    have g2 := hx 2 f2 rfl
    have g3 := hx 3 f3 rfl
    have g4 := hx 4 f4 rfl
    rw [o0, e0, ci] at g0
    rw [o1, e1, ci] at g1
    rw [o2, e2, ci] at g2
    rw [o3, e3, ci] at g3
    rw [o4, e4, ci] at g4
    simp [Value.cells] at g0 g1 g2 g3 g4
    obtain ⟨z0, hz0, _, wz0⟩ := DataW.trod_int Tryd.underlying3 g0
    obtain ⟨z1, hz1, _, wz1⟩ := DataW.trod_int Tryd.underlying3 g1
    obtain ⟨z2, hz2, _, wz2⟩ := DataW.trod_int Tryd.underlying3 g2
    obtain ⟨z3, hz3, _, wz3⟩ := DataW.trod_int Tryd.underlying3 g3
    obtain ⟨z4, hz4, _, wz4⟩ := DataW.trod_int Tryd.underlying3 g4
    simp at hz0 hz1 hz2 hz3 hz4
    subst hz0; subst hz1; subst hz2; subst hz3; subst hz4
    have b0 := bounds_i64 wz0
    have b1 := bounds_i64 wz1
    have b2 := bounds_i64 wz2
    have b3 := bounds_i64 wz3
    have b4 := bounds_i64 wz4
    have i0 : I64 z0 := ⟨by omega, by omega⟩
    have i1 : I64 z1 := ⟨by omega, by omega⟩
    have i2 : I64 z2 := ⟨by omega, by omega⟩
    have i3 : I64 z3 := ⟨by omega, by omega⟩
    have i4 : I64 z4 := ⟨by omega, by omega⟩
    exact ⟨⟨z0, z1, z2, z3, z4⟩, rfl, i0, i1, i2, i3, i4⟩

end Go.Proofs.YtdjhnamofmcmjaaDoor
