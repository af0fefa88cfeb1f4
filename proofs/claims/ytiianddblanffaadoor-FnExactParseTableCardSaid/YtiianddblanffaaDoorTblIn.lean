/- A table that came in as an argument of a law. -/
import Derived.Test.YtiianddblanffaaDoorColTo
import Derived.Deep.SlicePairs
import Derived.Lib.SmallJoins
namespace Go.Proofs.YtiianddblanffaaDoor
open Go.RowKit Go.ChangeShapes
set_option linter.unusedSimpArgs false
set_option linter.unusedVariables false
set_option maxRecDepth 100000

theorem ints_in {H : Type} {enc : TypeId × Value → H} {W : World} {fuel : Nat} {v : Value} {x : DataW H × List MemPlace} (hf : DataW.trod enc Tryd.prog W 0 (fun _ => true) true fuel 40 [v] = some x) : ∃ l, Ints W W.heap.size v l := by
  rcases open_ints Tryd.underlying40 Tryd.underlying3 (by kernel_rfl) hf with ⟨hcs, _⟩ | ⟨x, len, cap, zs, hcs, _, hl, hm, hz, _, hcell, hwz⟩
  · simp at hcs
    subst hcs
    exact ⟨[], _, _, rfl, by simp, by simp, fun j hj => by simp at hj⟩
  · simp at hcs
    subst hcs
    have hz' : zs.length = cap := by simpa using hz
    have htl : (zs.take len).length = len := by simp; omega
    refine ⟨zs.take len, some x, cap, by rw [htl], by unfold maxLen at hm; omega, ?_, ?_⟩
    · intro y hy
      have := bounds_i64 (hwz y (List.mem_of_mem_take hy))
      exact ⟨by omega, by omega⟩
    · intro j hj
      have hj2 : j < len := by omega
      obtain ⟨b, off, spot⟩ := x
      have hspot : spot = none := by simpa [Addr.add] using World.cell?_spot (hcell 0 (by omega))
      subst hspot
      have hc := hcell j (by omega)
      rw [Addr.add_lit] at hc
      refine ⟨b, off, rfl, World.block_lt_of_cell? _ _ hc, ?_⟩
      rw [hc, List.getElem_take, List.getD_eq_getElem?_getD, List.getElem?_eq_getElem (by omega)]
      rfl

theorem cols_in {H : Type} {enc : TypeId × Value → H} {W : World} {fuel : Nat} {v : Value} {x : DataW H × List MemPlace} (hf : DataW.trod enc Tryd.prog W 0 (fun _ => true) true fuel 22 [v] = some x) : ∃ cs, Cols W W.heap.size v cs := by
  rcases Go.Deep.open_slice_pairs Tryd.underlying22 Tryd.underlying71 (by kernel_rfl) rfl rfl (by kernel_rfl) (by kernel_rfl) hf with ⟨hcs, _⟩ | ⟨a, len, cap, m, n, V0, V1, D0, D1, P0, P1, hcs, _, hl, hm, hmm, _, hall⟩
  · simp at hcs
    subst hcs
    exact ⟨[], _, _, rfl, by simp, fun j hj => by simp at hj⟩
  · simp at hcs
    subst hcs
    have hmc : m = cap := by simpa using hmm
    have each : ∀ i, ∃ c : Col, i < len → V0 i = .string c.1 ∧ c.1.size ≤ maxLen ∧ Ints W W.heap.size (V1 i) c.2 := by
      intro i
      by_cases hi : i < len
      · obtain ⟨_, _, t0, t1⟩ := hall i (by omega)
        obtain ⟨s, hs, _, hsz⟩ := DataW.trod_string Tryd.underlying9 t0
        obtain ⟨l, hl⟩ := ints_in t1
        simp at hs
        exact ⟨(s, l), fun _ => ⟨hs, hsz, hl⟩⟩
      · exact ⟨(ByteArray.empty, []), fun h => absurd h hi⟩
    obtain ⟨f, hfc⟩ := Classical.axiomOfChoice each
    have hlen : ((List.range len).map f).length = len := by simp
    refine ⟨(List.range len).map f, some a, cap, by rw [hlen], by unfold maxLen at hm; omega, ?_⟩
    intro j hj
    have hj2 : j < len := by omega
    obtain ⟨q1, q2, q3⟩ := hfc j hj2
    obtain ⟨b, off, spot⟩ := a
    obtain ⟨k0, k1, _, _⟩ := hall j (by omega)
    have hspot : spot = none := by simpa [Addr.add] using World.cell?_spot (hall 0 (by omega)).1
    subst hspot
    rw [Addr.add_lit] at k0 k1
    have hb := World.block_lt_of_cell? _ _ k0
    rw [q1] at k0
    unfold maxLen at q2
    refine ⟨b, off, V1 j, rfl, hb, ?_, by rw [Nat.add_assoc]; exact k1, ?_, ?_⟩
    · rw [k0]; simp
    · simp; omega
    · simpa using q3

theorem open_tbl {H : Type} {enc : TypeId × Value → H} {W : World} {base : Nat} {v : Value} {d : DataW H} {p : List MemPlace} (hv : Value.okWide Tryd.prog W .any base 24 v) (h : DataW.Trod enc Tryd.prog W 0 (fun _ => true) true 24 v d p) : ∃ cs, Tbl W W.heap.size v cs := by
  obtain ⟨cs, rfl, hsz⟩ := WideShapes.okWide_struct Tryd.underlying24 hv
  have h1 : cs.size = 1 := hsz.trans (by kernel_rfl)
  obtain ⟨c0, rfl⟩ : ∃ c, cs = #[c] := by
    obtain ⟨l⟩ := cs
    match l, h1 with
    | [c], _ => exact ⟨c, rfl⟩
  obtain ⟨fuel, hf⟩ := h
  obtain ⟨y0, n, _, _, t0⟩ := trod_struct1 Tryd.underlying24 hf
  have e : Tryd.prog.cellsOf 22 = 1 := by kernel_rfl
  obtain ⟨l, hl⟩ := cols_in (v := c0) (W := W) (enc := enc) (fuel := n) (x := y0) (by simpa [Value.cells, e] using t0)
  exact ⟨l, c0, rfl, hl⟩

end Go.Proofs.YtiianddblanffaaDoor
