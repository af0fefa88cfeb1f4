/- append([]T{}, x...): onto a new empty row: what comes back lies in a new block, or is the empty row itself. Any program. -/
import Derived.Test.YtepkkeclkdlheaaApp
namespace Go.Proofs.Ytepkkeclkdlheaa
open Go.RowKit Go.ChangeShapes
set_option linter.unusedSimpArgs false
set_option linter.unusedVariables false

theorem append0_wp {P : Program} (W : World) {o : Oper} {a : Act} {K : Act → World → Prop} {Q : Exit → Act → World → Prop} (s x : Operand) (t : TypeId)
    (ho : o.op = .call { callee := .builtin .append, args := #[s, x], argTypes := #[t, t] })
    (e : TypeId) (i : TypeInfo) (z : Value) (size bytes : Nat) (ht : P.underlying t = some (.slice e)) (hi : P.info? e = some i) (hz : i.zero = some z)
    (hsize : i.size = size) (hby : i.bytes = bytes) (hzs : z.cells.size = size) (hsz : 0 < size) (hb16 : bytes ≤ 16)
    (g : Nat) (hs : a.eval s = .slice (some ⟨g, 0, none⟩) 0 0)
    (ad : Option Addr) (m c : Nat) (news : List Value) (hx : a.eval x = .slice ad m c) (hnil : ad = none → m = 0 ∧ c = 0) (hl : news.length = m * size)
    (hnews : ∀ q, ad = some q → ∀ j v, news[j]? = some v → W.cell? (q.add j) = some v) (h1 : ∀ v ∈ news, v.oneCell' = true) (hm : m ≤ 1048577)
    (h : ∀ v' W', Below W.heap.size W W' → ((m = 0 ∧ v' = .slice (some ⟨g, 0, none⟩) 0 0) ∨ W'.ownsRow W.heap.size e size v' m news) → K (a.put o.dst v') W') :
    Oper.wp P o a W K Q := by
  subst hsize
  subst hby
  by_cases hm0 : m = 0
  · subst hm0
    have hn : news = [] := List.eq_nil_of_length_eq_zero (by simpa using hl)
    subst hn
    have hrun : (Builtin.append_ #[t, t] o.type #[.slice (some ⟨g, 0, none⟩) 0 0, .slice ad 0 c]).run P W = .ok (.slice (some ⟨g, 0, none⟩) 0 0) W := by
      cases ad <;> simp [Builtin.append_, run_underlying ht, sizeOf, typeInfo, hi, Builtin.lenOf, Builtin.firstCells, storeCells, loadCells, loadCellsFrom]
    unfold Oper.wp
    simp [execOp, ho, resolve, invoke, builtin, hs, hx, hrun, Result.andThen]
    exact h _ _ (Below.refl _ _) (.inl ⟨rfl, rfl⟩)
  · cases ad with
    | none => exact absurd (hnil rfl).1 hm0
    | some q =>
      have hbb : (0 + m) * i.bytes ≤ 140737488355328 := by
        have : (0 + m) * i.bytes ≤ 1048577 * 16 := Nat.mul_le_mul (by omega) hb16
        omega
      have hr := run_append_grow (P := P) (w := W) t o.type e i z ht hi hz ⟨g, 0, none⟩ 0 0 [] (by simp) (by simp) q m c news hl (hnews q rfl) (by omega) (by omega) (growslice_fits (by omega) hbb)
      have hge := grownCap_ge W (0 + m) 0 e
      have hcm : grownCap W (0 + m) 0 e ≤ maxLen := grownCap_le_maxLen W (0 + m) 0 e (by unfold maxLen; omega)
      simp only [Nat.zero_add] at hr hge hcm
      unfold Oper.wp execOp
      simp only [ho, resolve, invoke, builtin, Sem.run_bind, Sem.run_pure, Result.andThen_ok, List.map_toArray, List.map_cons, List.map_nil, hs, hx, hr]
      refine h _ _ ⟨rfl, rfl, rfl, by simp, fun k hk => Below.heap_alloc W.drew _ k hk⟩ (.inr ?_)
      refine ⟨hl, .inr ⟨W.heap.size, _, _, rfl, Nat.le_refl _, heap_alloc_new W.drew _, hge, hcm, ?_, ?_⟩⟩
      · simp only [Array.size_append, List.size_toArray, size_zeroCells, hzs, hl, List.length_nil, Nat.zero_add]
        rw [← Nat.add_mul]
        congr 1
        omega
      · simp only [Array.toList_append, List.append_assoc]
        rw [← hl]
        simp

end Go.Proofs.Ytepkkeclkdlheaa
