/- append(s, x...) onto an empty slice of the call's own, at the operation: what comes back, and in which block it lies. Any program. -/
import Derived.Test.YtepkkeclkdlheaaAny
import Derived.Maps.AppendAt
import Derived.Laws.AppendOwnNone
namespace Go.Proofs.Ytepkkeclkdlheaa
open Go.RowKit Go.ChangeShapes
set_option linter.unusedSimpArgs false
set_option linter.unusedVariables false

theorem append_wp {P : Program} (W : World) {o : Oper} {a : Act} {K : Act → World → Prop} {Q : Exit → Act → World → Prop} (s x : Operand) (t : TypeId)
    (ho : o.op = .call { callee := .builtin .append, args := #[s, x], argTypes := #[t, t] })
    (base : Nat) (e : TypeId) (i : TypeInfo) (z : Value) (size bytes : Nat) (ht : P.underlying t = some (.slice e)) (hi : P.info? e = some i) (hz : i.zero = some z)
    (hsize : i.size = size) (hby : i.bytes = bytes) (hzs : z.cells.size = size) (hsz : 0 < size) (hb16 : bytes ≤ 16)
    (u : Value) (hs : a.eval s = u) (hu : W.ownsRow base e size u 0 []) (g : Nat) (hg : u.ownBlock = some g)
    (ad : Option Addr) (m c : Nat) (news : List Value) (hx : a.eval x = .slice ad m c) (hnil : ad = none → m = 0 ∧ c = 0) (hl : news.length = m * size)
    (hnews : ∀ q, ad = some q → ∀ j v, news[j]? = some v → W.cell? (q.add j) = some v) (h1 : ∀ v ∈ news, v.oneCell' = true) (hm : m ≤ 1048576) (hbase : base ≤ W.heap.size)
    (h : ∀ v' W', W'.ownsRow base e size v' m news → W.grownBy W' (some g) → (v'.ownBlock = some g ∨ v'.ownBlock = some W.heap.size) → K (a.put o.dst v') W') :
    Oper.wp P o a W K Q := by
  cases ad with
  | none =>
    obtain ⟨rfl, rfl⟩ := hnil rfl
    have hn : news = [] := List.eq_nil_of_length_eq_zero (by simpa using hl)
    subst hn
    have hrun := run_append_owned_none (P := P) (w := W) base t o.type e i size ht hi u 0 [] hu
    unfold Oper.wp
    simp [execOp, ho, resolve, invoke, builtin, hs, hx, hrun, Result.andThen]
    exact h _ _ hu ⟨rfl, rfl, rfl, Nat.le_refl _, fun _ _ _ => rfl⟩ (.inl hg)
  | some q =>
    have hbb : (0 + m) * bytes ≤ 140737488355328 := by
      have : (0 + m) * bytes ≤ 1048576 * 16 := Nat.mul_le_mul (by omega) hb16
      omega
    obtain ⟨v', w', hr, h2, h3, -, h5⟩ := run_append_own_at (P := P) W base t o.type e i z size bytes ht hi hz hsize hby hzs hsz u 0 [] hu q m c news hl (hnews q rfl) h1 (by unfold maxLen; omega) hbb hbase
    rw [Nat.zero_add, List.nil_append] at h2
    rw [hg] at h3 h5
    unfold Oper.wp execOp
    simp only [ho, resolve, invoke, builtin, Sem.run_bind, Sem.run_pure, Result.andThen_ok, List.map_toArray, List.map_cons, List.map_nil, hs, hx, hr]
    exact h v' w' h2 h3 h5

end Go.Proofs.Ytepkkeclkdlheaa
