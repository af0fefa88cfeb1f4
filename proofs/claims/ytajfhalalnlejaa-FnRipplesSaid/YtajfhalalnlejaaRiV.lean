/- append onto a full slice that is only read, as a step of a drawn region (promise 7). -/
import Derived.Test.YtajfhalalnlejaaRpF
import Derived.Test.YtajfhalalnlejaaKv
import Derived.Deep.RegionLawGrows
import Derived.Test.YtajfhalalnlejaaCpy
namespace Go.Proofs.Ytajfhalalnlejaa
open Go.RowKit Go.ChangeShapes
set_option linter.unusedSimpArgs false
set_option linter.unusedVariables false
set_option maxRecDepth 100000

theorem Ints.full {w : World} {B : Nat} {a : Option Addr} {n c : Nat} {l : List Int} (h : Ints w B (.slice a n c) l) : Ints w B (.slice a n n) l := by
  obtain ⟨a', c', e, h1, h2, h3⟩ := h
  simp only [Value.slice.injEq] at e
  obtain ⟨rfl, rfl, -⟩ := e
  exact ⟨_, _, rfl, h1, h2, h3⟩

theorem step_grow {ops : Array Oper} {o : Oper} {a : Act} {W : World} {K : Act → World → Prop} {Q : Exit → Act → World → Prop} {E : Prop} (hgd : o.guard = none) (s x : Operand)
    (ho : o.op = .call { callee := .builtin .append, args := #[s, x], argTypes := #[22, 22] }) (ao : Option Addr) (n B : Nat) (l : List Int) (hn : n = l.length) (hI : Ints W B (.slice ao n n) l) (hs : a.eval s = .slice ao n n)
    (b : Int) (c g : Nat) (hx : a.eval x = .slice (some ⟨g, 0, none⟩) 1 c) (hg : W.heap[g]? = some (.cells #[.int .i64 b] 3 (0, 0))) (hlen : n ≤ 1048576)
    (hK : ∀ g' k' w', Ow w' (.slice (some ⟨g', 0, none⟩) (n + 1) k') (l ++ [b]) g' (g' + 1) → W.heap.size ≤ g' → Below W.heap.size W w' → K (a.put o.dst (.slice (some ⟨g', 0, none⟩) (n + 1) k')) w') :
    if Region.wanted o (yielded ops a.tmps) = true then Oper.wp Try.prog o a W K Q else E := by
  subst hn
  obtain ⟨i0, hi0, hi1, hi2, hi3⟩ := info_parts infoI
  have hlv : (intVs l).length = l.length := by simp [intVs]
  refine step_append_grows hgd s x 22 ho 3 i0 _ 1 8 Try.underlying22 hi0 hi1 hi2 hi3 rfl (by decide) ao l.length l.length (intVs l) hs ?_ (by rw [hlv, Nat.mul_one]) (ints_news hI) ⟨g, 0, none⟩ 1 c [.int .i64 b] hx rfl ?_ ?_ (by omega) (by unfold maxLen; omega) (by omega) ?_
  · intro h
    subst h
    have := ints_nil hI
    exact ⟨this, this⟩
  · intro j u hj
    match j, hj with
    | 0, hj =>
      simp only [List.getElem?_cons_zero, Option.some.injEq] at hj
      subst hj
      rw [Addr.add_lit]
      exact cell_of_row W g 0 _ _ (0, 0) hg
  · intro u hu; simp at hu; subst hu; rfl
  · intro v' w' hown hgrow
    rcases hown.2 with ⟨_, hn⟩ | ⟨g', cap, cur, e, hb, hg', hnc, hcm, hcs, htk⟩
    · omega
    subst e
    have hlt := (Array.getElem?_eq_some_iff.1 hg').1
    refine hK g' cap w' ⟨⟨[g'], ⟨?_, rfl⟩, by intro b hb; simp at hb; omega⟩, by omega, hlt⟩ hb ((Below.refl _ W).grown hgrow (Nat.le_refl _) (fun k hk => by cases hk))
    refine ⟨by simp [intVs], .inr ⟨g', cap, cur, by simp, Nat.zero_le _, hg', by simpa using hnc, hcm, hcs, ?_⟩⟩
    simpa [intVs] using htk

/-- The same, the element's block known by a list. -/
theorem step_growK {ops : Array Oper} {o : Oper} {a : Act} {W : World} {K : Act → World → Prop} {Q : Exit → Act → World → Prop} {E : Prop} (hgd : o.guard = none) (s x : Operand)
    (ho : o.op = .call { callee := .builtin .append, args := #[s, x], argTypes := #[22, 22] }) (ao : Option Addr) (n B : Nat) (l : List Int) (w0 : World) (L : List (Nat × Array Value × TypeId)) (hn : n = l.length) (hk : Kn w0 W L) (hI : Kn w0 W L → Ints W B (.slice ao n n) l) (hs : a.eval s = .slice ao n n)
    (b : Int) (c g : Nat) (hg : (g, #[.int .i64 b], 3) ∈ L) (hx : a.eval x = .slice (some ⟨g, 0, none⟩) 1 c) (hlen : n ≤ 1048576)
    (hK : ∀ g' k' w', Ow w' (.slice (some ⟨g', 0, none⟩) (n + 1) k') (l ++ [b]) g' (g' + 1) → W.heap.size ≤ g' → Below W.heap.size W w' → K (a.put o.dst (.slice (some ⟨g', 0, none⟩) (n + 1) k')) w') :
    if Region.wanted o (yielded ops a.tmps) = true then Oper.wp Try.prog o a W K Q else E :=
  step_grow hgd s x ho ao n B l hn (hI hk) hs b c g hx (hk.hold _ hg) hlen hK

theorem Kn.pick {w W : World} {L : List (Nat × Array Value × TypeId)} (h : Kn w W L) {e : Nat × Array Value × TypeId} (he : e ∈ L) : Kn w W [e] :=
  ⟨h.below, fun x hx => by simp at hx; subst hx; exact h.hold _ he, fun x hx => by simp at hx; subst hx; exact h.high _ he, by simp⟩

end Go.Proofs.Ytajfhalalnlejaa
