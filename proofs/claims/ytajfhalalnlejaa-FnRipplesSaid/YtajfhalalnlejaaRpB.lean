/- Appending to a row of a column of the call's own; what RippleInsert and RippleDelete return (promise 7). -/
import Derived.Test.YtajfhalalnlejaaRpA
namespace Go.Proofs.Ytajfhalalnlejaa
open Go.RowKit Go.ChangeShapes
set_option linter.unusedSimpArgs false
set_option linter.unusedVariables false
set_option maxRecDepth 100000

/-- A column of the call's own, a number and a truth are returned; nothing that was there has turned. -/
def RetRi (w : World) (l r : List Int) (ps : List Pv) (n : Nat) (b : Bool) (e : Ending) (w' : World) : Prop := ∃ x y z lo hi n1 h1 n2 h2 n3 h3, e = .returned (.tuple #[.agg #[x, y, z], .int .i64 (n : Int), .bool b]) ∧ w.heap.size ≤ lo ∧ hi ≤ w'.heap.size ∧ OC w' x y z l r ps lo hi n1 h1 n2 h2 n3 h3 ∧ Below w.heap.size w w'

theorem ow_append (W : World) {ops : Array Oper} {rest : List Oper} {o : Oper} {a : Act} {Q : Exit → Act → World → Prop} (hgd : o.guard = none) (s x : Operand)
    (ho : o.op = .call { callee := .builtin .append, args := #[s, x], argTypes := #[22, 22] })
    (v : Value) (l : List Int) (lo hi : Nat) (hown : Ow W v l lo hi) (hs : a.eval s = v) (b : Int) (c : Nat)
    (hx : a.eval x = .slice (some ⟨W.heap.size, 0, none⟩) 1 c) (hlen : l.length < 1099511627776)
    (h : ∀ g cap w' n1 h1, Ow w' (.slice (some ⟨g, 0, none⟩) (l ++ [b]).length cap) (l ++ [b]) n1 h1 → (n1 = lo ∧ h1 = hi ∨ W.heap.size ≤ n1) → Trn (fun k => lo ≤ k ∧ k < hi) W w' → W.heap.size < w'.heap.size → wpList Try.prog ops Q rest (a.put o.dst (.slice (some ⟨g, 0, none⟩) (l ++ [b]).length cap)) w') :
    wpList Try.prog ops Q (o :: rest) a (W.alloc (.cells #[.int .i64 b] 3)) := by
  obtain ⟨⟨F, ho1, hF⟩, hle, htop⟩ := hown
  refine oi_append W hgd s x 22 ho 3 Try.underlying22 infoI v l F ho1 hs b c hx hlen ?_
  intro g cap w' q1 q2 q3 q4
  have e : l.length + 1 = (l ++ [b]).length := by simp
  rw [e] at q1 ⊢
  have s : Trn (fun k => lo ≤ k ∧ k < hi) W w' := ⟨F, q3, hF⟩
  rcases q2 with q2 | q2
  · exact h g cap w' lo hi ⟨⟨[g], q1, by simpa using hF g q2⟩, hle, Nat.le_trans htop q3.below.size⟩ (.inl ⟨rfl, rfl⟩) s q4
  · exact h g cap w' W.heap.size w'.heap.size ⟨⟨[g], q1, by simpa using And.intro q2 (q1.lt g (by simp))⟩, Nat.le_of_lt q4, Nat.le_refl _⟩ (.inr (Nat.le_refl _)) s q4

theorem O3.appX {W w' : World} {x y z x' : Value} {S : RP} {l' : List Int} {n1 h1 n2 h2 n3 h3 m1 k1 : Nat} (h : O3 W x y z S n1 h1 n2 h2 n3 h3) (ho : Ow w' x' l' m1 k1) (hn : m1 = n1 ∧ k1 = h1 ∨ W.heap.size ≤ m1) (s : Trn (fun k => n1 ≤ k ∧ k < h1) W w') :
    O3 w' x' y z ⟨l', S.r, S.ps, S.h, S.n⟩ m1 k1 n2 h2 n3 h3 := by
  have a := h.apart
  have t2 := h.y.top
  have t3 := h.z.top
  exact ⟨ho, h.y.trn s fun b p1 p2 e => by omega, h.z.trn s fun b p1 p2 e => by omega, by omega⟩
theorem O3.appY {W w' : World} {x y z y' : Value} {S : RP} {r' : List Int} {n1 h1 n2 h2 n3 h3 m1 k1 : Nat} (h : O3 W x y z S n1 h1 n2 h2 n3 h3) (ho : Ow w' y' r' m1 k1) (hn : m1 = n2 ∧ k1 = h2 ∨ W.heap.size ≤ m1) (s : Trn (fun k => n2 ≤ k ∧ k < h2) W w') :
    O3 w' x y' z ⟨S.l, r', S.ps, S.h, S.n⟩ n1 h1 m1 k1 n3 h3 := by
  have a := h.apart
  have t2 := h.x.top
  have t3 := h.z.top
  exact ⟨h.x.trn s fun b p1 p2 e => by omega, ho, h.z.trn s fun b p1 p2 e => by omega, by omega⟩

/-- All but the last of owned integers. -/
theorem Ow.takeN {w : World} {g n c k : Nat} {l : List Int} {lo hi : Nat} (h : Ow w (.slice (some ⟨g, 0, none⟩) n c) l lo hi) (hk : k ≤ l.length) : Ow w (.slice (some ⟨g, 0, none⟩) k c) (l.take k) lo hi := by
  obtain ⟨⟨F, ⟨o, rfl⟩, hF⟩, hle, htop⟩ := h
  refine ⟨⟨_, ⟨?_, rfl⟩, hF⟩, hle, htop⟩
  have hlen : (l.take k).length = k := by simp; omega
  rcases o.2 with ⟨e, hn⟩ | ⟨g', cap', cur, e, hb, hg, hnc, hcm, hcs, htk⟩
  · cases e
  simp only [Value.slice.injEq, Option.some.injEq, Addr.mk.injEq, and_true, true_and] at e
  obtain ⟨rfl, -, rfl⟩ := e
  refine ⟨by simp [intVs], .inr ⟨g, c, cur, by rw [hlen], hb, hg, by rw [hlen]; omega, hcm, hcs, ?_⟩⟩
  rw [hlen, Nat.mul_one]
  rw [Nat.mul_one] at htk
  have e2 : intVs (l.take k) = (intVs l).take k := by simp [intVs]
  rw [e2, ← htk, List.take_take, Nat.min_eq_left hk]

theorem O3.takeX {w : World} {y z : Value} {S : RP} {g n c a n1 h1 n2 h2 n3 h3 : Nat} (h : O3 w (.slice (some ⟨g, 0, none⟩) n c) y z S n1 h1 n2 h2 n3 h3) (ha : a + 1 = n) : O3 w (.slice (some ⟨g, 0, none⟩) a c) y z ⟨S.l.take a, S.r, S.ps, S.h, S.n⟩ n1 h1 n2 h2 n3 h3 := by
  obtain ⟨_, _, e⟩ := h.x.form
  simp only [Value.slice.injEq] at e
  exact ⟨h.x.takeN (by omega), h.y, h.z, h.apart⟩
theorem O3.takeY {w : World} {x z : Value} {S : RP} {g n c a n1 h1 n2 h2 n3 h3 : Nat} (h : O3 w x (.slice (some ⟨g, 0, none⟩) n c) z S n1 h1 n2 h2 n3 h3) (ha : a + 1 = n) : O3 w x (.slice (some ⟨g, 0, none⟩) a c) z ⟨S.l, S.r.take a, S.ps, S.h, S.n⟩ n1 h1 n2 h2 n3 h3 := by
  obtain ⟨_, _, e⟩ := h.y.form
  simp only [Value.slice.injEq] at e
  exact ⟨h.x, h.y.takeN (by omega), h.z, h.apart⟩

end Go.Proofs.Ytajfhalalnlejaa
