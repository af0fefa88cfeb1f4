/- Appending to items and to integers of the call's own, any number at once (promise 7). -/
import Derived.Test.YtajfhalalnlejaaIv
import Derived.Test.YtajfhalalnlejaaCpy
import Derived.Maps.AppendAt
namespace Go.Proofs.Ytajfhalalnlejaa
open Go.RowKit Go.ChangeShapes
set_option linter.unusedSimpArgs false
set_option linter.unusedVariables false
set_option maxRecDepth 100000

theorem owi_app_wp (W : World) {o : Oper} {a : Act} {K : Act → World → Prop} {Q : Exit → Act → World → Prop} (s x : Operand)
    (ho : o.op = .call { callee := .builtin .append, args := #[s, x], argTypes := #[68, 68] })
    (v : Value) (ps news : List Pv) (lo hi : Nat) (hown : Owi W v ps lo hi) (hs : a.eval s = v) (ad : Addr) (c : Nat)
    (hx : a.eval x = .slice (some ad) news.length c) (hnews : ∀ j u, (pvVs news)[j]? = some u → W.cell? (ad.add j) = some u) (hlen : ps.length + news.length ≤ 4194304)
    (h : ∀ v' W' n1 h1, Owi W' v' (ps ++ news) n1 h1 → ((n1 = lo ∧ h1 = hi) ∨ (W.heap.size ≤ n1 ∧ h1 ≤ W'.heap.size)) → Seg lo hi W W' → K (a.put o.dst v') W') : o.wp Try.prog a W K Q := by
  obtain ⟨i0, hi0, hi1, hi2, hi3⟩ := info_parts infoIt
  obtain ⟨v', w', hr, hown', hgrow, -, hat⟩ := run_append_own_at (P := Try.prog) (w := W) lo 68 o.type 49 i0 _ 2 16 Try.underlying68 hi0 hi1 hi2 hi3 rfl (by decide) v ps.length (pvVs ps) hown.own ad news.length c (pvVs news) (pvVs_length _)
    hnews (pvVs_cell _) (by unfold maxLen; omega) (by omega) (Nat.le_trans hown.le hown.top)
  unfold Oper.wp execOp
  simp only [ho, resolve, invoke, builtin, Sem.run_bind, Sem.run_pure, Result.andThen_ok, List.map_toArray, List.map_cons, List.map_nil, hs, hx, hr]
  have hO : Oi w' lo v' (ps ++ news) := by
    unfold Oi
    rw [pvVs_append, List.length_append]
    exact hown'
  have sg : Seg lo hi W w' := ⟨(Below.refl lo W).grown hgrow (Nat.le_trans hown.le hown.top) (fun k hk => (World.ownsRow.lt hown.own k hk).1), fun b hb hl => hgrow.block b hl (fun e => by have := hown.lt b e.symm; omega)⟩
  rcases hat with e | e
  · exact h v' w' lo hi ⟨hO, fun g hg => hown.lt g (e ▸ hg), hown.le, Nat.le_trans hown.top hgrow.size⟩ (.inl ⟨rfl, rfl⟩) sg
  · exact h v' w' _ _ (Owi.of (owns_raise hO e) hgrow.size) (.inr ⟨Nat.le_refl _, Nat.le_refl _⟩) sg

theorem owi_app_list (W : World) {ops : Array Oper} {rest : List Oper} {o : Oper} {a : Act} {Q : Exit → Act → World → Prop} (hgd : o.guard = none) (s x : Operand)
    (ho : o.op = .call { callee := .builtin .append, args := #[s, x], argTypes := #[68, 68] })
    (v : Value) (ps news : List Pv) (lo hi : Nat) (hown : Owi W v ps lo hi) (hs : a.eval s = v) (ad : Addr) (c : Nat)
    (hx : a.eval x = .slice (some ad) news.length c) (hnews : ∀ j u, (pvVs news)[j]? = some u → W.cell? (ad.add j) = some u) (hlen : ps.length + news.length ≤ 4194304)
    (h : ∀ v' W' n1 h1, Owi W' v' (ps ++ news) n1 h1 → ((n1 = lo ∧ h1 = hi) ∨ (W.heap.size ≤ n1 ∧ h1 ≤ W'.heap.size)) → Seg lo hi W W' → wpList Try.prog ops Q rest (a.put o.dst v') W') : wpList Try.prog ops Q (o :: rest) a W :=
  wpList_plain hgd fun K hK => owi_app_wp W s x ho v ps news lo hi hown hs ad c hx hnews hlen fun v' W' n1 h1 q1 q2 q3 => hK _ _ (h v' W' n1 h1 q1 q2 q3)

theorem owint_app_wp (W : World) {o : Oper} {a : Act} {K : Act → World → Prop} {Q : Exit → Act → World → Prop} (s x : Operand)
    (ho : o.op = .call { callee := .builtin .append, args := #[s, x], argTypes := #[22, 22] })
    (v : Value) (l news : List Int) (lo hi : Nat) (hown : Ow W v l lo hi) (hs : a.eval s = v) (ad : Addr) (c : Nat)
    (hx : a.eval x = .slice (some ad) news.length c) (hnews : ∀ j u, (intVs news)[j]? = some u → W.cell? (ad.add j) = some u) (hlen : l.length + news.length ≤ 4194304)
    (h : ∀ v' W' n1 h1, Ow W' v' (l ++ news) n1 h1 → ((n1 = lo ∧ h1 = hi) ∨ (W.heap.size ≤ n1 ∧ h1 ≤ W'.heap.size)) → Seg lo hi W W' → K (a.put o.dst v') W') : o.wp Try.prog a W K Q := by
  obtain ⟨i0, hi0, hi1, hi2, hi3⟩ := info_parts infoI
  obtain ⟨⟨F, ho1, hF⟩, hle, htop⟩ := hown
  obtain ⟨v', w', hr, hown', hgrow, -, hat⟩ := run_append_own_at (P := Try.prog) (w := W) 0 22 o.type 3 i0 _ 1 8 Try.underlying22 hi0 hi1 hi2 hi3 rfl (by decide) v l.length (intVs l) ho1.1 ad news.length c (intVs news) (by simp [intVs])
    hnews (intVs_cell _) (by unfold maxLen; omega) (by omega) (Nat.zero_le _)
  unfold Oper.wp execOp
  simp only [ho, resolve, invoke, builtin, Sem.run_bind, Sem.run_pure, Result.andThen_ok, List.map_toArray, List.map_cons, List.map_nil, hs, hx, hr]
  have hO : Is w' 0 3 v' (l ++ news) := by
    unfold Is
    rw [show intVs (l ++ news) = intVs l ++ intVs news by simp [intVs], List.length_append]
    exact hown'
  have hb : ∀ k, v.ownBlock = some k → lo ≤ k ∧ k < hi := fun k hk => hF k (by rw [ho1.2, hk]; simp)
  have sg : Seg lo hi W w' := ⟨(Below.refl lo W).grown hgrow (Nat.le_trans hle htop) (fun k hk => (hb k hk).1), fun b hb' hl => hgrow.block b hl (fun e => by have := (hb b e.symm).2; omega)⟩
  rcases hat with e | e
  · exact h v' w' lo hi ⟨⟨_, ⟨hO, rfl⟩, fun b hb' => hb b (by rw [← e]; simpa using hb')⟩, hle, Nat.le_trans htop hgrow.size⟩ (.inl ⟨rfl, rfl⟩) sg
  · have hlt := (World.ownsRow.lt hO W.heap.size e).2
    exact h v' w' W.heap.size w'.heap.size ⟨⟨_, ⟨hO, rfl⟩, fun b hb' => by rw [e] at hb'; simp at hb'; subst hb'; exact ⟨Nat.le_refl _, hlt⟩⟩, Nat.le_of_lt hlt, Nat.le_refl _⟩ (.inr ⟨Nat.le_refl _, Nat.le_refl _⟩) sg

theorem owint_app_list (W : World) {ops : Array Oper} {rest : List Oper} {o : Oper} {a : Act} {Q : Exit → Act → World → Prop} (hgd : o.guard = none) (s x : Operand)
    (ho : o.op = .call { callee := .builtin .append, args := #[s, x], argTypes := #[22, 22] })
    (v : Value) (l news : List Int) (lo hi : Nat) (hown : Ow W v l lo hi) (hs : a.eval s = v) (ad : Addr) (c : Nat)
    (hx : a.eval x = .slice (some ad) news.length c) (hnews : ∀ j u, (intVs news)[j]? = some u → W.cell? (ad.add j) = some u) (hlen : l.length + news.length ≤ 4194304)
    (h : ∀ v' W' n1 h1, Ow W' v' (l ++ news) n1 h1 → ((n1 = lo ∧ h1 = hi) ∨ (W.heap.size ≤ n1 ∧ h1 ≤ W'.heap.size)) → Seg lo hi W W' → wpList Try.prog ops Q rest (a.put o.dst v') W') : wpList Try.prog ops Q (o :: rest) a W :=
  wpList_plain hgd fun K hK => owint_app_wp W s x ho v l news lo hi hown hs ad c hx hnews hlen fun v' W' n1 h1 q1 q2 q3 => hK _ _ (h v' W' n1 h1 q1 q2 q3)

end Go.Proofs.Ytajfhalalnlejaa
