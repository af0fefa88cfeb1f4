/- A scope in which the run jumps to two labels, 0 and 1: what holds at every jump, and a measure that every pass lowers. Any program. -/
import Derived.Test.YtobdghabehbcjaaKit
import Derived.WalkMore
import Derived.ScopeJumps
namespace Go.Proofs.Ytobdghabehbcjaa
open Go.RowKit

/-- As Q; by a goto to label 0: J; to label 1: K; by any other goto: no way out. -/
def exitJ (J K : Act → World → Prop) (Q : Exit → Act → World → Prop) : Exit → Act → World → Prop
  | .goto l, a, w => (l = 0 ∧ J a w) ∨ (l = 1 ∧ K a w)
  | e, a, w => Q e a w

theorem exitJ_ret (J K : Act → World → Prop) (Q : Exit → Act → World → Prop) (a : Act) (w : World) : exitJ J K Q .ret a w = Q .ret a w := rfl

theorem exitJ_mono {J K J' K' : Act → World → Prop} {Q : Exit → Act → World → Prop} (hJ : ∀ a w, J a w → J' a w) (hK : ∀ a w, K a w → K' a w) (e : Exit) (a : Act) (w : World) (h : exitJ J K Q e a w) : exitJ J' K' Q e a w := by
  cases e with
  | goto l =>
    rcases h with h | h
    · exact .inl ⟨h.1, hJ _ _ h.2⟩
    · exact .inr ⟨h.1, hK _ _ h.2⟩
  | normal => exact h
  | exit id => exact h
  | ret => exact h
  | panic ch => exact h
  | outgrown => exact h

theorem code_mono {P : Program} {c : Code} {a : Act} {w : World} {Q Q' : Exit → Act → World → Prop} (h : ∀ e a w, Q e a w → Q' e a w) (H : c.wp P Q a w) : c.wp P Q' a w := by
  intro b k cs
  obtain ⟨e, a', w', hq, hr⟩ := H b k cs
  exact ⟨e, a', w', h _ _ _ hq, hr⟩

/-- What a pass has to show of its ends: at a goto to 0 and 1 (the measure below n), and at a return. -/
structure Ends (J K : Act → World → Prop) (μ ν : Act → World → Nat) (Q : Exit → Act → World → Prop) (n : Nat) (E : Exit → Act → World → Prop) : Prop where
  zero : ∀ a w, J a w → μ a w < n → E (.goto 0) a w
  one : ∀ a w, K a w → ν a w < n → E (.goto 1) a w
  ret : ∀ a w, Q .ret a w → E .ret a w

theorem wp_scope_two {P : Program} {a : Act} {w : World} {Q : Exit → Act → World → Prop} {c r0 r1 : Code} (J K : Act → World → Prop) (μ ν : Act → World → Nat) (h0 : findLabel c 0 = some (Code.skip.seq r0)) (h1 : findLabel c 1 = some (Code.skip.seq r1))
    (pass1 : ∀ n E, Hid (Ends J K μ ν Q n E) → ∀ a w, K a w → ν a w ≤ n → r1.wp P E a w)
    (pass0 : ∀ n E, Hid (Ends J K μ ν Q n E) → Hid (∀ a w, K a w → ν a w ≤ n → r1.wp P E a w) → ∀ a w, J a w → μ a w ≤ n → r0.wp P E a w)
    (first : ∀ E, (∀ a w, J a w → r0.wp P E a w) → Hid (∀ a w, Q .ret a w → E .ret a w) → c.wp P E a w) : (Code.scope c).wp P Q a w := by
  have en : ∀ n, Ends J K μ ν Q n (exitJ (fun a' w' => J a' w' ∧ μ a' w' < n) (fun a' w' => K a' w' ∧ ν a' w' < n) Q) := fun n =>
    ⟨fun a w h1 h2 => .inl ⟨rfl, h1, h2⟩, fun a w h1 h2 => .inr ⟨rfl, h1, h2⟩, fun a w h => h⟩
  have P1 : ∀ n a w, K a w → ν a w ≤ n → (Code.skip.seq r1).wp P (exitJ (fun a' w' => J a' w' ∧ μ a' w' < n) (fun a' w' => K a' w' ∧ ν a' w' < n) Q) a w :=
    fun n a w h h2 => wp_seq (wp_skip (pass1 n _ (en n) a w h h2))
  have P0 : ∀ n a w, J a w → μ a w ≤ n → (Code.skip.seq r0).wp P (exitJ (fun a' w' => J a' w' ∧ μ a' w' < n) (fun a' w' => K a' w' ∧ ν a' w' < n) Q) a w :=
    fun n a w h h2 => wp_seq (wp_skip (pass0 n _ (en n) (pass1 n _ (en n)) a w h h2))
  intro b k cs
  have g0 : gotoIn 0 (.inScope c :: k) = some (.code (Code.skip.seq r0) :: .inScope c :: k) := by simp [gotoIn, h0]
  have g1 : gotoIn 1 (.inScope c :: k) = some (.code (Code.skip.seq r1) :: .inScope c :: k) := by simp [gotoIn, h1]
  have key : ∀ n, (∀ a w, μ a w = n → J a w → ∃ e a' w', Q e a' w' ∧ Arrives P (lone (b.at a (.code (Code.skip.seq r0) :: .inScope c :: k)) cs w) b k cs e a' w') ∧ (∀ a w, ν a w = n → K a w → ∃ e a' w', Q e a' w' ∧ Arrives P (lone (b.at a (.code (Code.skip.seq r1) :: .inScope c :: k)) cs w) b k cs e a' w') := by
    intro n
    induction n using Nat.strongRecOn with
    | _ n ih =>
      refine ⟨fun a w hn hJ => ?_, fun a w hn hJ => ?_⟩
      · obtain ⟨e, a₁, w₁, hq, harr⟩ := P0 n a w hJ (by omega) b (.inScope c :: k) cs
        cases e with
        | normal => exact ⟨.normal, a₁, w₁, hq, Steps.trans harr (.one step_inScope)⟩
        | exit id => exact ⟨.exit id, a₁, w₁, hq, fun k' hk => harr k' (by simp [exitTo, hk])⟩
        | goto l' =>
          rcases hq with ⟨rfl, hJ', hlt⟩ | ⟨rfl, hJ', hlt⟩
          · obtain ⟨e₂, a₂, w₂, hq₂, harr₂⟩ := (ih _ hlt).1 a₁ w₁ rfl hJ'
            exact ⟨e₂, a₂, w₂, hq₂, .of_steps (harr _ g0) harr₂⟩
          · obtain ⟨e₂, a₂, w₂, hq₂, harr₂⟩ := (ih _ hlt).2 a₁ w₁ rfl hJ'
            exact ⟨e₂, a₂, w₂, hq₂, .of_steps (harr _ g1) harr₂⟩
        | ret => exact ⟨_, a₁, w₁, hq, harr⟩
        | panic ch => exact ⟨_, a₁, w₁, hq, harr⟩
        | outgrown => exact ⟨_, a₁, w₁, hq, harr⟩
      · obtain ⟨e, a₁, w₁, hq, harr⟩ := P1 n a w hJ (by omega) b (.inScope c :: k) cs
        cases e with
        | normal => exact ⟨.normal, a₁, w₁, hq, Steps.trans harr (.one step_inScope)⟩
        | exit id => exact ⟨.exit id, a₁, w₁, hq, fun k' hk => harr k' (by simp [exitTo, hk])⟩
        | goto l' =>
          rcases hq with ⟨rfl, hJ', hlt⟩ | ⟨rfl, hJ', hlt⟩
          · obtain ⟨e₂, a₂, w₂, hq₂, harr₂⟩ := (ih _ hlt).1 a₁ w₁ rfl hJ'
            exact ⟨e₂, a₂, w₂, hq₂, .of_steps (harr _ g0) harr₂⟩
          · obtain ⟨e₂, a₂, w₂, hq₂, harr₂⟩ := (ih _ hlt).2 a₁ w₁ rfl hJ'
            exact ⟨e₂, a₂, w₂, hq₂, .of_steps (harr _ g1) harr₂⟩
        | ret => exact ⟨_, a₁, w₁, hq, harr⟩
        | panic ch => exact ⟨_, a₁, w₁, hq, harr⟩
        | outgrown => exact ⟨_, a₁, w₁, hq, harr⟩
  have F := first (exitJ J K Q) (fun a w h => code_mono (fun e a' w' hq => exitJ_mono (fun _ _ h => h.1) (fun _ _ h => h.1) e a' w' hq) (pass0 _ _ (en _) (pass1 _ _ (en _)) a w h (Nat.le_refl _))) (fun a w h => h)
  obtain ⟨e, a₁, w₁, hq, harr⟩ := F b (.inScope c :: k) cs
  cases e with
  | normal => exact ⟨.normal, a₁, w₁, hq, .head step_scope (Steps.trans harr (.one step_inScope))⟩
  | exit id => exact ⟨.exit id, a₁, w₁, hq, fun k' hk => .head step_scope (harr k' (by simp [exitTo, hk]))⟩
  | goto l' =>
    rcases hq with ⟨rfl, hJ'⟩ | ⟨rfl, hJ'⟩
    · obtain ⟨e₂, a₂, w₂, hq₂, harr₂⟩ := (key _).1 a₁ w₁ rfl hJ'
      exact ⟨e₂, a₂, w₂, hq₂, .of_steps (.head step_scope (harr _ g0)) harr₂⟩
    · obtain ⟨e₂, a₂, w₂, hq₂, harr₂⟩ := (key _).2 a₁ w₁ rfl hJ'
      exact ⟨e₂, a₂, w₂, hq₂, .of_steps (.head step_scope (harr _ g1)) harr₂⟩
  | ret => exact ⟨_, a₁, w₁, hq, .of_steps (.one step_scope) harr⟩
  | panic ch => exact ⟨_, a₁, w₁, hq, .of_steps (.one step_scope) harr⟩
  | outgrown => exact ⟨_, a₁, w₁, hq, .of_steps (.one step_scope) harr⟩

end Go.Proofs.Ytobdghabehbcjaa
