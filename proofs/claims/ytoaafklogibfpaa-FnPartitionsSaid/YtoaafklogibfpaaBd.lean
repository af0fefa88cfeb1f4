/- Several texts in one: Jump, PtI, PtJ. -/
import Derived.Test.YtoaafklogibfpaaKit
import Derived.WalkMore
import Derived.ScopeJumps
import Derived.Test.YtoaafklogibfpaaPtS
/- A scope in which the run jumps to two labels, 0 and 1: what holds at every jump, and a measure that every pass lowers. Any program. -/
namespace Go.Proofs.Ytoaafklogibfpaa
open Go.RowKit

/-- As Q; by a goto to label 0: J; to label 1: K; by any other goto: no way out. -/
def exitJ (J K : Act → World → Prop) (Q : Exit → Act → World → Prop) : Exit → Act → World → Prop
  | .goto l, a, w => (l = 0 ∧ J a w) ∨ (l = 1 ∧ K a w)
  | e, a, w => Q e a w

theorem exitJ_ret (J K : Act → World → Prop) (Q : Exit → Act → World → Prop) (a : Act) (w : World) : exitJ J K Q .ret a w = Q .ret a w := rfl

theorem exitJ_mono {J K J' K' : Act → World → Prop} {Q : Exit → Act → World → Prop} (hJ : ∀ a w, J a w → J' a w) (hK : ∀ a w, K a w → K' a w) (e : Exit) (a : Act) (w : World) (h : exitJ J K Q e a w) : exitJ J' K' Q e a w := by
  cases e with
  | goto l =>
    rcases h with h | h
    · exact .inl ⟨h.1, hJ _ _ h.2⟩
    · exact .inr ⟨h.1, hK _ _ h.2⟩
  | normal => exact h
  | exit id => exact h
  | ret => exact h
  | panic ch => exact h
  | outgrown => exact h

theorem code_mono {P : Program} {c : Code} {a : Act} {w : World} {Q Q' : Exit → Act → World → Prop} (h : ∀ e a w, Q e a w → Q' e a w) (H : c.wp P Q a w) : c.wp P Q' a w := by
  intro b k cs
  obtain ⟨e, a', w', hq, hr⟩ := H b k cs
  exact ⟨e, a', w', h _ _ _ hq, hr⟩

/-- What a pass has to show of its ends: at a goto to 0 and 1 (the measure below n), and at a return. -/
structure Ends (J K : Act → World → Prop) (μ ν : Act → World → Nat) (Q : Exit → Act → World → Prop) (n : Nat) (E : Exit → Act → World → Prop) : Prop where
  zero : ∀ a w, J a w → μ a w < n → E (.goto 0) a w
  one : ∀ a w, K a w → ν a w < n → E (.goto 1) a w
  ret : ∀ a w, Q .ret a w → E .ret a w

theorem wp_scope_two {P : Program} {a : Act} {w : World} {Q : Exit → Act → World → Prop} {c r0 r1 : Code} (J K : Act → World → Prop) (μ ν : Act → World → Nat) (h0 : findLabel c 0 = some (Code.skip.seq r0)) (h1 : findLabel c 1 = some (Code.skip.seq r1))
    (pass1 : ∀ n E, Hid (Ends J K μ ν Q n E) → ∀ a w, K a w → ν a w ≤ n → r1.wp P E a w)
    (pass0 : ∀ n E, Hid (Ends J K μ ν Q n E) → Hid (∀ a w, K a w → ν a w ≤ n → r1.wp P E a w) → ∀ a w, J a w → μ a w ≤ n → r0.wp P E a w)
    (first : ∀ E, (∀ a w, J a w → r0.wp P E a w) → Hid (∀ a w, Q .ret a w → E .ret a w) → c.wp P E a w) : (Code.scope c).wp P Q a w := by
  have en : ∀ n, Ends J K μ ν Q n (exitJ (fun a' w' => J a' w' ∧ μ a' w' < n) (fun a' w' => K a' w' ∧ ν a' w' < n) Q) := fun n =>
    ⟨fun a w h1 h2 => .inl ⟨rfl, h1, h2⟩, fun a w h1 h2 => .inr ⟨rfl, h1, h2⟩, fun a w h => h⟩
  have P1 : ∀ n a w, K a w → ν a w ≤ n → (Code.skip.seq r1).wp P (exitJ (fun a' w' => J a' w' ∧ μ a' w' < n) (fun a' w' => K a' w' ∧ ν a' w' < n) Q) a w :=
    fun n a w h h2 => wp_seq (wp_skip (pass1 n _ (en n) a w h h2))
  have P0 : ∀ n a w, J a w → μ a w ≤ n → (Code.skip.seq r0).wp P (exitJ (fun a' w' => J a' w' ∧ μ a' w' < n) (fun a' w' => K a' w' ∧ ν a' w' < n) Q) a w :=
    fun n a w h h2 => wp_seq (wp_skip (pass0 n _ (en n) (pass1 n _ (en n)) a w h h2))
  intro b k cs
  have g0 : gotoIn 0 (.inScope c :: k) = some (.code (Code.skip.seq r0) :: .inScope c :: k) := by simp [gotoIn, h0]
  have g1 : gotoIn 1 (.inScope c :: k) = some (.code (Code.skip.seq r1) :: .inScope c :: k) := by simp [gotoIn, h1]
  have key : ∀ n, (∀ a w, μ a w = n → J a w → ∃ e a' w', Q e a' w' ∧ Arrives P (lone (b.at a (.code (Code.skip.seq r0) :: .inScope c :: k)) cs w) b k cs e a' w') ∧ (∀ a w, ν a w = n → K a w → ∃ e a' w', Q e a' w' ∧ Arrives P (lone (b.at a (.code (Code.skip.seq r1) :: .inScope c :: k)) cs w) b k cs e a' w') := by
    intro n
    induction n using Nat.strongRecOn with
    | _ n ih =>
      refine ⟨fun a w hn hJ => ?_, fun a w hn hJ => ?_⟩
      · obtain ⟨e, a₁, w₁, hq, harr⟩ := P0 n a w hJ (by omega) b (.inScope c :: k) cs
        cases e with
        | normal => exact ⟨.normal, a₁, w₁, hq, Steps.trans harr (.one step_inScope)⟩
        | exit id => exact ⟨.exit id, a₁, w₁, hq, fun k' hk => harr k' (by simp [exitTo, hk])⟩
        | goto l' =>
          rcases hq with ⟨rfl, hJ', hlt⟩ | ⟨rfl, hJ', hlt⟩
          · obtain ⟨e₂, a₂, w₂, hq₂, harr₂⟩ := (ih _ hlt).1 a₁ w₁ rfl hJ'
            exact ⟨e₂, a₂, w₂, hq₂, .of_steps (harr _ g0) harr₂⟩
          · obtain ⟨e₂, a₂, w₂, hq₂, harr₂⟩ := (ih _ hlt).2 a₁ w₁ rfl hJ'
            exact ⟨e₂, a₂, w₂, hq₂, .of_steps (harr _ g1) harr₂⟩
        | ret => exact ⟨_, a₁, w₁, hq, harr⟩
        | panic ch => exact ⟨_, a₁, w₁, hq, harr⟩
        | outgrown => exact ⟨_, a₁, w₁, hq, harr⟩
      · obtain ⟨e, a₁, w₁, hq, harr⟩ := P1 n a w hJ (by omega) b (.inScope c :: k) cs
        cases e with
        | normal => exact ⟨.normal, a₁, w₁, hq, Steps.trans harr (.one step_inScope)⟩
        | exit id => exact ⟨.exit id, a₁, w₁, hq, fun k' hk => harr k' (by simp [exitTo, hk])⟩
        | goto l' =>
          rcases hq with ⟨rfl, hJ', hlt⟩ | ⟨rfl, hJ', hlt⟩
          · obtain ⟨e₂, a₂, w₂, hq₂, harr₂⟩ := (ih _ hlt).1 a₁ w₁ rfl hJ'
            exact ⟨e₂, a₂, w₂, hq₂, .of_steps (harr _ g0) harr₂⟩
          · obtain ⟨e₂, a₂, w₂, hq₂, harr₂⟩ := (ih _ hlt).2 a₁ w₁ rfl hJ'
            exact ⟨e₂, a₂, w₂, hq₂, .of_steps (harr _ g1) harr₂⟩
        | ret => exact ⟨_, a₁, w₁, hq, harr⟩
        | panic ch => exact ⟨_, a₁, w₁, hq, harr⟩
        | outgrown => exact ⟨_, a₁, w₁, hq, harr⟩
  have F := first (exitJ J K Q) (fun a w h => code_mono (fun e a' w' hq => exitJ_mono (fun _ _ h => h.1) (fun _ _ h => h.1) e a' w' hq) (pass0 _ _ (en _) (pass1 _ _ (en _)) a w h (Nat.le_refl _))) (fun a w h => h)
  obtain ⟨e, a₁, w₁, hq, harr⟩ := F b (.inScope c :: k) cs
  cases e with
  | normal => exact ⟨.normal, a₁, w₁, hq, .head step_scope (Steps.trans harr (.one step_inScope))⟩
  | exit id => exact ⟨.exit id, a₁, w₁, hq, fun k' hk => .head step_scope (harr k' (by simp [exitTo, hk]))⟩
  | goto l' =>
    rcases hq with ⟨rfl, hJ'⟩ | ⟨rfl, hJ'⟩
    · obtain ⟨e₂, a₂, w₂, hq₂, harr₂⟩ := (key _).1 a₁ w₁ rfl hJ'
      exact ⟨e₂, a₂, w₂, hq₂, .of_steps (.head step_scope (harr _ g0)) harr₂⟩
    · obtain ⟨e₂, a₂, w₂, hq₂, harr₂⟩ := (key _).2 a₁ w₁ rfl hJ'
      exact ⟨e₂, a₂, w₂, hq₂, .of_steps (.head step_scope (harr _ g1)) harr₂⟩
  | ret => exact ⟨_, a₁, w₁, hq, .of_steps (.one step_scope) harr⟩
  | panic ch => exact ⟨_, a₁, w₁, hq, .of_steps (.one step_scope) harr⟩
  | outgrown => exact ⟨_, a₁, w₁, hq, .of_steps (.one step_scope) harr⟩

end Go.Proofs.Ytoaafklogibfpaa

/- What Partition of the program returns: two labels (promise 3). Written by gen_pti.py. -/
namespace Go.Proofs.Ytoaafklogibfpaa
open Go.RowKit Go.ChangeShapes
set_option linter.unusedSimpArgs false
set_option linter.unusedVariables false
set_option maxRecDepth 100000

theorem part_stay (l : List Int) (p : Int) (f i e : Nat) (h : i < e) (hx : l.getD i 0 < p) : part l p (f + 1) i e = part l p f (i + 1) e := by rw [part_step l p f i e h, if_pos hx]
theorem part_back (l : List Int) (p : Int) (f i q : Nat) (h : i < q + 1) (hx : p ≤ l.getD i 0) (hy : p ≤ l.getD q 0) : part l p (f + 1) i (q + 1) = part l p f i q := by rw [part_step l p f i _ h, if_neg (by omega), Nat.add_sub_cancel, if_pos hy]
theorem part_swap (l : List Int) (p : Int) (f i q : Nat) (h : i < q + 1) (hx : p ≤ l.getD i 0) (hy : ¬ (p ≤ l.getD q 0)) : part l p (f + 1) i (q + 1) = (((i : Int), (q : Int)) :: (part l p f (i + 1) q).1, (part l p f (i + 1) q).2) := by
  rw [part_step l p f i _ h, if_neg (by omega), Nat.add_sub_cancel, if_neg hy]
  simp

/-- At the first label. -/
def AtL (w : World) (l : List Int) (p : Int) (ad : Option Addr) (cap n e : Nat) (R : List Pv × Int) (a' : Act) (w' : World) : Prop := ∃ (f i j : Nat) (x z : Int) (out : List Pv) (sv u4 u5 u6 u7 u8 u9 u13 u14 u15 u16 u17 u18 u19 u20 u21 u22 u23 u24 u25 u26 u27 u28 u29 u30 u31 u32 u33 u34 u35 u36 u37 u38 u39 u40 u41 u42 u43 u44 u45 u46 u47 u48 u49 u50 u51 u52 u53 u54 u55 u56 u57 u58 u59 u60 u61 u62 u63 u64 : Value), a' = { tmps := #[.slice ad l.length cap, .int .i64 n, .int .i64 e, .int .i64 p, u4, u5, u6, u7, u8, u9, sv, .int .i64 x, .int .i64 z, u13, u14, u15, u16, u17, u18, u19, u20, u21, u22, u23, u24, u25, u26, u27, u28, u29, u30, u31, u32, u33, u34, u35, u36, u37, u38, u39, u40, u41, u42, u43, u44, u45, u46, u47, u48, u49, u50, u51, u52, u53, u54, u55, u56, u57, u58, u59, u60, u61, u62, u63, u64], defers := [] } ∧ x = (i : Int) ∧ z = (j : Int) - 1 ∧ j ≤ e ∧ i ≤ e ∧ i ≤ j + 1 ∧ Hid (j - i ≤ f) ∧ Hid (R = (out ++ (part l p f i j).1, ((part l p f i j).2 : Int))) ∧ Hid (OwS w' w.heap.size sv out) ∧ Hid (out.length + j ≤ 2097152) ∧ Hid (Below w.heap.size w w')

/-- At the second label: the element at i is not less. -/
def AtR (w : World) (l : List Int) (p : Int) (ad : Option Addr) (cap n e : Nat) (R : List Pv × Int) (a' : Act) (w' : World) : Prop := ∃ (f i j : Nat) (x z : Int) (out : List Pv) (sv u4 u5 u6 u7 u8 u9 u13 u14 u15 u16 u17 u18 u19 u20 u21 u22 u23 u24 u25 u26 u27 u28 u29 u30 u31 u32 u33 u34 u35 u36 u37 u38 u39 u40 u41 u42 u43 u44 u45 u46 u47 u48 u49 u50 u51 u52 u53 u54 u55 u56 u57 u58 u59 u60 u61 u62 u63 u64 : Value), a' = { tmps := #[.slice ad l.length cap, .int .i64 n, .int .i64 e, .int .i64 p, u4, u5, u6, u7, u8, u9, sv, .int .i64 x, .int .i64 z, u13, u14, u15, u16, u17, u18, u19, u20, u21, u22, u23, u24, u25, u26, u27, u28, u29, u30, u31, u32, u33, u34, u35, u36, u37, u38, u39, u40, u41, u42, u43, u44, u45, u46, u47, u48, u49, u50, u51, u52, u53, u54, u55, u56, u57, u58, u59, u60, u61, u62, u63, u64], defers := [] } ∧ x = (i : Int) ∧ z = (j : Int) - 1 ∧ j ≤ e ∧ i ≤ e ∧ i ≤ j + 1 ∧ Hid (j - i ≤ f) ∧ Hid (R = (out ++ (part l p f i j).1, ((part l p f i j).2 : Int))) ∧ Hid (OwS w' w.heap.size sv out) ∧ Hid (out.length + j ≤ 2097152) ∧ Hid (Below w.heap.size w w') ∧ Hid (p ≤ l.getD i 0) ∧ Hid (i < l.length)

def muL (a' : Act) (_ : World) : Nat := 2 * (intOf (a'.tmps.getD 12 undef) + 2 - intOf (a'.tmps.getD 11 undef)).toNat + 1
def muR (a' : Act) (_ : World) : Nat := 2 * (intOf (a'.tmps.getD 12 undef) + 2 - intOf (a'.tmps.getD 11 undef)).toNat

set_option maxHeartbeats 4000000 in
theorem iPart_in (l : List Int) (n e : Nat) (p : Int) (ad : Option Addr) (cap : Nat) (w : World) (B : Nat) (HC : Hid (∀ j (h : j < l.length), ∃ b o, ad = some ⟨b, o, none⟩ ∧ b < B ∧ w.cell? ⟨b, o + j, none⟩ = some (.int .i64 l[j]))) (hB : B ≤ w.heap.size) (hl : l.length ≤ 1048576) (hne : n ≤ e) (hel : e ≤ l.length) (R : List Pv × Int) (HR : Hid (R = ((part l p (e - n) n e).1, ((part l p (e - n) n e).2 : Int)))) :
    Calls Try.prog 21 #[.slice ad l.length cap, .int .i64 n, .int .i64 e, .int .i64 p] w (RetSI w R) := by
  have t1 : decide ((n : Int) < 0) = false := by simp
  have t2 : decide (e < n) = false := by simp; omega
  have t3 : decide (l.length < e) = false := by simp; omega
  go_enter Try.func21, Try.ntmps21
  go_wp2_with fail
  refine wp_scope_two (AtL w l p ad cap n e R) (AtR w l p ad cap n e R) muL muR rfl rfl ?_ ?_ ?_
  · intro m E hE a' w' hK hm
    obtain ⟨f, i, j, x, z, out, sv, u4, u5, u6, u7, u8, u9, u13, u14, u15, u16, u17, u18, u19, u20, u21, u22, u23, u24, u25, u26, u27, u28, u29, u30, u31, u32, u33, u34, u35, u36, u37, u38, u39, u40, u41, u42, u43, u44, u45, u46, u47, u48, u49, u50, u51, u52, u53, u54, u55, u56, u57, u58, u59, u60, u61, u62, u63, u64, rfl, rfl, hz, hje, hie, hij, hf, hR, O, hol, hb, hx, hil⟩ := hK
    have hm2 := hide (show 2 * (z + 2 - (i : Int)).toNat ≤ m by simpa [muR, intOf] using hm)
    clear hm
    by_cases hlt : i < j
    · obtain ⟨q, rfl⟩ : ∃ q, j = q + 1 := ⟨j - 1, by omega⟩
      obtain rfl : z = (q : Int) := by omega
      obtain ⟨f', rfl⟩ : ∃ f', f = f' + 1 := ⟨f - 1, by have := hf.out; omega⟩
      have hql : q < l.length := by omega
      obtain ⟨b1, o1, rfl, hb1, hc1⟩ := HC.out q hql
      obtain ⟨y, hy⟩ : ∃ y, y = l[q] := ⟨_, rfl⟩
      have hyd := hide (show l.getD q 0 = y by rw [hy, List.getD_eq_getElem?_getD, List.getElem?_eq_getElem hql]; rfl)
      rw [← hy] at hc1
      have d1 : w'.cell? ⟨b1, o1 + q, none⟩ = some (.int .i64 y) := by rw [hb.out.cell (p := ⟨b1, o1 + q, none⟩) (Nat.lt_of_lt_of_le hb1 hB)]; exact hc1
      have s1n : decide (q < i) = false := by simp; omega
      have hfo := hf.out
      clear hb1 hc1 hy hf hz
      by_cases e2 : p ≤ y
      · have hn2 := hide (show R = (out ++ (part l p f' i q).1, ((part l p f' i q).2 : Int)) by rw [hR.out, part_back l p f' i q hlt hx.out (by rw [hyd.out]; exact e2)])
        have t4 : decide (y ≥ p) = true := by simp; omega
        have t5 : decide (p ≤ y) = true := by simp; omega
        have hol2 := hide (show out.length + q ≤ 2097152 by have := hol.out; omega)
        go_wp2_with fail
        go_step3
        refine hE.out.one _ _ ⟨f', i, q, _, _, out, _, _, _, _, _, _, _, _, _, _, _, _, _, _, _, _, _, _, _, _, _, _, _, _, _, _, _, _, _, _, _, _, _, _, _, _, _, _, _, _, _, _, _, _, _, _, _, _, _, _, _, _, _, _, _, _, _, _, _, rfl, rfl, by go_num, by omega, by omega, by omega, by show _ ≤ _; omega, hn2, O.out, hol2.out, hb.out, hx.out, hil.out⟩ ?_
        have := hm2.out
        simp [muR, intOf]; omega
      · have hn2 := hide (show R = ((out ++ [((i : Int), (q : Int))]) ++ (part l p f' (i + 1) q).1, ((part l p f' (i + 1) q).2 : Int)) by rw [hR.out, part_swap l p f' i q hlt hx.out (by rw [hyd.out]; exact e2)]; simp)
        have t4 : decide (y ≥ p) = false := by simp; omega
        have t5 : decide (p ≤ y) = false := by simp; omega
        have hol2 := hide (show (out ++ [((i : Int), (q : Int))]).length + q ≤ 2097152 by have := hol.out; simp; omega)
        have hbs := hide hb.out.size
        obtain ⟨uv, ucap, huf⟩ := O.out.form
        subst huf
        go_wp2_with (first | (at_builtin; refine os_append _ rfl _ _ rfl w.heap.size _ _ O.out rfl _ _ _ _ rfl rfl (by have := hol.out; omega) hbs.out ?_; intro v5 w5 hown5 hb5 hq5) | fail)
        have O := hide hown5
        have hb := hide (hb.out.trans hb5)
        clear hown5 hb5 hq5
        go_step3
        refine hE.out.zero _ _ ⟨f', i + 1, q, _, _, out ++ [((i : Int), (q : Int))], _, _, _, _, _, _, _, _, _, _, _, _, _, _, _, _, _, _, _, _, _, _, _, _, _, _, _, _, _, _, _, _, _, _, _, _, _, _, _, _, _, _, _, _, _, _, _, _, _, _, _, _, _, _, _, _, _, _, _, rfl, by go_num, by go_num, by omega, by omega, by omega, by show _ ≤ _; omega, hn2, O.out, hol2.out, hb.out⟩ ?_
        have := hm2.out
        simp [muL, intOf]; omega
    · have hst := part_stop l p f i j hlt
      have hn2 := hide (show R = (out, (i : Int)) by rw [hR.out, hst]; simp)
      have s1' : decide (z < (i : Int)) = true := by simp; omega
      clear hst
      go_wp2_with fail
      refine hE.out.ret _ _ ?_
      go_ret2
      exact ⟨_, by rw [hn2.out]; rfl, by rw [hn2.out]; exact O.out, hb.out⟩
  · intro m E hE HP a' w' hJ hm
    obtain ⟨f, i, j, x, z, out, sv, u4, u5, u6, u7, u8, u9, u13, u14, u15, u16, u17, u18, u19, u20, u21, u22, u23, u24, u25, u26, u27, u28, u29, u30, u31, u32, u33, u34, u35, u36, u37, u38, u39, u40, u41, u42, u43, u44, u45, u46, u47, u48, u49, u50, u51, u52, u53, u54, u55, u56, u57, u58, u59, u60, u61, u62, u63, u64, rfl, rfl, hz, hje, hie, hij, hf, hR, O, hol, hb⟩ := hJ
    have hm2 := hide (show 2 * (z + 2 - (i : Int)).toNat + 1 ≤ m by simpa [muL, intOf] using hm)
    clear hm
    by_cases hlt : i < j
    · obtain ⟨q, rfl⟩ : ∃ q, j = q + 1 := ⟨j - 1, by omega⟩
      obtain rfl : z = (q : Int) := by omega
      have hil : i < l.length := by omega
      obtain ⟨b1, o1, rfl, hb1, hc1⟩ := HC.out i hil
      obtain ⟨y, hy⟩ : ∃ y, y = l[i] := ⟨_, rfl⟩
      have hyd := hide (show l.getD i 0 = y by rw [hy, List.getD_eq_getElem?_getD, List.getElem?_eq_getElem hil]; rfl)
      rw [← hy] at hc1
      have d1 : w'.cell? ⟨b1, o1 + i, none⟩ = some (.int .i64 y) := by rw [hb.out.cell (p := ⟨b1, o1 + i, none⟩) (Nat.lt_of_lt_of_le hb1 hB)]; exact hc1
      have s1n : decide (q < i) = false := by simp; omega
      clear hb1 hc1 hy hz
      by_cases e2 : y < p
      · obtain ⟨f', rfl⟩ : ∃ f', f = f' + 1 := ⟨f - 1, by have := hf.out; omega⟩
        have hn2 := hide (show R = (out ++ (part l p f' (i + 1) (q + 1)).1, ((part l p f' (i + 1) (q + 1)).2 : Int)) by rw [hR.out, part_stay l p f' i (q + 1) hlt (by rw [hyd.out]; exact e2)])
        have hfo := hf.out
        have t4 : decide (y < p) = true := by simp; omega
        clear hf
        go_wp2_with fail
        go_step3
        refine hE.out.zero _ _ ⟨f', i + 1, q + 1, _, _, out, _, _, _, _, _, _, _, _, _, _, _, _, _, _, _, _, _, _, _, _, _, _, _, _, _, _, _, _, _, _, _, _, _, _, _, _, _, _, _, _, _, _, _, _, _, _, _, _, _, _, _, _, _, _, _, _, _, _, _, rfl, by go_num, by go_num, by omega, by omega, by omega, by show _ ≤ _; omega, hn2, O.out, hol.out, hb.out⟩ ?_
        have := hm2.out
        simp [muL, intOf]; omega
      · have t4 : decide (y < p) = false := by simp; omega
        have hx := hide (show p ≤ l.getD i 0 by rw [hyd.out]; omega)
        go_wp2_with fail
        go_step3
        rename_i hK
        refine hK _ _ (HP.out _ _ ⟨f, i, q + 1, _, _, out, _, _, _, _, _, _, _, _, _, _, _, _, _, _, _, _, _, _, _, _, _, _, _, _, _, _, _, _, _, _, _, _, _, _, _, _, _, _, _, _, _, _, _, _, _, _, _, _, _, _, _, _, _, _, _, _, _, _, _, rfl, rfl, by go_num, hje, hie, hij, hf.out, hR.out, O.out, hol.out, hb.out, hx.out, hil⟩ ?_)
        have := hm2.out
        simp [muR, intOf]; omega
    · have hst := part_stop l p f i j hlt
      have hn2 := hide (show R = (out, (i : Int)) by rw [hR.out, hst]; simp)
      have s1' : decide (z < (i : Int)) = true := by simp; omega
      clear hst
      go_wp2_with fail
      refine hE.out.ret _ _ ?_
      go_ret2
      exact ⟨_, by rw [hn2.out]; rfl, by rw [hn2.out]; exact O.out, hb.out⟩
  · intro E HP HQ
    have HP := hide HP
    go_wp2_with fail
    go_step3
    rename_i hK
    refine hK _ _ (HP.out _ _ ⟨e - n, n, e, _, _, [], _, _, _, _, _, _, _, _, _, _, _, _, _, _, _, _, _, _, _, _, _, _, _, _, _, _, _, _, _, _, _, _, _, _, _, _, _, _, _, _, _, _, _, _, _, _, _, _, _, _, _, _, _, _, _, _, _, _, _, rfl, by go_num, by go_num, by omega, by omega, by omega, Nat.le_refl _, by simpa [Hid] using HR.out, OwS.nil _ _, by simp [Hid]; omega, Below.refl _ _⟩)

end Go.Proofs.Ytoaafklogibfpaa

/- What Partition of the program returns, whole (promise 3). -/
namespace Go.Proofs.Ytoaafklogibfpaa
open Go.RowKit Go.ChangeShapes
set_option linter.unusedSimpArgs false
set_option linter.unusedVariables false
set_option maxRecDepth 100000

set_option maxHeartbeats 4000000 in
theorem iPart_no (l : List Int) (a b p : Int) (ad : Option Addr) (cap : Nat) (w : World) (hl : l.length ≤ 1048576) (h1 : ¬ (0 ≤ a ∧ a ≤ b ∧ b ≤ (l.length : Int))) :
    Calls Try.prog 21 #[.slice ad l.length cap, .int .i64 a, .int .i64 b, .int .i64 p] w (RetSI w ([], 0)) := by
  by_cases q1 : a < 0
  · have t1 : decide (a < 0) = true := by simp; omega
    clear h1
    go_enter Try.func21, Try.ntmps21
    go_wp2_with fail
    go_step3
    go_wp2_with fail
    rw [Exit.noGoto_ret]
    go_ret2
    exact ⟨_, rfl, OwS.nil _ _, Below.refl _ _⟩
  · have t1 : decide (a < 0) = false := by simp; omega
    by_cases q2 : b < a
    · have t2 : decide (b < a) = true := by simp; omega
      have t2' : decide (a > b) = true := by simp; omega
      clear h1
      go_enter Try.func21, Try.ntmps21
      go_wp2_with fail
      go_step3
      go_wp2_with fail
      rw [Exit.noGoto_ret]
      go_ret2
      exact ⟨_, rfl, OwS.nil _ _, Below.refl _ _⟩
    · have t2 : decide (b < a) = false := by simp; omega
      have t2' : decide (a > b) = false := by simp; omega
      have t3 : decide ((l.length : Int) < b) = true := by simp; omega
      have t3' : decide (b > (l.length : Int)) = true := by simp; omega
      clear h1
      go_enter Try.func21, Try.ntmps21
      go_wp2_with fail
      go_step3
      go_wp2_with fail
      rw [Exit.noGoto_ret]
      go_ret2
      exact ⟨_, rfl, OwS.nil _ _, Below.refl _ _⟩

theorem iPart_any (v : Value) (l : List Int) (a b p : Int) (w : World) (B : Nat) (hv : Ints w B v l) (hB : B ≤ w.heap.size) (hl : l.length ≤ 1048576) :
    Calls Try.prog 21 #[v, .int .i64 a, .int .i64 b, .int .i64 p] w (RetSI w (partP l a b p)) := by
  obtain ⟨ad, cap, rfl, hlen, -, hcell⟩ := hv
  by_cases h1 : 0 ≤ a ∧ a ≤ b ∧ b ≤ (l.length : Int)
  · obtain ⟨g1, g2, g3⟩ := h1
    obtain ⟨n, rfl⟩ := Int.eq_ofNat_of_zero_le g1
    obtain ⟨e, rfl⟩ := Int.eq_ofNat_of_zero_le (show 0 ≤ b by omega)
    refine iPart_in l n e p ad cap w B hcell hB hl (by omega) (by omega) _ ?_
    show _ = _
    unfold partP
    rw [if_pos ⟨g1, g2, g3⟩]
    simp only [Int.toNat_natCast]
    rw [show ((e : Int) - (n : Int)).toNat = e - n by omega]
  · have : partP l a b p = ([], 0) := by unfold partP; rw [if_neg h1]
    rw [this]
    exact iPart_no l a b p ad cap w hl h1

end Go.Proofs.Ytoaafklogibfpaa
