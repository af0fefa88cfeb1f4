/- What a call owns, by footprint: the blocks that a value's data lie in; any program. -/
import Derived.Test.YtepkkeclkdlheaaInts
import Derived.Maps.AppendAt
namespace Go.Proofs.Ytepkkeclkdlheaa
open Go.RowKit
set_option linter.unusedSimpArgs false
set_option linter.unusedVariables false

/-- Of what was there only the blocks F may have turned. -/
structure Only (F : List Nat) (w w' : World) : Prop where
  below : Below 0 w w'
  block : ∀ b, b < w.heap.size → b ∉ F → w'.heap[b]? = w.heap[b]?

theorem Only.refl (F : List Nat) (w : World) : Only F w w := ⟨Below.refl _ _, fun _ _ _ => rfl⟩

theorem Only.trans {F : List Nat} {a b c : World} (h : Only F a b) (k : Only F b c) : Only F a c :=
  ⟨h.below.trans k.below, fun x hx hn => (k.block x (Nat.lt_of_lt_of_le hx h.below.size) hn).trans (h.block x hx hn)⟩

theorem Only.mono {F G : List Nat} {w w' : World} (h : Only F w w') (hs : ∀ b ∈ F, b ∈ G) : Only G w w' := ⟨h.below, fun b hb hn => h.block b hb fun hf => hn (hs b hf)⟩

theorem Only.of_below {F : List Nat} {w w' : World} (h : Below w.heap.size w w') : Only F w w' := ⟨h.mono (Nat.zero_le _), fun b hb _ => h.block b hb⟩

theorem Only.setCell {F : List Nat} {a w : World} (h : Only F a w) {p : Addr} (hp : p.block ∈ F) (u : Value) : Only F a (w.setCell p u) :=
  h.trans ⟨(Below.refl 0 w).setCell (Nat.zero_le _) u, fun b hb hn => Below.heap_setCell _ _ _ _ (fun e => hn (e ▸ hp))⟩

theorem Only.drew {F : List Nat} {a w : World} (h : Only F a w) : Only F a w.drew := ⟨h.below.drew, h.block⟩

theorem Only.toBelow {F : List Nat} {w w' : World} {lo : Nat} (h : Only F w w') (hF : ∀ b ∈ F, lo ≤ b) (hl : lo ≤ w.heap.size) : Below lo w w' :=
  ⟨h.below.os, h.below.tape, h.below.output, h.below.size, fun k hk => h.block k (Nat.lt_of_lt_of_le hk hl) fun hf => by have := hF k hf; omega⟩

theorem owns_eq {w w' : World} {base : Nat} {e : TypeId} {z n : Nat} {v : Value} {xs : List Value} (h : w.ownsRow base e z v n xs) (hb : ∀ g, v.ownBlock = some g → w'.heap[g]? = w.heap[g]?) : w'.ownsRow base e z v n xs := by
  refine ⟨h.1, ?_⟩
  rcases h.2 with h2 | ⟨g, cap, cur, hv, hg, hh, r⟩
  · exact .inl h2
  · exact .inr ⟨g, cap, cur, hv, hg, by rw [hb g (by subst hv; rfl)]; exact hh, r⟩

theorem owns_zero {w : World} {base : Nat} {e : TypeId} {z n : Nat} {v : Value} {xs : List Value} (h : w.ownsRow base e z v n xs) : w.ownsRow 0 e z v n xs := by
  refine ⟨h.1, ?_⟩
  rcases h.2 with h2 | ⟨g, cap, cur, hv, hg, r⟩
  · exact .inl h2
  · exact .inr ⟨g, cap, cur, hv, Nat.zero_le _, r⟩

/-- The integers l lie in v's own row; F: the row's block. -/
def OI (w : World) (e : TypeId) (v : Value) (l : List Int) (F : List Nat) : Prop := Is w 0 e v l ∧ F = v.ownBlock.toList

theorem Is.zero {w : World} {base : Nat} {e : TypeId} {v : Value} {l : List Int} (h : Is w base e v l) : Is w 0 e v l := owns_zero h

theorem OI.of {w : World} {base : Nat} {e : TypeId} {v : Value} {l : List Int} (h : Is w base e v l) : OI w e v l v.ownBlock.toList ∧ ∀ b ∈ v.ownBlock.toList, base ≤ b ∧ b < w.heap.size :=
  ⟨⟨h.zero, rfl⟩, fun b hb => World.ownsRow.lt h b (by simpa using hb)⟩

theorem OI.lt {w : World} {e : TypeId} {v : Value} {l : List Int} {F : List Nat} (h : OI w e v l F) : ∀ b ∈ F, b < w.heap.size := fun b hb => (World.ownsRow.lt h.1 b (by rw [h.2] at hb; simpa using hb)).2

theorem OI.eq {w w' : World} {e : TypeId} {v : Value} {l : List Int} {F : List Nat} (h : OI w e v l F) (hb : ∀ b ∈ F, w'.heap[b]? = w.heap[b]?) : OI w' e v l F :=
  ⟨owns_eq h.1 (fun g hg => hb g (by rw [h.2, hg]; simp)), h.2⟩

theorem OI.only {w w' : World} {e : TypeId} {v : Value} {l : List Int} {F G : List Nat} (h : OI w e v l F) (hb : Only G w w') (hd : ∀ b ∈ F, b ∉ G) : OI w' e v l F :=
  h.eq fun b hf => hb.block b (h.lt b hf) (hd b hf)

theorem OI.below {w w' : World} {e : TypeId} {v : Value} {l : List Int} {F : List Nat} (h : OI w e v l F) (hb : Below w.heap.size w w') : OI w' e v l F := h.eq fun b hf => hb.block b (h.lt b hf)

/-- The integers that a mark from k on leaves. -/
def mkI (k : Int) (n : Nat) : List Int := (List.range n).map fun (j : Nat) => k + (j : Int)

theorem mkI_length (k : Int) (n : Nat) : (mkI k n).length = n := by simp [mkI]

theorem mkI_get (k : Int) (n j : Nat) (h : j < n) : (mkI k n)[j]'(by rw [mkI_length]; exact h) = k + j := by simp [mkI]

theorem mkI_step (k : Int) (l : List Int) (j : Nat) (h : j < l.length) : ((mkI k l.length).take j ++ l.drop j).set j (k + j) = (mkI k l.length).take (j + 1) ++ l.drop (j + 1) := by
  have e : j < (mkI k l.length).length := by rw [mkI_length]; exact h
  rw [List.set_append_right _ _ (by simp [mkI_length]; omega), show j - ((mkI k l.length).take j).length = 0 by simp [mkI_length]; omega, List.drop_eq_getElem_cons h, List.set_cons_zero, List.take_succ_eq_append_getElem e, mkI_get k l.length j h, List.append_assoc, List.singleton_append]

theorem OI.cells {w : World} {e : TypeId} {v : Value} {l : List Int} {F : List Nat} (h : OI w e v l F) (j : Nat) (hj : j < l.length) :
    ∃ g cap, v = .slice (some ⟨g, 0, none⟩) l.length cap ∧ F = [g] ∧ w.cell? ⟨g, j, none⟩ = some (.int .i64 l[j]) ∧ w.frozen? ⟨g, j, none⟩ = false := by
  have h1 := h.1
  rcases h.1.2 with ⟨hv, hn⟩ | ⟨g, cap, cur, hv, hb, hg, _⟩
  · omega
  · subst hv
    obtain ⟨h2, h3, _⟩ := Is.cell h1 j hj
    exact ⟨g, cap, rfl, by rw [h.2]; rfl, h2, h3⟩

theorem OI.form {w : World} {e : TypeId} {v : Value} {l : List Int} {F : List Nat} (h : OI w e v l F) : ∃ a cap, v = .slice a l.length cap ∧ l.length ≤ 9223372036854775807 := by
  rcases h.1.2 with ⟨hv, hn⟩ | ⟨g, cap, cur, hv, hb, hg, hnc, hcm, _⟩
  · exact ⟨none, 0, by rw [hv, hn], by omega⟩
  · exact ⟨_, _, hv, by unfold maxLen at hcm; omega⟩

/-- A number is returned, v's own integers now read as l', nothing else has turned. -/
def RetMI (w : World) (t : TypeId) (v : Value) (F : List Nat) (x : Int) (l : List Int) (e : Ending) (w' : World) : Prop := e = .returned (.int .i64 x) ∧ OI w' t v l F ∧ Only F w w'

set_option maxRecDepth 100000 in
set_option maxHeartbeats 1000000 in
theorem markIntS_own (v : Value) (l : List Int) (F : List Nat) (k : Int) (w : World) (h : OI w 3 v l F) (h0 : 0 ≤ k) (h1 : k + l.length ≤ 4611686018427387904) :
    Calls Try.prog 20 #[v, .int .i64 k] w (RetMI w 3 v F (k + l.length) (mkI k l.length)) := by
  have H := hide h
  obtain ⟨a, cap, rfl, -⟩ := h.form
  clear h
  go_enter Try.func20, Try.ntmps20
  go_wp2
  go_loopw [1, 5] (fun x i wr => ∃ (j : Nat) (m : List Int), j ≤ l.length ∧ i = .int .i64 j ∧ x = .int .i64 (k + j) ∧ Hid (m = (mkI k l.length).take j ++ l.drop j) ∧ Hid (OI wr 3 (.slice a l.length cap) m F) ∧ Hid (Only F w wr)) (fun _ i _ => l.length - (intOf i).toNat)
  case atStart => exact ⟨0, l, by omega, rfl, by simp, by show _ = _; simp, H.out, Only.refl _ _⟩
  case round =>
    obtain ⟨j, m, hj, rfl, rfl, hmm, ho, hw⟩ := hrel
    have hml : m.length = l.length := by rw [hmm.out]; simp [mkI_length]; omega
    by_cases hlt : j < l.length
    · have hjm : j < m.length := by omega
      obtain ⟨g, cap', hv, hF, hc, hf⟩ := ho.out.cells j hjm
      obtain ⟨rfl, rfl⟩ : a = some ⟨g, 0, none⟩ ∧ cap = cap' := by
        simp only [Value.slice.injEq] at hv
        exact ⟨hv.1, hv.2.2⟩
      have HML := hide hml
      have HF := hide hF
      obtain ⟨y, hy⟩ : ∃ y, y = m[j] := ⟨_, rfl⟩
      rw [← hy] at hc
      clear hml hv hF hjm hy
      go_wp2
      go_roundw
      case rel =>
        refine ⟨j + 1, m.set j (k + j), by omega, by go_num, by go_num, ?_, ?_, hw.out.setCell (p := ⟨g, j, none⟩) (by rw [HF.out]; simp) _⟩
        · show _ = _
          rw [hmm.out]
          exact mkI_step k l j hlt
        · have hs := (show Is wr 0 3 (.slice (some ⟨g, 0, none⟩) l.length cap) m from ho.out.1).store HML.out.symm j (k + j)
          exact ⟨hs, ho.out.2⟩
      case measure => simp [intOf]; omega
    · have hje : j = l.length := by omega
      subst hje
      have hmf : m = mkI k l.length := by rw [hmm.out, List.take_of_length_le (by rw [mkI_length]; exact Nat.le_refl _)]; simp
      subst hmf
      go_wp2
      go_ret
      exact ⟨rfl, ho.out, hw.out⟩

set_option maxRecDepth 100000 in
set_option maxHeartbeats 1000000 in
theorem heldIntS_own (v : Value) (n : Nat) (F : List Nat) (k : Int) (w : World) (h : OI w 3 v (mkI k n) F) (h0 : 0 ≤ k) (h1 : k + n ≤ 4611686018427387904) :
    Calls Try.prog 50 #[v, .int .i64 k] w fun e w' => e = .returned (.int .i64 (k + n)) ∧ w = w' := by
  have H := hide h
  obtain ⟨a, cap, hv, -⟩ := h.form
  rw [mkI_length] at hv
  subst hv
  clear h
  go_enter Try.func50, Try.ntmps50
  go_wp2
  go_loopw [1, 5] (fun x i wr => ∃ (j : Nat), j ≤ n ∧ i = .int .i64 j ∧ x = .int .i64 (k + j) ∧ w = wr) (fun _ i _ => n - (intOf i).toNat)
  case atStart => exact ⟨0, by omega, rfl, by simp, rfl⟩
  case round =>
    obtain ⟨j, hj, rfl, rfl, rfl⟩ := hrel
    by_cases hlt : j < n
    · obtain ⟨g, cap', hv, hF, hc, hf⟩ := H.out.cells j (by rw [mkI_length]; exact hlt)
      obtain ⟨rfl, rfl⟩ : a = some ⟨g, 0, none⟩ ∧ cap = cap' := by
        simp only [Value.slice.injEq] at hv
        exact ⟨hv.1, hv.2.2⟩
      rw [mkI_get k n j hlt] at hc
      have ht : (k + (j : Int) != k + (j : Int)) = false := by simp
      clear hv hF
      go_wp2
      go_roundw
      case rel => exact ⟨j + 1, by omega, by go_num, by go_num, trivial⟩
      case measure => simp [intOf]; omega
    · have hje : j = n := by omega
      subst hje
      go_wp2
      go_ret
      exact ⟨rfl, rfl⟩

/-- What an element's cells hold: the element's data and its footprint. -/
abbrev Pr (D : Type) := World → List Value → D → List Nat → Prop

/-- The cells of a row of elements. -/
def rowE {D : Type} (E : Pr D) (w : World) : List D → List Value → List Nat → Prop
  | [], c, F => c = [] ∧ F = []
  | d :: ds, c, F => ∃ c1 c2 F1 F2, c = c1 ++ c2 ∧ F = F1 ++ F2 ∧ E w c1 d F1 ∧ rowE E w ds c2 F2

/-- An element's word hangs on its footprint alone; it has z cells. -/
structure Good {D : Type} (E : Pr D) (z : Nat) : Prop where
  kept : ∀ {w w' : World} {c : List Value} {d : D} {F : List Nat}, E w c d F → (∀ b ∈ F, w'.heap[b]? = w.heap[b]?) → E w' c d F
  lt : ∀ {w : World} {c : List Value} {d : D} {F : List Nat}, E w c d F → ∀ b ∈ F, b < w.heap.size
  size : ∀ {w : World} {c : List Value} {d : D} {F : List Nat}, E w c d F → c.length = z

theorem rowE_append {D : Type} {E : Pr D} {w : World} (a b : List D) : ∀ (c : List Value) (F : List Nat), rowE E w (a ++ b) c F ↔ ∃ c1 c2 F1 F2, c = c1 ++ c2 ∧ F = F1 ++ F2 ∧ rowE E w a c1 F1 ∧ rowE E w b c2 F2 := by
  induction a with
  | nil =>
    intro c F
    constructor
    · intro h; exact ⟨[], c, [], F, rfl, rfl, ⟨rfl, rfl⟩, h⟩
    · rintro ⟨c1, c2, F1, F2, rfl, rfl, ⟨rfl, rfl⟩, h⟩; simpa using h
  | cons d ds ih =>
    intro c F
    constructor
    · rintro ⟨c1, c2, F1, F2, rfl, rfl, h1, h2⟩
      obtain ⟨c3, c4, F3, F4, rfl, rfl, h3, h4⟩ := (ih c2 F2).1 h2
      exact ⟨c1 ++ c3, c4, F1 ++ F3, F4, by rw [List.append_assoc], by rw [List.append_assoc], ⟨c1, c3, F1, F3, rfl, rfl, h1, h3⟩, h4⟩
    · rintro ⟨c1, c2, F1, F2, rfl, rfl, ⟨c3, c4, F3, F4, rfl, rfl, h3, h4⟩, h2⟩
      exact ⟨c3, c4 ++ c2, F3, F4 ++ F2, by rw [List.append_assoc], by rw [List.append_assoc], h3, (ih _ _).2 ⟨c4, c2, F4, F2, rfl, rfl, h4, h2⟩⟩

theorem rowE_len {D : Type} {E : Pr D} {z : Nat} (hg : Good E z) {w : World} : ∀ (ds : List D) (c : List Value) (F : List Nat), rowE E w ds c F → c.length = ds.length * z := by
  intro ds
  induction ds with
  | nil => rintro c F ⟨rfl, _⟩; simp
  | cons d ds ih =>
    rintro c F ⟨c1, c2, F1, F2, rfl, rfl, h1, h2⟩
    rw [List.length_append, hg.size h1, ih _ _ h2, List.length_cons, Nat.succ_mul]
    omega

theorem rowE_kept {D : Type} {E : Pr D} {z : Nat} (hg : Good E z) {w w' : World} : ∀ (ds : List D) (c : List Value) (F : List Nat), rowE E w ds c F → (∀ b ∈ F, w'.heap[b]? = w.heap[b]?) → rowE E w' ds c F := by
  intro ds
  induction ds with
  | nil => intro c F h _; exact h
  | cons d ds ih =>
    rintro c F ⟨c1, c2, F1, F2, rfl, rfl, h1, h2⟩ hb
    exact ⟨c1, c2, F1, F2, rfl, rfl, hg.kept h1 fun b hf => hb b (List.mem_append_left _ hf), ih _ _ h2 fun b hf => hb b (List.mem_append_right _ hf)⟩

theorem rowE_lt {D : Type} {E : Pr D} {z : Nat} (hg : Good E z) {w : World} : ∀ (ds : List D) (c : List Value) (F : List Nat), rowE E w ds c F → ∀ b ∈ F, b < w.heap.size := by
  intro ds
  induction ds with
  | nil => rintro c F ⟨_, rfl⟩ b hb; simp at hb
  | cons d ds ih =>
    rintro c F ⟨c1, c2, F1, F2, rfl, rfl, h1, h2⟩ b hb
    rcases List.mem_append.1 hb with hb | hb
    · exact hg.lt h1 b hb
    · exact ih _ _ h2 b hb

theorem split_at {D : Type} (ds : List D) (j : Nat) (hj : j < ds.length) : ds = ds.take j ++ ds[j] :: ds.drop (j + 1) := by
  rw [← List.drop_eq_getElem_cons hj, List.take_append_drop]

/-- v is a slice whose row and whose elements are the call's own (footprint F, no block twice). -/
def slE {D : Type} (t : TypeId) (z : Nat) (E : Pr D) (w : World) (v : Value) (ds : List D) (F : List Nat) : Prop :=
  (v = .slice none 0 0 ∧ ds = [] ∧ F = []) ∨ ∃ g cap xs F', v = .slice (some ⟨g, 0, none⟩) ds.length cap ∧ w.ownsRow 0 t z v ds.length xs ∧ rowE E w ds xs F' ∧ F = g :: F' ∧ F.Nodup

theorem slE.kept {D : Type} {t : TypeId} {z : Nat} {E : Pr D} (hg : Good E z) {w w' : World} {v : Value} {ds : List D} {F : List Nat} (h : slE t z E w v ds F) (hb : ∀ b ∈ F, w'.heap[b]? = w.heap[b]?) : slE t z E w' v ds F := by
  rcases h with h | ⟨g, cap, xs, F', rfl, h2, h3, rfl, h5⟩
  · exact .inl h
  · refine .inr ⟨g, cap, xs, F', rfl, owns_eq h2 (fun g' hg' => ?_), rowE_kept hg _ _ _ h3 (fun b hf => hb b (List.mem_cons_of_mem _ hf)), rfl, h5⟩
    simp [Value.ownBlock] at hg'
    subst hg'
    exact hb _ (by simp)

theorem slE.lt {D : Type} {t : TypeId} {z : Nat} {E : Pr D} (hg : Good E z) {w : World} {v : Value} {ds : List D} {F : List Nat} (h : slE t z E w v ds F) : ∀ b ∈ F, b < w.heap.size := by
  rcases h with ⟨_, _, rfl⟩ | ⟨g, cap, xs, F', rfl, h2, h3, rfl, h5⟩
  · intro b hb; simp at hb
  · intro b hb
    rcases List.mem_cons.1 hb with rfl | hb
    · exact (World.ownsRow.lt h2 _ rfl).2
    · exact rowE_lt hg _ _ _ h3 b hb

theorem slE.only {D : Type} {t : TypeId} {z : Nat} {E : Pr D} (hg : Good E z) {w w' : World} {v : Value} {ds : List D} {F G : List Nat} (h : slE t z E w v ds F) (hb : Only G w w') (hd : ∀ b ∈ F, b ∉ G) : slE t z E w' v ds F :=
  h.kept hg fun b hf => hb.block b (h.lt hg b hf) (hd b hf)

theorem slE.below {D : Type} {t : TypeId} {z : Nat} {E : Pr D} (hg : Good E z) {w w' : World} {v : Value} {ds : List D} {F : List Nat} (h : slE t z E w v ds F) (hb : Below w.heap.size w w') : slE t z E w' v ds F :=
  h.kept hg fun b hf => hb.block b (h.lt hg b hf)

theorem slE.form {D : Type} {t : TypeId} {z : Nat} {E : Pr D} {w : World} {v : Value} {ds : List D} {F : List Nat} (h : slE t z E w v ds F) : ∃ a cap, v = .slice a ds.length cap ∧ ds.length ≤ 9223372036854775807 := by
  rcases h with ⟨rfl, rfl, _⟩ | ⟨g, cap, xs, F', rfl, h2, h3, _⟩
  · exact ⟨none, 0, rfl, by simp⟩
  · refine ⟨_, _, rfl, ?_⟩
    rcases h2.2 with ⟨hv, hn⟩ | ⟨g, cap, cur, hv, hb, hg, hnc, hcm, _⟩
    · omega
    · unfold maxLen at hcm; omega

/-- Element j: its cells, and what may be done with it. -/
theorem slE.at {D : Type} {t : TypeId} {z : Nat} {E : Pr D} (hg : Good E z) {w : World} {v : Value} {ds : List D} {F : List Nat} (h : slE t z E w v ds F) (j : Nat) (hj : j < ds.length) :
    ∃ g cap c Fj, v = .slice (some ⟨g, 0, none⟩) ds.length cap ∧ g ∈ F ∧ g < w.heap.size ∧ g ∉ Fj ∧ (∀ b ∈ Fj, b ∈ F) ∧ E w c ds[j] Fj ∧ c.length = z ∧ (∀ i, i < z → w.cell? ⟨g, j * z + i, none⟩ = c[i]?) ∧ (∀ o, w.frozen? ⟨g, o, none⟩ = false) ∧
      (∀ w' d, Only Fj w w' → E w' c d Fj → slE t z E w' v (ds.set j d) F) ∧
      (∀ i u d, i < z → E (w.setCell ⟨g, j * z + i, none⟩ u) (c.set i u) d Fj → slE t z E (w.setCell ⟨g, j * z + i, none⟩ u) v (ds.set j d) F) := by
  rcases h with ⟨_, rfl, _⟩ | ⟨g, cap, xs, F', rfl, h2, h3, rfl, h5⟩
  · simp at hj
  · have hs := split_at ds j hj
    have h3' := h3
    rw [hs] at h3'
    obtain ⟨cA, c2, FA, F2, rfl, rfl, hA, ⟨cj, cB, Fj, FB, rfl, rfl, hE, hB⟩⟩ := (rowE_append _ _ _ _).1 h3'
    have hlA : cA.length = j * z := by rw [rowE_len hg _ _ _ hA, List.length_take]; congr 1; omega
    have hlj : cj.length = z := hg.size hE
    have hlx := rowE_len hg _ _ _ h3
    have hjz : j * z + z ≤ ds.length * z := by
      rw [← Nat.succ_mul]; exact Nat.mul_le_mul_right z hj
    have hnd := h5
    rw [List.nodup_cons, List.nodup_append, List.nodup_append] at hnd
    obtain ⟨hgn, hndA, ⟨hndj, hndB, hdjB⟩, hdA⟩ := hnd
    refine ⟨g, cap, cj, Fj, rfl, by simp, (World.ownsRow.lt h2 _ rfl).2, fun hh => hgn (by simp [hh]), fun b hb => by simp [hb], hE, hlj, ?_, fun o => World.ownsRow.frozenAt h2 o, ?_, ?_⟩
    · intro i hi
      rw [World.ownsRow.cellAt h2 (j * z + i) (by omega), List.getElem?_append_right (by omega), List.getElem?_append_left (by omega)]
      congr 1
      omega
    · intro w' d hw hE'
      have hset : ds.set j d = ds.take j ++ d :: ds.drop (j + 1) := by rw [List.set_eq_take_append_cons_drop, if_pos hj]
      have hl' : (ds.set j d).length = ds.length := List.length_set
      refine .inr ⟨g, cap, cA ++ (cj ++ cB), FA ++ (Fj ++ FB), by rw [hl'], ?_, ?_, rfl, h5⟩
      · rw [hl']
        refine owns_eq h2 fun g' hg' => ?_
        simp [Value.ownBlock] at hg'
        subst hg'
        exact hw.block _ (World.ownsRow.lt h2 _ rfl).2 (fun hh => hgn (by simp [hh]))
      · rw [hset]
        refine (rowE_append _ _ _ _).2 ⟨cA, cj ++ cB, FA, Fj ++ FB, rfl, rfl, rowE_kept hg _ _ _ hA (fun b hb => hw.block b (rowE_lt hg _ _ _ hA b hb) (fun hh => hdA b hb b (by simp [hh]) rfl)), cj, cB, Fj, FB, rfl, rfl, hE', rowE_kept hg _ _ _ hB (fun b hb => hw.block b (rowE_lt hg _ _ _ hB b hb) (fun hh => hdjB b hh b hb rfl))⟩
    · intro i u d hi hE'
      have hset : ds.set j d = ds.take j ++ d :: ds.drop (j + 1) := by rw [List.set_eq_take_append_cons_drop, if_pos hj]
      have hl' : (ds.set j d).length = ds.length := List.length_set
      have hxs : (cA ++ (cj ++ cB)).set (j * z + i) u = cA ++ (cj.set i u ++ cB) := by
        rw [List.set_append_right _ _ (by omega), List.set_append_left _ _ (by omega)]
        congr 3
        omega
      have hst := (World.ownsRow.stored h2 (j * z + i) u).1
      rw [hxs] at hst
      have far : ∀ b, b ≠ g → (w.setCell ⟨g, j * z + i, none⟩ u).heap[b]? = w.heap[b]? := fun b hb => Below.heap_setCell _ _ _ _ hb
      refine .inr ⟨g, cap, cA ++ (cj.set i u ++ cB), FA ++ (Fj ++ FB), by rw [hl'], by rw [hl']; exact hst, ?_, rfl, h5⟩
      rw [hset]
      exact (rowE_append _ _ _ _).2 ⟨cA, cj.set i u ++ cB, FA, Fj ++ FB, rfl, rfl, rowE_kept hg _ _ _ hA (fun b hb => far b (fun e => hgn (by subst e; simp [hb]))), cj.set i u, cB, Fj, FB, rfl, rfl, hE', rowE_kept hg _ _ _ hB (fun b hb => far b (fun e => hgn (by subst e; simp [hb])))⟩

/-- Element j is given a new footprint: after a change of its own blocks and one store into its cells. -/
theorem slE.swap {D : Type} {t : TypeId} {z : Nat} {E : Pr D} (hg : Good E z) {w : World} {v : Value} {ds : List D} {F : List Nat} (h : slE t z E w v ds F) (j : Nat) (hj : j < ds.length) :
    ∃ g cap c Fj FA FB, v = .slice (some ⟨g, 0, none⟩) ds.length cap ∧ F = g :: (FA ++ (Fj ++ FB)) ∧ g < w.heap.size ∧ g ∉ Fj ∧ E w c ds[j] Fj ∧ c.length = z ∧ (∀ i, i < z → w.cell? ⟨g, j * z + i, none⟩ = c[i]?) ∧ (∀ o, w.frozen? ⟨g, o, none⟩ = false) ∧
      ∀ (w1 : World) (i : Nat) (x : Value) (d : D) (Fj' : List Nat), Only Fj w w1 → i < z → E (w1.setCell ⟨g, j * z + i, none⟩ x) (c.set i x) d Fj' → (∀ b ∈ Fj', b ∉ g :: (FA ++ FB)) → Fj'.Nodup → slE t z E (w1.setCell ⟨g, j * z + i, none⟩ x) v (ds.set j d) (g :: (FA ++ (Fj' ++ FB))) := by
  rcases h with ⟨_, rfl, _⟩ | ⟨g, cap, xs, F', rfl, h2, h3, rfl, h5⟩
  · simp at hj
  · have hs := split_at ds j hj
    have h3' := h3
    rw [hs] at h3'
    obtain ⟨cA, c2, FA, F2, rfl, rfl, hA, ⟨cj, cB, Fj, FB, rfl, rfl, hE, hB⟩⟩ := (rowE_append _ _ _ _).1 h3'
    have hlA : cA.length = j * z := by rw [rowE_len hg _ _ _ hA, List.length_take]; congr 1; omega
    have hlj : cj.length = z := hg.size hE
    have hlx := rowE_len hg _ _ _ h3
    have hjz : j * z + z ≤ ds.length * z := by
      rw [← Nat.succ_mul]; exact Nat.mul_le_mul_right z hj
    have hnd := h5
    rw [List.nodup_cons, List.nodup_append, List.nodup_append] at hnd
    obtain ⟨hgn, hndA, ⟨hndj, hndB, hdjB⟩, hdA⟩ := hnd
    have hgs : g < w.heap.size := (World.ownsRow.lt h2 _ rfl).2
    refine ⟨g, cap, cj, Fj, FA, FB, rfl, rfl, hgs, fun hh => hgn (by simp [hh]), hE, hlj, ?_, fun o => World.ownsRow.frozenAt h2 o, ?_⟩
    · intro i hi
      rw [World.ownsRow.cellAt h2 (j * z + i) (by omega), List.getElem?_append_right (by omega), List.getElem?_append_left (by omega)]
      congr 1
      omega
    · intro w1 i u d Fj' hw hi hE' hdis hndj'
      have hset : ds.set j d = ds.take j ++ d :: ds.drop (j + 1) := by rw [List.set_eq_take_append_cons_drop, if_pos hj]
      have hl' : (ds.set j d).length = ds.length := List.length_set
      have hxs : (cA ++ (cj ++ cB)).set (j * z + i) u = cA ++ (cj.set i u ++ cB) := by
        rw [List.set_append_right _ _ (by omega), List.set_append_left _ _ (by omega)]
        congr 3
        omega
      have h21 : w1.ownsRow 0 t z (.slice (some ⟨g, 0, none⟩) ds.length cap) ds.length (cA ++ (cj ++ cB)) := owns_eq h2 fun g' hg' => by
        simp [Value.ownBlock] at hg'
        subst hg'
        exact hw.block _ hgs (fun hh => hgn (by simp [hh]))
      have hst := (World.ownsRow.stored h21 (j * z + i) u).1
      rw [hxs] at hst
      have far : ∀ b, b ≠ g → (w1.setCell ⟨g, j * z + i, none⟩ u).heap[b]? = w1.heap[b]? := fun b hb => Below.heap_setCell _ _ _ _ hb
      refine .inr ⟨g, cap, cA ++ (cj.set i u ++ cB), FA ++ (Fj' ++ FB), by rw [hl'], by rw [hl']; exact hst, ?_, rfl, ?_⟩
      · rw [hset]
        exact (rowE_append _ _ _ _).2 ⟨cA, cj.set i u ++ cB, FA, Fj' ++ FB, rfl, rfl, rowE_kept hg _ _ _ hA (fun b hb => (far b (fun e => hgn (by subst e; simp [hb]))).trans (hw.block b (rowE_lt hg _ _ _ hA b hb) (fun hh => hdA b hb b (by simp [hh]) rfl))), cj.set i u, cB, Fj', FB, rfl, rfl, hE', rowE_kept hg _ _ _ hB (fun b hb => (far b (fun e => hgn (by subst e; simp [hb]))).trans (hw.block b (rowE_lt hg _ _ _ hB b hb) (fun hh => hdjB b hh b hb rfl)))⟩
      · rw [List.nodup_cons, List.nodup_append, List.nodup_append]
        refine ⟨?_, hndA, ⟨hndj', hndB, fun p hp q hq e => by subst e; exact hdis p hp (by simp [hq])⟩, fun p hp q hq e => ?_⟩
        · intro hh
          rcases List.mem_append.1 hh with hh | hh
          · exact hgn (by simp [hh])
          · rcases List.mem_append.1 hh with hh | hh
            · exact hdis g hh (by simp)
            · exact hgn (by simp [hh])
        · subst e
          rcases List.mem_append.1 hq with hq | hq
          · exact hdis p hq (by simp [hp])
          · exact hdA p hp p (by simp [hq]) rfl

/-- append(v, b) of owned integers: b lies in a block of one cell that was just made. -/
theorem oi_append {P : Program} (W : World) {ops : Array Oper} {rest : List Oper} {o : Oper} {a : Act} {Q : Exit → Act → World → Prop} (hgd : o.guard = none) (s x : Operand) (t : TypeId)
    (ho : o.op = .call { callee := .builtin .append, args := #[s, x], argTypes := #[t, t] })
    (e : TypeId) (ht : P.underlying t = some (.slice e)) (hinf : (P.info? e).map (fun i => (i.zero, i.size, i.bytes)) = some (some (.int .i64 0), 1, 8))
    (v : Value) (l : List Int) (F : List Nat) (hown : OI W e v l F) (hs : a.eval s = v) (b : Int) (c : Nat)
    (hx : a.eval x = .slice (some ⟨W.heap.size, 0, none⟩) 1 c) (hlen : l.length < 1099511627776)
    (h : ∀ g cap w', OI w' e (.slice (some ⟨g, 0, none⟩) (l.length + 1) cap) (l ++ [b]) [g] → (g ∈ F ∨ W.heap.size ≤ g) → Only F W w' → W.heap.size < w'.heap.size → wpList P ops Q rest (a.put o.dst (.slice (some ⟨g, 0, none⟩) (l.length + 1) cap)) w') :
    wpList P ops Q (o :: rest) a (W.alloc (.cells #[.int .i64 b] e)) := by
  obtain ⟨i0, hi, hz0, hz1, hz2⟩ := info_parts hinf
  have hown2 : (W.alloc (.cells #[.int .i64 b] e)).ownsRow 0 e 1 v l.length (intVs l) := World.ownsRow.alloc hown.1 _
  refine wpList_append_own_at _ hgd s x t ho 0 e i0 (.int .i64 0) 1 8 ht hi hz0 hz1 hz2 rfl (by decide) v l.length (intVs l) hs hown2 ⟨W.heap.size, 0, none⟩ 1 c [.int .i64 b] hx rfl ?_ ?_ ?_ ?_ ?_ ?_
  · intro j u hj
    match j, hj with
    | 0, hj => simp at hj; subst hj; simp [Addr.add]
  · intro u hu; simp at hu; subst hu; rfl
  · unfold maxLen; omega
  · omega
  · omega
  · intro v' w' hown' hgrow hnil hat
    obtain ⟨g, cap, rfl⟩ : ∃ g cap, v' = .slice (some ⟨g, 0, none⟩) (l.length + 1) cap := by
      rcases hown'.2 with ⟨_, hn⟩ | ⟨g, cap, cur, hv, _⟩
      · omega
      · exact ⟨g, cap, hv⟩
    have hF : F = v.ownBlock.toList := hown.2
    have hsz := hgrow.size
    rw [show (W.alloc (.cells #[.int .i64 b] e)).heap.size = W.heap.size + 1 from Array.size_push _] at hsz
    refine h g cap w' ⟨?_, rfl⟩ ?_ ?_ (by omega)
    · unfold Is
      have e1 : intVs (l ++ [b]) = intVs l ++ [.int .i64 b] := by simp [intVs]
      rw [e1, List.length_append]
      exact hown'
    · rcases hat with hat | hat
      · left; rw [hF, ← hat]; simp [Value.ownBlock]
      · right
        simp [Value.ownBlock] at hat
        omega
    · refine (Only.of_below ((Below.refl W.heap.size W).alloc (Nat.le_refl _) (.cells #[.int .i64 b] e))).trans ⟨⟨hgrow.os, hgrow.tape, hgrow.output, hgrow.size, fun k hk => absurd hk (Nat.not_lt_zero k)⟩, fun k hk hn => hgrow.block k hk (fun ek => hn (by rw [hF, ← ek]; simp))⟩

end Go.Proofs.Ytepkkeclkdlheaa
