/- A region that draws its order, by facts of its operations, with memory that passes from one to the next: an operation may take over the blocks of another one (an append writes on in a row; a store fills a box), also of what was there ahead of the region (numbers from the operations' on). Any program. -/
import Derived.Test.YtajfhalalnlejaaRf
namespace Go.Proofs.Ytajfhalalnlejaa
open Go.RowKit
set_option linter.unusedSimpArgs false
set_option linter.unusedVariables false

/-- What was there below G and in the blocks of own is as it was. -/
structure Kept2 (G : Nat) (own : Nat → Prop) (W W' : World) : Prop where
  size : W.heap.size ≤ W'.heap.size
  block : ∀ b, b < W.heap.size → (b < G ∨ own b) → W'.heap[b]? = W.heap[b]?

abbrev OFact := Nat → (Nat → Prop) → (Nat → Value) → World → Prop

/-- The rows that part a region: what each operation waits for, whose blocks it takes over, whose facts it wants, which slots its fact names; q: how many owners there were ahead of the region. -/
def ofOk (md : Region.Mode) (ops : Array Oper) (q : Nat) (anc S : List (List Nat)) (takes : List (Option Nat)) (use : List (List Nat)) : Bool :=
  let n := ops.size
  let A := fun i => anc.getD i []
  let T := fun i => takes.getD i none
  (List.range n).all fun i =>
    ((ops[i]?).map fun o => o.after.all fun e => !Region.binds md e || (A i).contains e.on).getD true &&
    ((A i).all fun j => decide (j < i) && ((A j).all fun k => (A i).contains k) && (((ops[i]?).map fun o => o.after.any fun e => Region.binds md e && (e.on == j || (A e.on).contains j)).getD false)) &&
    ((use.getD i []).all fun j => ((A i).contains j || (decide (n ≤ j) && decide (j < n + q))) && (List.range n).all fun k => !(T k == some j) || k == i || (A k).contains i) &&
    (match T i with | none => true | some j => (use.getD i []).contains j) &&
    (List.range n).all fun j => (j == i || (A i).contains j || match rdst ops j with | none => true | some d => !(S.getD i []).contains d)

structure OfStep (F : OFact) (S : List (List Nat)) (takes : List (Option Nat)) (own : Nat → Nat → Prop) (i : Nat) (dst : Option Nat) (a : Act) (W : World) (v : Value) (W' : World) : Prop where
  grow : Below 0 W W'
  keep : ∀ b, b < W.heap.size → (∀ j, takes.getD i none = some j → ¬ own j b) → W'.heap[b]? = W.heap[b]?
  fact : F i (fun b => (W.heap.size ≤ b ∧ b < W'.heap.size) ∨ ∃ j, takes.getD i none = some j ∧ own j b) (visp (S.getD i []) a dst v) W'

/-- An owner's fact and blocks are still its own. -/
def OLive (n : Nat) (takes : List (Option Nat)) (done : Nat → Bool) (i : Nat) : Prop := (i < n → done i = true) ∧ ∀ k, k < n → done k = true → takes.getD k none ≠ some i

structure OfInv (G : Nat) (w0 : World) (a0 : Act) (ops : Array Oper) (q : Nat) (F : OFact) (anc S : List (List Nat)) (takes : List (Option Nat)) (own : Nat → Nat → Prop) (done : Nat → Bool) (a : Act) (W : World) : Prop where
  below : Below G w0 W
  low : G ≤ W.heap.size
  size : a.tmps.size = a0.tmps.size
  defers : a.defers = a0.defers
  rest : ∀ s, (∀ j, j < ops.size → rdst ops j ≠ some s) → slot a s = slot a0 s
  clos : ∀ i, i < ops.size → done i = true → ∀ j ∈ anc.getD i [], done j = true
  fact : ∀ i, i < ops.size + q → OLive ops.size takes done i → F i (own i) (vis (S.getD i []) a) W
  dom : ∀ i, i < ops.size + q → OLive ops.size takes done i → ∀ b, own i b → G ≤ b ∧ b < W.heap.size
  apart : ∀ i j, i < ops.size + q → j < ops.size + q → OLive ops.size takes done i → OLive ops.size takes done j → i ≠ j → ∀ b, own i b → ¬ own j b

section
variable {P : Program} {md : Region.Mode} {ops : Array Oper} {Q : Exit → Act → World → Prop}

theorem ofOk_spec {q : Nat} {anc S : List (List Nat)} {takes : List (Option Nat)} {use : List (List Nat)} (h : ofOk md ops q anc S takes use = true) {i : Nat} (hi : i < ops.size) :
    (∀ o, ops[i]? = some o → ∀ e ∈ o.after, Region.binds md e = true → e.on ∈ anc.getD i []) ∧
    (∀ j ∈ anc.getD i [], j < i ∧ (∀ k ∈ anc.getD j [], k ∈ anc.getD i []) ∧ ∃ o, ops[i]? = some o ∧ ∃ e ∈ o.after, Region.binds md e = true ∧ (e.on = j ∨ j ∈ anc.getD e.on [])) ∧
    (∀ j ∈ use.getD i [], (j ∈ anc.getD i [] ∨ (ops.size ≤ j ∧ j < ops.size + q)) ∧ ∀ k, k < ops.size → takes.getD k none = some j → k = i ∨ i ∈ anc.getD k []) ∧
    (∀ j, takes.getD i none = some j → j ∈ use.getD i []) ∧
    (∀ j, j < ops.size → j ≠ i → j ∉ anc.getD i [] → ∀ d, rdst ops j = some d → (S.getD i []).contains d = false) := by
  have h1 := List.all_eq_true.1 h i (List.mem_range.2 hi)
  simp only [Bool.and_eq_true] at h1
  obtain ⟨⟨⟨⟨h1, h2⟩, h3⟩, h4⟩, h5⟩ := h1
  refine ⟨fun o ho e he hb => ?_, fun j hj => ?_, fun j hj => ?_, fun j hj => ?_, fun j hj hne hna d hd => ?_⟩
  · rw [ho] at h1
    simp only [Option.map_some, Option.getD_some] at h1
    have := Array.all_eq_true'.1 h1 e he
    rw [hb] at this
    simpa using this
  · have := List.all_eq_true.1 h2 j hj
    simp only [Bool.and_eq_true, decide_eq_true_eq] at this
    refine ⟨this.1.1, fun k hk => by simpa using List.all_eq_true.1 this.1.2 k hk, ?_⟩
    have h5 := this.2
    cases ho : ops[i]? with
    | none => rw [ho] at h5; cases h5
    | some o =>
      rw [ho] at h5
      simp only [Option.map_some, Option.getD_some] at h5
      obtain ⟨k, hk, h6⟩ := Array.any_eq_true.1 h5
      simp only [Bool.and_eq_true, Bool.or_eq_true, beq_iff_eq, List.contains_iff_mem] at h6
      exact ⟨o, rfl, _, Array.getElem_mem hk, h6.1, h6.2⟩
  · have := List.all_eq_true.1 h3 j hj
    simp only [Bool.and_eq_true, Bool.or_eq_true, decide_eq_true_eq, List.contains_iff_mem] at this
    refine ⟨this.1, fun k hk ht => ?_⟩
    have h6 := List.all_eq_true.1 this.2 k (List.mem_range.2 hk)
    simp only [Bool.or_eq_true, beq_iff_eq, List.contains_iff_mem] at h6
    rcases h6 with (h6 | h6) | h6
    · rw [ht] at h6; simp at h6
    · exact .inl h6
    · exact .inr h6
  · rw [hj] at h4
    simpa using h4
  · have := List.all_eq_true.1 h5 j (List.mem_range.2 hj)
    simp only [Bool.or_eq_true, beq_iff_eq] at this
    rcases this with (h6 | h6) | h6
    · exact absurd h6 hne
    · exact absurd (by simpa using h6) hna
    · rw [hd] at h6
      simpa using h6

theorem wpAny_own {a0 : Act} {w0 : World} (G q : Nat) (F : OFact) (anc S : List (List Nat)) (takes : List (Option Nat)) (use : List (List Nat)) (own0 : Nat → Nat → Prop)
    (hok : ofOk md ops q anc S takes use = true) (hfits : rfFits ops a0.tmps.size = true) (t m : Nat) (htm : t + m = ops.size) (htl : rfTl ops.size t anc = true)
    (hG : G ≤ w0.heap.size)
    (h0 : ∀ i, ops.size ≤ i → i < ops.size + q → F i (own0 i) (vis (S.getD i []) a0) w0 ∧ ∀ b, own0 i b → G ≤ b ∧ b < w0.heap.size)
    (h0a : ∀ i j, ops.size ≤ i → i < ops.size + q → ops.size ≤ j → j < ops.size + q → i ≠ j → ∀ b, own0 i b → ¬ own0 j b)
    (hS : ∀ i, ops.size ≤ i → S.getD i [] = [])
    (hst : ∀ i, i < t ∨ ops.size ≤ i → i < ops.size + q → ∀ ow s W W', F i ow s W → (∀ b, ow b → b < W.heap.size) → G ≤ W.heap.size → Kept2 G ow W W' → F i ow s W')
    (hstep : ∀ i, i < t → ∀ (a : Act) (W : World) (own : Nat → Nat → Prop), Below G w0 W → G ≤ W.heap.size → a.tmps.size = a0.tmps.size → a.defers = a0.defers → (∀ s, (∀ j, j < ops.size → rdst ops j ≠ some s) → slot a s = slot a0 s) →
      (∀ j ∈ use.getD i [], F j (own j) (vis (S.getD j []) a) W) → (∀ j ∈ use.getD i [], ∀ b, own j b → G ≤ b ∧ b < W.heap.size) → (∀ j ∈ use.getD i [], ∀ k ∈ use.getD i [], j ≠ k → ∀ b, own j b → ¬ own k b) →
      ∀ K : Act → World → Prop, (∀ v W', OfStep F S takes own i (rdst ops i) a W v W' → K (a.put (rdst ops i) v) W') → wpOp P ops Q i K a W)
    (hfin : ∀ (a : Act) (W : World) (own : Nat → Nat → Prop), OfInv G w0 a0 ops q F anc S takes own (fun i => decide (i < t)) a W → rfTail P ops Q m t a W) :
    wpAny P md ops Q ops.size (Array.replicate ops.size false) a0 { w0 with drawn := w0.drawn + 1 } := by
  have tail : ∀ (listed : Array Bool) (a : Act) (W : World) (own : Nat → Nat → Prop), OfInv G w0 a0 ops q F anc S takes own (fun k => listed.getD k false) a W → (∀ j, j < t → listed.getD j false = true) → (∀ j, t ≤ j → j < ops.size → listed.getD j false = false) → rfTail P ops Q m t a W := by
    intro listed a W own I hl hn
    have hlive : ∀ i, OLive ops.size takes (fun i => decide (i < t)) i → OLive ops.size takes (fun k => listed.getD k false) i := by
      rintro i ⟨h1, h2⟩
      refine ⟨fun hi => hl i (of_decide_eq_true (h1 hi)), fun k hk hd => h2 k hk ?_⟩
      rcases Nat.lt_or_ge k t with h | h
      · exact decide_eq_true h
      · have := hn k h hk
        simp only at hd
        rw [this] at hd
        cases hd
    refine hfin a W own ⟨I.below, I.low, I.size, I.defers, I.rest, fun i hi hd j hj => ?_, fun i hi hv => I.fact i hi (hlive i hv), fun i hi hv => I.dom i hi (hlive i hv), fun i j hi hj h1 h2 => I.apart i j hi hj (hlive i h1) (hlive j h2)⟩
    obtain ⟨-, r2, -⟩ := ofOk_spec hok hi
    exact decide_eq_true (Nat.lt_trans (r2 j hj).1 (of_decide_eq_true hd))
  refine wpAny_inv (fun listed a W => (∃ own, OfInv G w0 a0 ops q F anc S takes own (fun k => listed.getD k false) a W ∧ ∀ k, t ≤ k → k < ops.size → listed.getD k false = false) ∨ (∃ k p, t ≤ k ∧ k + p = ops.size ∧ (∀ j, j < k → listed.getD j false = true) ∧ (∀ j, k ≤ j → j < ops.size → listed.getD j false = false) ∧ rfTail P ops Q p k a W)) ?_ ?_ _ _ _ _ (by simp) (by simp) ?_
  · intro listed a W i hI hs hi hli hdep
    have hlf : listed.getD i false = false := by
      have hil : i < listed.size := by omega
      simp only [Array.getD, hil, dif_pos] at hli ⊢
      exact hli
    obtain ⟨r1, r2, r3, r4, r5⟩ := ofOk_spec hok hi
    rcases hI with ⟨own, I, htn⟩ | ⟨k, p, hk1, hk2, hk3, hk4, hT⟩
    rotate_left
    · have hki : k ≤ i := by
        rcases Nat.lt_or_ge i k with h | h
        · have := hk3 i h; rw [hlf] at this; cases this
        · exact h
      have hik : i = k := by
        rcases Nat.lt_or_ge k i with h | h
        · exfalso
          have hm := rfTl_spec htl hi (Nat.le_trans hk1 hki) k h
          obtain ⟨-, -, o, ho, e, he, hb, hc⟩ := r2 k hm
          have hl := hdep o ho e he hb
          have hon : e.on < k := by
            rcases Nat.lt_or_ge e.on k with h2 | h2
            · exact h2
            · have := hk4 e.on h2 (Nat.lt_trans (r2 _ (r1 o ho e he hb)).1 hi)
              rw [this] at hl; cases hl
          rcases hc with rfl | hc
          · omega
          · have hen : e.on < ops.size := by omega
            obtain ⟨-, s2, -⟩ := ofOk_spec hok hen
            have := (s2 k hc).1
            omega
        · omega
      subst hik
      obtain ⟨p, rfl⟩ : ∃ p', p = p' + 1 := ⟨p - 1, by omega⟩
      have hil : i < listed.size := by omega
      refine wpOp_mono (fun a' W' hT' => .inr ⟨i + 1, p, by omega, by omega, fun j hj => ?_, fun j hj hjn => ?_, hT'⟩) hT
      · rw [listed_set hil]
        by_cases e : j = i
        · rw [if_pos e]
        · rw [if_neg e]; exact hk3 j (by omega)
      · rw [listed_set hil, if_neg (by omega)]
        exact hk4 j (by omega) hjn
    have hd : ∀ j ∈ anc.getD i [], listed.getD j false = true := by
      intro j hj
      obtain ⟨-, -, o, ho, e, he, hb, hc⟩ := r2 j hj
      have hl := hdep o ho e he hb
      rcases hc with rfl | hc
      · exact hl
      · have hen : e.on < ops.size := Nat.lt_trans (r2 _ (r1 o ho e he hb)).1 hi
        exact I.clos _ hen hl j hc
    rcases Nat.lt_or_ge i t with hit | hit
    rotate_left
    · have hit2 : i = t := by
        rcases Nat.lt_or_ge t i with h | h
        · have h1 := hd t (rfTl_spec htl hi hit t h)
          rw [htn t (Nat.le_refl _) (by omega)] at h1
          cases h1
        · omega
      subst hit2
      have hall : ∀ j, j < i → listed.getD j false = true := fun j hj => hd j (rfTl_spec htl hi (Nat.le_refl _) j hj)
      have hT := tail listed a W own I hall htn
      obtain ⟨p, rfl⟩ : ∃ p', m = p' + 1 := ⟨m - 1, by omega⟩
      have hil : i < listed.size := by omega
      refine wpOp_mono (fun a' W' hT' => .inr ⟨i + 1, p, by omega, by omega, fun j hj => ?_, fun j hj hjn => ?_, hT'⟩) hT
      · rw [listed_set hil]
        by_cases e : j = i
        · rw [if_pos e]
        · rw [if_neg e]; exact hall j (by omega)
      · rw [listed_set hil, if_neg (by omega)]
        exact htn j (by omega) hjn
    -- an operation before the tail
    have live : ∀ j ∈ use.getD i [], j < ops.size + q ∧ OLive ops.size takes (fun k => listed.getD k false) j := by
      intro j hj
      obtain ⟨h1, h2⟩ := r3 j hj
      refine ⟨?_, fun hjn => ?_, fun k hk hkd ht => ?_⟩
      · rcases h1 with h1 | h1
        · have := (r2 j h1).1; omega
        · exact h1.2
      · rcases h1 with h1 | h1
        · exact hd j h1
        · omega
      · rcases h2 k hk ht with rfl | h3
        · simp only at hkd; rw [hlf] at hkd; cases hkd
        · have this : listed.getD i false = true := I.clos k hk hkd i h3
          rw [hlf] at this
          cases this
    refine hstep i hit a W own I.below I.low I.size I.defers I.rest (fun j hj => I.fact j (live j hj).1 (live j hj).2) (fun j hj => I.dom j (live j hj).1 (live j hj).2) (fun j hj k hk hne => I.apart j k (live j hj).1 (live k hk).1 (live j hj).2 (live k hk).2 hne) _ ?_
    intro v W' R
    refine .inl ?_
    have hil : i < listed.size := by omega
    have hset := fun k => listed_set (listed := listed) (i := i) (k := k) hil
    have hvv : ∀ T : List Nat, vis T (a.put (rdst ops i) v) = visp T a (rdst ops i) v := fun T => vis_visp fun x hx => by rw [I.size]; exact rfFits_spec hfits hi x hx
    have hone : ∀ k, k < ops.size → (if k = i then true else listed.getD k false) = true → k = i ∨ listed.getD k false = true := by
      intro k _ h
      by_cases e : k = i
      · exact .inl e
      · rw [if_neg e] at h; exact .inr h
    -- who is still an owner behind the step, and is not i, was one ahead of it
    have old : ∀ k, k ≠ i → OLive ops.size takes (fun x => (listed.setIfInBounds i true).getD x false) k → OLive ops.size takes (fun x => listed.getD x false) k ∧ takes.getD i none ≠ some k := by
      rintro k hne ⟨h1, h2⟩
      refine ⟨⟨fun hk => ?_, fun x hx hxd => h2 x hx ?_⟩, h2 i hi ?_⟩
      · have := h1 hk
        simp only [hset] at this
        rw [if_neg hne] at this
        exact this
      · simp only [hset]
        by_cases e : x = i
        · simp [e]
        · rw [if_neg e]; exact hxd
      · simp only [hset]
        simp
    have keepV : ∀ k, k ≠ i → k < ops.size + q → OLive ops.size takes (fun x => listed.getD x false) k → vis (S.getD k []) (a.put (rdst ops i) v) = vis (S.getD k []) a := by
      intro k hne hk hv
      rcases Nat.lt_or_ge k ops.size with h | h
      · obtain ⟨-, -, -, -, s5⟩ := ofOk_spec hok h
        have hna : i ∉ anc.getD k [] := fun hm => by
          have this : listed.getD i false = true := I.clos k h (hv.1 h) i hm
          rw [hlf] at this
          cases this
        exact vis_put fun x hx => s5 i hi (Ne.symm hne) hna x hx
      · rw [hS k h]
        funext x
        simp [vis]
    have hlow : G ≤ W'.heap.size := Nat.le_trans I.low R.grow.size
    have hkeepG : ∀ b, b < G → W'.heap[b]? = W.heap[b]? := fun b hb => R.keep b (Nat.lt_of_lt_of_le hb I.low) fun j hj ho => by
      have := (I.dom j (live j (r4 j hj)).1 (live j (r4 j hj)).2 b ho).1
      omega
    refine ⟨fun k => if k = i then (fun b => (W.heap.size ≤ b ∧ b < W'.heap.size) ∨ ∃ j, takes.getD i none = some j ∧ own j b) else own k, ⟨⟨R.grow.os.trans I.below.os, R.grow.tape.trans I.below.tape, R.grow.output.trans I.below.output, Nat.le_trans I.below.size R.grow.size, fun b hb => (hkeepG b hb).trans (I.below.block b hb)⟩, hlow, (put_size _ _ _).1.trans I.size, (put_size _ _ _).2.trans I.defers, fun s h => (slot_put (h i hi)).trans (I.rest s h), ?_, ?_, ?_, ?_⟩, ?_⟩
    · intro k hk hkd j hj
      simp only [hset] at hkd ⊢
      rcases hone k hk hkd with rfl | hkl
      · by_cases e : j = k
        · rw [if_pos e]
        · rw [if_neg e]; exact hd j hj
      · by_cases e : j = i
        · rw [if_pos e]
        · rw [if_neg e]; exact I.clos k hk hkl j hj
    · intro k hk hv
      by_cases e : k = i
      · subst e
        simp only [if_pos]
        rw [hvv]
        exact R.fact
      · obtain ⟨hv0, hnt⟩ := old k e hv
        simp only [if_neg e]
        rw [keepV k e hk hv0]
        have hkt : k < t ∨ ops.size ≤ k := by
          rcases Nat.lt_or_ge k ops.size with h | h
          · rcases Nat.lt_or_ge k t with h2 | h2
            · exact .inl h2
            · have this : listed.getD k false = true := hv0.1 h
              rw [htn k h2 h] at this
              cases this
          · exact .inr h
        refine hst k hkt hk _ _ _ _ (I.fact k hk hv0) (fun b hb => (I.dom k hk hv0 b hb).2) I.low ⟨R.grow.size, fun b hb ho => ?_⟩
        rcases ho with ho | ho
        · exact hkeepG b ho
        · refine R.keep b hb fun j hj ho2 => ?_
          have hjk : k ≠ j := fun e2 => hnt (by rw [hj, e2])
          exact I.apart k j hk (live j (r4 j hj)).1 hv0 (live j (r4 j hj)).2 hjk b ho ho2
    · intro k hk hv b hb
      by_cases e : k = i
      · subst e
        simp only [if_pos] at hb
        rcases hb with hb | ⟨j, hj, hb⟩
        · exact ⟨Nat.le_trans I.low hb.1, hb.2⟩
        · obtain ⟨q1, q2⟩ := I.dom j (live j (r4 j hj)).1 (live j (r4 j hj)).2 b hb
          exact ⟨q1, Nat.lt_of_lt_of_le q2 R.grow.size⟩
      · obtain ⟨hv0, -⟩ := old k e hv
        simp only [if_neg e] at hb
        obtain ⟨q1, q2⟩ := I.dom k hk hv0 b hb
        exact ⟨q1, Nat.lt_of_lt_of_le q2 R.grow.size⟩
    · -- the blocks of two owners lie apart
      have cross : ∀ k, k ≠ i → k < ops.size + q → OLive ops.size takes (fun x => (listed.setIfInBounds i true).getD x false) k → ∀ b, ((W.heap.size ≤ b ∧ b < W'.heap.size) ∨ ∃ j, takes.getD i none = some j ∧ own j b) → ¬ own k b := by
        intro k e hk hv b hb ho
        obtain ⟨hv0, hnt⟩ := old k e hv
        rcases hb with hb | ⟨j, hj, hb⟩
        · have := (I.dom k hk hv0 b ho).2
          omega
        · have hjk : j ≠ k := fun e2 => hnt (by rw [hj, e2])
          exact I.apart j k (live j (r4 j hj)).1 hk (live j (r4 j hj)).2 hv0 hjk b hb ho
      intro j k hj hk hvj hvk hne b hbj hbk
      by_cases ej : j = i
      · subst ej
        have ek : k ≠ j := Ne.symm hne
        simp only [if_pos] at hbj
        simp only [if_neg ek] at hbk
        exact cross k ek hk hvk b hbj hbk
      · simp only [if_neg ej] at hbj
        by_cases ek : k = i
        · subst ek
          simp only [if_pos] at hbk
          exact cross j ej hj hvj b hbk hbj
        · simp only [if_neg ek] at hbk
          exact I.apart j k hj hk (old j ej hvj).1 (old k ek hvk).1 hne b hbj hbk
    · intro k h1 h2
      rw [hset, if_neg (by omega)]
      exact htn k h1 h2
  · intro listed a W hI hs hnil
    have hall := ready_nil' (fun i o ho e he hb => by
      have hi : i < ops.size := (Array.getElem?_eq_some_iff.1 ho).1
      obtain ⟨r1, r2, -⟩ := ofOk_spec hok hi
      exact (r2 _ (r1 o ho e he hb)).1) hs hnil
    rcases hI with ⟨own, I, htn⟩ | ⟨k, p, hk1, hk2, hk3, hk4, hT⟩
    · have hm : m = 0 := by
        rcases Nat.eq_zero_or_pos m with h | h
        · exact h
        · have h1 := hall t (by omega)
          rw [htn t (Nat.le_refl _) (by omega)] at h1
          cases h1
      have hT := tail listed a W own I (fun j hj => hall j (by omega)) htn
      rw [hm] at hT
      exact hT
    · have hp : p = 0 := by
        rcases Nat.eq_zero_or_pos p with h | h
        · exact h
        · have h1 := hall k (by omega)
          rw [hk4 k (Nat.le_refl _) (by omega)] at h1
          cases h1
      rw [hp] at hT
      exact hT
  · have hz : ∀ k, (Array.replicate ops.size false).getD k false = false := fun k => by
      simp [Array.getD]
    have nolive : ∀ i, i < ops.size → ¬ OLive ops.size takes (fun k => (Array.replicate ops.size false).getD k false) i := fun i hi h => by
      have := h.1 hi
      simp only [hz] at this
      cases this
    refine .inl ⟨own0, ⟨(Below.refl _ _).drew, hG, rfl, rfl, fun _ _ => rfl, fun i hi hd => ?_, fun i hi hv => ?_, fun i hi hv => ?_, fun i j hi hj hvi hvj => ?_⟩, fun k _ _ => hz k⟩
    · simp only [hz] at hd
      cases hd
    · rcases Nat.lt_or_ge i ops.size with h | h
      · exact absurd hv (nolive i h)
      · obtain ⟨q1, q2⟩ := h0 i h hi
        refine hst i (.inr h) hi _ _ _ _ q1 (fun b hb => (q2 b hb).2) hG ⟨Nat.le_refl _, fun b _ _ => rfl⟩
    · rcases Nat.lt_or_ge i ops.size with h | h
      · exact absurd hv (nolive i h)
      · exact (h0 i h hi).2
    · rcases Nat.lt_or_ge i ops.size with h | h
      · exact absurd hvi (nolive i h)
      rcases Nat.lt_or_ge j ops.size with h' | h'
      · exact absurd hvj (nolive j h')
      exact h0a i j h hi h' hj

end

end Go.Proofs.Ytajfhalalnlejaa
