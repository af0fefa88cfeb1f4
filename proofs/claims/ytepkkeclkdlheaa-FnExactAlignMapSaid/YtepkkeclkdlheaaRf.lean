/- A region that draws its order, by facts of its operations: each operation's fact speaks of the slots that it names, of what was there ahead of the region, and of the blocks that the operation itself made; so no order need be gone through. Any program. -/
import Derived.Test.YtepkkeclkdlheaaAny
import Derived.Test.YtepkkeclkdlheaaCkO
namespace Go.Proofs.Ytepkkeclkdlheaa
open Go.RowKit
set_option linter.unusedSimpArgs false
set_option linter.unusedVariables false

/-- The value in slot k. -/
def slot (a : Act) (k : Nat) : Value := a.tmps.getD k undef
/-- The slots of S as they stand, all others empty. -/
def vis (S : List Nat) (a : Act) (k : Nat) : Value := bif S.contains k then slot a k else undef

/-- The slots of S as they stand once v is put into slot d, all others empty. -/
def visp (S : List Nat) (a : Act) (d : Option Nat) (v : Value) (k : Nat) : Value := bif S.contains k then (match d with | some x => bif x == k then v else slot a k | none => slot a k) else undef
/-- A part of a tuple. -/
def cmpV (v : Value) (k : Nat) : Value := match v with | .tuple t => t.getD k undef | _ => undef

/-- What was there below G and from lo on, below hi, is as it was. -/
structure Kept (G lo hi : Nat) (W W' : World) : Prop where
  size : W.heap.size ≤ W'.heap.size
  old : ∀ b, b < G → b < W.heap.size → W'.heap[b]? = W.heap[b]?
  own : ∀ b, lo ≤ b → b < hi → b < W.heap.size → W'.heap[b]? = W.heap[b]?

theorem Kept.of_below {G lo hi : Nat} {W W' : World} (h : Below W.heap.size W W') : Kept G lo hi W W' := ⟨h.size, fun b _ h1 => h.block b h1, fun b _ _ h1 => h.block b h1⟩

/-- The slot that operation j writes. -/
def rdst (ops : Array Oper) (j : Nat) : Option Nat := (ops[j]?).bind (·.dst)

/-- The rows that part a region: for each operation those that it waits for (all of them), the operation whose blocks it writes (itself, where it makes its own), the slots that its fact names, and the others that write the same blocks. -/
def rfOk (md : Region.Mode) (ops : Array Oper) (anc : List (List Nat)) (own : List Nat) (S peers : List (List Nat)) : Bool :=
  let n := ops.size
  let A := fun i => anc.getD i []
  let O := fun i => own.getD i i
  (List.range n).all fun i =>
    ((ops[i]?).map fun o => o.after.all fun e => !Region.binds md e || (A i).contains e.on).getD true &&
    ((A i).all fun j => decide (j < i) && ((A j).all fun k => (A i).contains k) && (((ops[i]?).map fun o => o.after.any fun e => Region.binds md e && (e.on == j || (A e.on).contains j)).getD false)) &&
    (O i == i || ((A i).contains (O i) && O (O i) == O i)) &&
    (List.range n).all fun j =>
      (j == i || (A i).contains j || match rdst ops j with | none => true | some d => !(S.getD i []).contains d) &&
      (!(O j == O i) || j == i || O i == i || (peers.getD i []).contains j)

structure RfStep (G : Nat) (F : Nat → Nat → Nat → (Nat → Value) → World → Prop) (own : List Nat) (S peers : List (List Nat)) (i lo hi : Nat) (dst : Option Nat) (a : Act) (W : World) (v : Value) (W' : World) : Prop where
  made : own.getD i i = i → Below W.heap.size W W' ∧ F i W.heap.size W'.heap.size (visp (S.getD i []) a dst v) W'
  wrote : own.getD i i ≠ i → Seg lo hi W W' ∧ F i lo hi (visp (S.getD i []) a dst v) W' ∧ ∀ j ∈ peers.getD i [], F j lo hi (vis (S.getD j []) a) W → F j lo hi (vis (S.getD j []) a) W'

/-- What holds in the middle of the region. -/
structure RfInv (w0 : World) (a0 : Act) (ops : Array Oper) (F : Nat → Nat → Nat → (Nat → Value) → World → Prop) (anc : List (List Nat)) (own : List Nat) (S : List (List Nat)) (iv : Nat → Nat × Nat) (done : Nat → Bool) (a : Act) (W : World) : Prop where
  below : Below w0.heap.size w0 W
  size : a.tmps.size = a0.tmps.size
  defers : a.defers = a0.defers
  rest : ∀ s, (∀ j, j < ops.size → rdst ops j ≠ some s) → slot a s = slot a0 s
  fact : ∀ i, i < ops.size → done i = true → (∀ j ∈ anc.getD i [], done j = true) ∧ F i (iv (own.getD i i)).1 (iv (own.getD i i)).2 (vis (S.getD i []) a) W
  ivs : ∀ i, i < ops.size → done i = true → own.getD i i = i → w0.heap.size ≤ (iv i).1 ∧ (iv i).1 ≤ (iv i).2 ∧ (iv i).2 ≤ W.heap.size
  apart : ∀ i j, i < ops.size → j < ops.size → done i = true → done j = true → own.getD i i = i → own.getD j j = j → i ≠ j → (iv i).2 ≤ (iv j).1 ∨ (iv j).2 ≤ (iv i).1

theorem slot_put {a : Act} {d : Option Nat} {v : Value} {s : Nat} (h : d ≠ some s) : slot (a.put d v) s = slot a s := by
  cases d with
  | none => rfl
  | some d =>
    have hne : d ≠ s := fun e => h (by rw [e])
    show (a.tmps.setIfInBounds d v).getD s undef = a.tmps.getD s undef
    rw [Array.getD_eq_getD_getElem?, Array.getD_eq_getD_getElem?, Array.getElem?_setIfInBounds_ne hne]

theorem vis_put {S : List Nat} {a : Act} {d : Option Nat} {v : Value} (h : ∀ x, d = some x → S.contains x = false) : vis S (a.put d v) = vis S a := by
  funext k
  unfold vis
  cases hk : S.contains k with
  | false => rfl
  | true =>
    simp only [cond_true]
    exact slot_put fun e => by have := h k e; rw [hk] at this; cases this

theorem vis_visp {S : List Nat} {a : Act} {d : Option Nat} {v : Value} (h : ∀ x, d = some x → x < a.tmps.size) : vis S (a.put d v) = visp S a d v := by
  funext k
  unfold vis visp
  cases hk : S.contains k with
  | false => rfl
  | true =>
    simp only [cond_true]
    cases d with
    | none => rfl
    | some x =>
      by_cases hx : x = k
      · subst hx
        have hlt := h x rfl
        simp only [beq_self_eq_true, cond_true]
        show (a.tmps.setIfInBounds x v).getD x undef = v
        simp [Array.getD, hlt]
      · have hb : (x == k) = false := by simpa using hx
        rw [slot_put (fun e => hx (Option.some.inj e))]
        simp [hb]

/-- All slots that are written lie in the frame. -/
def rfFits (ops : Array Oper) (n : Nat) : Bool := (List.range ops.size).all fun i => match rdst ops i with | some d => decide (d < n) | none => true

theorem rfFits_spec {ops : Array Oper} {n : Nat} (h : rfFits ops n = true) {i : Nat} (hi : i < ops.size) : ∀ x, rdst ops i = some x → x < n := by
  intro x hx
  have := List.all_eq_true.1 h i (List.mem_range.2 hi)
  rw [hx] at this
  simpa using this

theorem put_size (a : Act) (d : Option Nat) (v : Value) : (a.put d v).tmps.size = a.tmps.size ∧ (a.put d v).defers = a.defers := by
  cases d <;> simp [Act.put]

/-- All are listed where none is ready and each waits for earlier ones alone. -/
theorem ready_nil' {md : Region.Mode} {ops : Array Oper} {listed : Array Bool} (hd : ∀ (i : Nat) (o : Oper), ops[i]? = some o → ∀ e ∈ o.after, Region.binds md e = true → e.on < i) (hs : listed.size = ops.size) (h : Region.ready md ops listed = []) : ∀ i, i < ops.size → listed.getD i false = true := by
  intro i
  induction i using Nat.strongRecOn with
  | _ i ih =>
    intro hi
    cases hb : listed.getD i false with
    | true => rfl
    | false =>
      exfalso
      have hmem : i ∈ Region.ready md ops listed := by
        unfold Region.ready
        refine List.mem_filter.2 ⟨List.mem_range.2 hi, ?_⟩
        have hl : listed.getD i true = false := by
          have hil : i < listed.size := by omega
          simp only [Array.getD, hil, dif_pos] at hb ⊢
          exact hb
        rw [hl]
        have ho : ops[i]? = some ops[i] := Array.getElem?_eq_getElem hi
        rw [ho]
        simp only [Option.map_some, Option.getD_some, Bool.not_false, Bool.true_and]
        refine Array.all_eq_true.2 fun j hj => ?_
        cases hbd : Region.binds md ops[i].after[j] with
        | false => simp
        | true =>
          have hlt := hd i _ ho _ (Array.getElem_mem hj) hbd
          rw [ih _ hlt (by omega)]
          simp
      rw [h] at hmem
      cases hmem

/-- All slots that are written are among ds. -/
def rfDsts (ops : Array Oper) (ds : List Nat) : Bool := (List.range ops.size).all fun i => match rdst ops i with | some d => ds.contains d | none => true
theorem rfDsts_spec {ops : Array Oper} {ds : List Nat} (h : rfDsts ops ds = true) {s : Nat} (hs : s ∉ ds) : ∀ j, j < ops.size → rdst ops j ≠ some s := by
  intro j hj e
  have := List.all_eq_true.1 h j (List.mem_range.2 hj)
  rw [e] at this
  exact hs (by simpa using this)

/-- The frame behind the region: the one ahead of it, with the slots that were written. -/
theorem frame_of {a a0 : Act} (ds : List Nat) (hs : a.tmps.size = a0.tmps.size) (hd : a.defers = a0.defers) (hr : ∀ s, s ∉ ds → slot a s = slot a0 s) :
    a = ⟨ds.foldl (fun t d => t.setIfInBounds d (slot a d)) a0.tmps, a0.defers⟩ := by
  have key : ∀ (es : List Nat) (t : Array Value), (es.foldl (fun t d => t.setIfInBounds d (slot a d)) t).size = t.size ∧ ∀ s, (es.foldl (fun t d => t.setIfInBounds d (slot a d)) t)[s]? = if s ∈ es then (if s < t.size then some (slot a s) else none) else t[s]? := by
    intro es
    induction es with
    | nil => intro t; exact ⟨rfl, fun s => by simp⟩
    | cons d es ih =>
      intro t
      obtain ⟨h1, h2⟩ := ih (t.setIfInBounds d (slot a d))
      refine ⟨by rw [List.foldl_cons, h1]; simp, fun s => ?_⟩
      rw [List.foldl_cons, h2 s]
      by_cases hm : s ∈ es
      · simp [hm]
      · rw [if_neg hm, Array.getElem?_setIfInBounds]
        by_cases hds : d = s
        · subst hds; simp
        · have : s ≠ d := fun e => hds e.symm
          simp [hm, hds, this]
  obtain ⟨k1, k2⟩ := key ds a0.tmps
  have ht : a.tmps = ds.foldl (fun t d => t.setIfInBounds d (slot a d)) a0.tmps := by
    apply Array.ext_getElem?
    intro s
    rw [k2 s]
    by_cases hlt : s < a.tmps.size
    · have e1 : a.tmps[s]? = some (slot a s) := by
        rw [Array.getElem?_eq_getElem hlt]
        simp [slot, Array.getD, hlt]
      rw [e1]
      by_cases hm : s ∈ ds
      · rw [if_pos hm, if_pos (by omega)]
      · rw [if_neg hm, hr s hm]
        have h0 : s < a0.tmps.size := by omega
        rw [Array.getElem?_eq_getElem h0]
        simp [slot, Array.getD, h0]
    · rw [Array.getElem?_eq_none (by omega)]
      by_cases hm : s ∈ ds
      · rw [if_pos hm, if_neg (by omega)]
      · rw [if_neg hm, Array.getElem?_eq_none (by omega)]
  cases a
  cases a0
  simp only at ht hd
  simp only [Act.mk.injEq]
  exact ⟨ht, hd⟩

section
variable {P : Program} {md : Region.Mode} {ops : Array Oper} {Q : Exit → Act → World → Prop}

theorem rfOk_spec {anc : List (List Nat)} {own : List Nat} {S peers : List (List Nat)} (h : rfOk md ops anc own S peers = true) {i : Nat} (hi : i < ops.size) :
    (∀ o, ops[i]? = some o → ∀ e ∈ o.after, Region.binds md e = true → e.on ∈ anc.getD i []) ∧
    (∀ j ∈ anc.getD i [], j < i ∧ (∀ k ∈ anc.getD j [], k ∈ anc.getD i []) ∧ ∃ o, ops[i]? = some o ∧ ∃ e ∈ o.after, Region.binds md e = true ∧ (e.on = j ∨ j ∈ anc.getD e.on [])) ∧
    (own.getD i i = i ∨ (own.getD i i ∈ anc.getD i [] ∧ own.getD (own.getD i i) (own.getD i i) = own.getD i i)) ∧
    (∀ j, j < ops.size → j ≠ i → j ∉ anc.getD i [] → ∀ d, rdst ops j = some d → (S.getD i []).contains d = false) ∧
    (∀ j, j < ops.size → j ≠ i → own.getD j j = own.getD i i → own.getD i i ≠ i → j ∈ peers.getD i []) := by
  have h1 := List.all_eq_true.1 h i (List.mem_range.2 hi)
  simp only [Bool.and_eq_true] at h1
  obtain ⟨⟨⟨h1, h2⟩, h3⟩, h4⟩ := h1
  refine ⟨fun o ho e he hb => ?_, fun j hj => ?_, ?_, fun j hj hne hna d hd => ?_, fun j hj hne ho hi' => ?_⟩
  · rw [ho] at h1
    simp only [Option.map_some, Option.getD_some] at h1
    have := Array.all_eq_true'.1 h1 e he
    rw [hb] at this
    simpa using this
  · have := List.all_eq_true.1 h2 j hj
    simp only [Bool.and_eq_true, decide_eq_true_eq] at this
    refine ⟨this.1.1, fun k hk => by simpa using List.all_eq_true.1 this.1.2 k hk, ?_⟩
    have h5 := this.2
    cases ho : ops[i]? with
    | none => rw [ho] at h5; cases h5
    | some o =>
      rw [ho] at h5
      simp only [Option.map_some, Option.getD_some] at h5
      obtain ⟨k, hk, h6⟩ := Array.any_eq_true.1 h5
      simp only [Bool.and_eq_true, Bool.or_eq_true, beq_iff_eq, List.contains_iff_mem] at h6
      exact ⟨o, rfl, _, Array.getElem_mem hk, h6.1, h6.2⟩
  · simp only [Bool.or_eq_true, Bool.and_eq_true, beq_iff_eq, List.contains_iff_mem] at h3
    exact h3
  · have := List.all_eq_true.1 h4 j (List.mem_range.2 hj)
    simp only [Bool.and_eq_true, Bool.or_eq_true, beq_iff_eq] at this
    rcases this.1 with (h5 | h5) | h5
    · exact absurd h5 hne
    · exact absurd (by simpa using h5) hna
    · rw [hd] at h5
      simpa using h5
  · have := List.all_eq_true.1 h4 j (List.mem_range.2 hj)
    simp only [Bool.and_eq_true, Bool.or_eq_true, beq_iff_eq] at this
    rcases this.2 with ((h5 | h5) | h5) | h5
    · rw [ho] at h5
      simp at h5
    · exact absurd h5 hne
    · exact absurd h5 hi'
    · simpa using h5

/-- The operations from k on, one behind the other, m of them. -/
def rfTail (P : Program) (ops : Array Oper) (Q : Exit → Act → World → Prop) : Nat → Nat → Act → World → Prop
  | 0, _, a, w => Q .normal a w
  | m + 1, k, a, w => wpOp P ops Q k (rfTail P ops Q m (k + 1)) a w
/-- Each operation from t on waits for all that stand before it. -/
def rfTl (n t : Nat) (anc : List (List Nat)) : Bool := (List.range n).all fun i => decide (i < t) || (List.range i).all fun j => (anc.getD i []).contains j
theorem rfTl_spec {n t : Nat} {anc : List (List Nat)} (h : rfTl n t anc = true) {i : Nat} (hi : i < n) (ht : t ≤ i) : ∀ j, j < i → j ∈ anc.getD i [] := by
  intro j hj
  have h1 := List.all_eq_true.1 h i (List.mem_range.2 hi)
  simp only [Bool.or_eq_true, decide_eq_true_eq] at h1
  rcases h1 with h1 | h1
  · omega
  · simpa using List.all_eq_true.1 h1 j (List.mem_range.2 hj)

/-- A region in any order, by its operations' facts; its last m operations, which wait for all before them, are left to be walked. -/
theorem wpAny_factsT {a0 : Act} {w0 : World} (F : Nat → Nat → Nat → (Nat → Value) → World → Prop) (anc : List (List Nat)) (own : List Nat) (S peers : List (List Nat))
    (hok : rfOk md ops anc own S peers = true) (hfits : rfFits ops a0.tmps.size = true) (t m : Nat) (htm : t + m = ops.size) (htl : rfTl ops.size t anc = true)
    (hst : ∀ i, i < t → ∀ lo hi s W W', F i lo hi s W → w0.heap.size ≤ lo → lo ≤ hi → hi ≤ W.heap.size → w0.heap.size ≤ W.heap.size → Kept w0.heap.size lo hi W W' → F i lo hi s W')
    (hstep : ∀ i, i < t → ∀ (a : Act) (W : World) (iv : Nat → Nat × Nat), Below w0.heap.size w0 W → a.tmps.size = a0.tmps.size → a.defers = a0.defers → (∀ s, (∀ j, j < ops.size → rdst ops j ≠ some s) → slot a s = slot a0 s) →
      (∀ j ∈ anc.getD i [], F j (iv (own.getD j j)).1 (iv (own.getD j j)).2 (vis (S.getD j []) a) W) →
      (∀ j ∈ anc.getD i [], own.getD j j = j → w0.heap.size ≤ (iv j).1 ∧ (iv j).1 ≤ (iv j).2 ∧ (iv j).2 ≤ W.heap.size) →
      (∀ j ∈ anc.getD i [], ∀ k ∈ anc.getD i [], own.getD j j = j → own.getD k k = k → j ≠ k → (iv j).2 ≤ (iv k).1 ∨ (iv k).2 ≤ (iv j).1) →
      ∀ K : Act → World → Prop, (∀ v W', RfStep w0.heap.size F own S peers i (iv (own.getD i i)).1 (iv (own.getD i i)).2 (rdst ops i) a W v W' → K (a.put (rdst ops i) v) W') → wpOp P ops Q i K a W)
    (hfin : ∀ (a : Act) (W : World) (iv : Nat → Nat × Nat), RfInv w0 a0 ops F anc own S iv (fun i => decide (i < t)) a W → rfTail P ops Q m t a W) :
    wpAny P md ops Q ops.size (Array.replicate ops.size false) a0 { w0 with drawn := w0.drawn + 1 } := by
  have tail : ∀ (listed : Array Bool) (a : Act) (W : World) (iv : Nat → Nat × Nat), RfInv w0 a0 ops F anc own S iv (fun k => listed.getD k false) a W → (∀ j, j < t → listed.getD j false = true) → rfTail P ops Q m t a W := by
    intro listed a W iv I hl
    refine hfin a W iv ⟨I.below, I.size, I.defers, I.rest, fun i hi hd => ?_, fun i hi hd => ?_, fun i j hi hj hd1 hd2 => ?_⟩
    · have hit : i < t := of_decide_eq_true hd
      refine ⟨fun j hj => ?_, (I.fact i hi (hl i hit)).2⟩
      obtain ⟨-, r2, -⟩ := rfOk_spec hok hi
      exact decide_eq_true (Nat.lt_trans (r2 j hj).1 hit)
    · exact I.ivs i hi (hl i (of_decide_eq_true hd))
    · exact I.apart i j hi hj (hl i (of_decide_eq_true hd1)) (hl j (of_decide_eq_true hd2))
  refine wpAny_inv (fun listed a W => (∃ iv, RfInv w0 a0 ops F anc own S iv (fun k => listed.getD k false) a W ∧ ∀ k, t ≤ k → k < ops.size → listed.getD k false = false) ∨ (∃ k q, t ≤ k ∧ k + q = ops.size ∧ (∀ j, j < k → listed.getD j false = true) ∧ (∀ j, k ≤ j → j < ops.size → listed.getD j false = false) ∧ rfTail P ops Q q k a W)) ?_ ?_ _ _ _ _ (by simp) (by simp) ?_
  · intro listed a W i hI hs hi hli hdep
    have hlf : listed.getD i false = false := by
      have hil : i < listed.size := by omega
      simp only [Array.getD, hil, dif_pos] at hli ⊢
      exact hli
    obtain ⟨r1, r2, r3, r4, r5⟩ := rfOk_spec hok hi
    -- an operation of the tail comes up when all before it are listed
    have up : t ≤ i → (∀ j, j < t → listed.getD j false = true) ∨ (∃ iv, RfInv w0 a0 ops F anc own S iv (fun k => listed.getD k false) a W) → ∀ j, j < i → (∀ j' , j' ∈ anc.getD i [] → (∃ o, ops[i]? = some o ∧ ∃ e ∈ o.after, Region.binds md e = true ∧ (e.on = j' ∨ j' ∈ anc.getD e.on [])) → listed.getD j' false = true) → listed.getD j false = true := by
      intro ht _ j hj hA
      have hm := rfTl_spec htl hi ht j hj
      exact hA j hm (r2 j hm).2.2
    rcases hI with ⟨iv, I, htn⟩ | ⟨k, q, hk1, hk2, hk3, hk4, hT⟩
    rotate_left
    · -- in the tail
      have hki : k ≤ i := by
        rcases Nat.lt_or_ge i k with h | h
        · have := hk3 i h; rw [hlf] at this; cases this
        · exact h
      have hik : i = k := by
        rcases Nat.lt_or_ge k i with h | h
        · exfalso
          have hm := rfTl_spec htl hi (Nat.le_trans hk1 hki) k h
          obtain ⟨-, -, o, ho, e, he, hb, hc⟩ := r2 k hm
          have hl := hdep o ho e he hb
          have hon : e.on < k := by
            rcases Nat.lt_or_ge e.on k with h2 | h2
            · exact h2
            · have := hk4 e.on h2 (Nat.lt_trans (r2 _ (r1 o ho e he hb)).1 hi)
              rw [this] at hl; cases hl
          rcases hc with rfl | hc
          · omega
          · have hen : e.on < ops.size := by omega
            obtain ⟨-, s2, -⟩ := rfOk_spec hok hen
            have := (s2 k hc).1
            omega
        · omega
      subst hik
      obtain ⟨q, rfl⟩ : ∃ q', q = q' + 1 := ⟨q - 1, by omega⟩
      have hil : i < listed.size := by omega
      refine wpOp_mono (fun a' W' hT' => .inr ⟨i + 1, q, by omega, by omega, fun j hj => ?_, fun j hj hjn => ?_, hT'⟩) hT
      · rw [listed_set hil]
        by_cases e : j = i
        · rw [if_pos e]
        · rw [if_neg e]; exact hk3 j (by omega)
      · rw [listed_set hil, if_neg (by omega)]
        exact hk4 j (by omega) hjn
    rcases Nat.lt_or_ge i t with hit | hit
    rotate_left
    · -- the tail begins
      have hd : ∀ j ∈ anc.getD i [], listed.getD j false = true := by
        intro j hj
        obtain ⟨-, -, o, ho, e, he, hb, hc⟩ := r2 j hj
        have hl := hdep o ho e he hb
        rcases hc with rfl | hc
        · exact hl
        · have hen : e.on < ops.size := Nat.lt_trans (r2 _ (r1 o ho e he hb)).1 hi
          exact (I.fact _ hen hl).1 j hc
      have hit2 : i = t := by
        rcases Nat.lt_or_ge t i with h | h
        · have h1 := hd t (rfTl_spec htl hi hit t h)
          rw [htn t (Nat.le_refl _) (by omega)] at h1
          cases h1
        · omega
      subst hit2
      have hall : ∀ j, j < i → listed.getD j false = true := fun j hj => hd j (rfTl_spec htl hi (Nat.le_refl _) j hj)
      have hT := tail listed a W iv I hall
      obtain ⟨q, rfl⟩ : ∃ q', m = q' + 1 := ⟨m - 1, by omega⟩
      have hil : i < listed.size := by omega
      refine wpOp_mono (fun a' W' hT' => .inr ⟨i + 1, q, by omega, by omega, fun j hj => ?_, fun j hj hjn => ?_, hT'⟩) hT
      · rw [listed_set hil]
        by_cases e : j = i
        · rw [if_pos e]
        · rw [if_neg e]; exact hall j (by omega)
      · rw [listed_set hil, if_neg (by omega)]
        exact htn j (by omega) hjn
    clear up
    -- all that it waits for is done
    have hd : ∀ j ∈ anc.getD i [], listed.getD j false = true := by
      intro j hj
      obtain ⟨-, -, o, ho, e, he, hb, hc⟩ := r2 j hj
      have hl := hdep o ho e he hb
      rcases hc with rfl | hc
      · exact hl
      · have hen : e.on < ops.size := Nat.lt_trans (r2 _ (r1 o ho e he hb)).1 hi
        exact (I.fact _ hen hl).1 j hc
    have hjn : ∀ j ∈ anc.getD i [], j < ops.size := fun j hj => Nat.lt_trans (r2 j hj).1 hi
    refine hstep i hit a W iv I.below I.size I.defers I.rest (fun j hj => (I.fact j (hjn j hj) (hd j hj)).2) (fun j hj ho => I.ivs j (hjn j hj) (hd j hj) ho) (fun j hj k hk h1 h2 h3 => I.apart j k (hjn j hj) (hjn k hk) (hd j hj) (hd k hk) h1 h2 h3) _ ?_
    intro v W' R
    refine .inl ?_
    have htn' : ∀ k, t ≤ k → k < ops.size → (listed.setIfInBounds i true).getD k false = false := fun k h1 h2 => by
      rw [listed_set (by omega), if_neg (by omega)]
      exact htn k h1 h2
    suffices hsuf : ∃ iv, RfInv w0 a0 ops F anc own S iv (fun k => (listed.setIfInBounds i true).getD k false) (a.put (rdst ops i) v) W' by
      obtain ⟨iv', I'⟩ := hsuf
      exact ⟨iv', I', htn'⟩
    have hvv : ∀ T : List Nat, vis T (a.put (rdst ops i) v) = visp T a (rdst ops i) v := fun T => vis_visp fun x hx => by rw [I.size]; exact rfFits_spec hfits hi x hx
    have hil : i < listed.size := by omega
    have hset := fun k => listed_set (listed := listed) (i := i) (k := k) hil
    -- an operation that is done does not wait for i, and its fact names no slot that i writes
    have hno : ∀ k, k < ops.size → listed.getD k false = true → k ≠ i ∧ i ∉ anc.getD k [] ∧ own.getD k k ≠ i ∧ vis (S.getD k []) (a.put (rdst ops i) v) = vis (S.getD k []) a ∧ own.getD (own.getD k k) (own.getD k k) = own.getD k k ∧ listed.getD (own.getD k k) false = true ∧ own.getD k k < ops.size := by
      intro k hk hkl
      have e1 : k ≠ i := by rintro rfl; rw [hlf] at hkl; cases hkl
      have e2 : i ∉ anc.getD k [] := fun hm => by have := (I.fact k hk hkl).1 i hm; rw [hlf] at this; cases this
      obtain ⟨-, s2, s3, s4, -⟩ := rfOk_spec hok hk
      refine ⟨e1, e2, fun e => ?_, vis_put fun x hx => s4 i hi (Ne.symm e1) e2 x hx, ?_, ?_, ?_⟩
      · rcases s3 with s3 | s3
        · exact e1 (s3.symm.trans e)
        · rw [e] at s3; exact e2 s3.1
      · rcases s3 with s3 | s3
        · rw [s3]; exact s3
        · exact s3.2
      · rcases s3 with s3 | s3
        · rw [s3]; exact hkl
        · exact (I.fact k hk hkl).1 _ s3.1
      · rcases s3 with s3 | s3
        · rw [s3]; exact hk
        · exact Nat.lt_trans (s2 _ s3.1).1 hk
    have hG : w0.heap.size ≤ W.heap.size := I.below.size
    have hkt : ∀ k, k < ops.size → listed.getD k false = true → k < t := fun k hk hkl => by
      rcases Nat.lt_or_ge k t with h | h
      · exact h
      · rw [htn k h hk] at hkl; cases hkl
    have hrest : ∀ s, (∀ j, j < ops.size → rdst ops j ≠ some s) → slot (a.put (rdst ops i) v) s = slot a0 s := fun s h => (slot_put (h i hi)).trans (I.rest s h)
    have hdone : ∀ k, k < ops.size → (if k = i then true else listed.getD k false) = true → k = i ∨ listed.getD k false = true := by
      intro k _ h
      by_cases e : k = i
      · exact .inl e
      · rw [if_neg e] at h; exact .inr h
    by_cases ho : own.getD i i = i
    · obtain ⟨hb, hF⟩ := R.made ho
      have hb0 : Below w0.heap.size W W' := hb.mono hG
      refine ⟨fun k => if k = i then (W.heap.size, W'.heap.size) else iv k, I.below.trans hb0, (put_size _ _ _).1.trans I.size, (put_size _ _ _).2.trans I.defers, hrest, ?_, ?_, ?_⟩
      · intro k hk hkd
        simp only [hset] at hkd ⊢
        rcases hdone k hk hkd with rfl | hkl
        · refine ⟨fun j hj => ?_, ?_⟩
          · by_cases e : j = k
            · rw [if_pos e]
            · rw [if_neg e]; exact hd j hj
          · rw [ho, if_pos rfl, hvv]
            exact hF
        · obtain ⟨e1, e2, e3, e4, e5, e6, e7⟩ := hno k hk hkl
          refine ⟨fun j hj => ?_, ?_⟩
          · by_cases e : j = i
            · rw [if_pos e]
            · rw [if_neg e]; exact (I.fact k hk hkl).1 j hj
          · rw [if_neg e3, e4]
            obtain ⟨q1, q2, q3⟩ := I.ivs _ e7 e6 e5
            exact hst k (hkt k hk hkl) _ _ _ _ _ (I.fact k hk hkl).2 q1 q2 q3 hG (.of_below hb)
      · intro k hk hkd hko
        simp only [hset] at hkd ⊢
        rcases hdone k hk hkd with rfl | hkl
        · rw [if_pos rfl]
          exact ⟨hG, hb.size, Nat.le_refl _⟩
        · rw [if_neg (hno k hk hkl).1]
          obtain ⟨q1, q2, q3⟩ := I.ivs k hk hkl hko
          exact ⟨q1, q2, Nat.le_trans q3 hb.size⟩
      · intro j k hj hk hjd hkd hjo hko hne
        simp only [hset] at hjd hkd ⊢
        rcases hdone j hj hjd with rfl | hjl
        · rw [if_pos rfl]
          rcases hdone k hk hkd with rfl | hkl
          · exact absurd rfl hne
          · rw [if_neg (hno k hk hkl).1]
            exact .inr (I.ivs k hk hkl hko).2.2
        · rw [if_neg (hno j hj hjl).1]
          rcases hdone k hk hkd with rfl | hkl
          · rw [if_pos rfl]
            exact .inl (I.ivs j hj hjl hjo).2.2
          · rw [if_neg (hno k hk hkl).1]
            exact I.apart j k hj hk hjl hkl hjo hko hne
    · obtain ⟨hs', hF, hP⟩ := R.wrote ho
      rcases r3 with r3 | ⟨r3, r3'⟩
      · exact absurd r3 ho
      have hol := hd _ r3
      have hon := hjn _ r3
      obtain ⟨q1, q2, q3⟩ := I.ivs _ hon hol r3'
      have hb0 : Below w0.heap.size W W' := hs'.below.mono q1
      refine ⟨iv, I.below.trans hb0, (put_size _ _ _).1.trans I.size, (put_size _ _ _).2.trans I.defers, hrest, ?_, ?_, ?_⟩
      · intro k hk hkd
        simp only [hset] at hkd ⊢
        rcases hdone k hk hkd with rfl | hkl
        · refine ⟨fun j hj => ?_, by rw [hvv]; exact hF⟩
          by_cases e : j = k
          · rw [if_pos e]
          · rw [if_neg e]; exact hd j hj
        · obtain ⟨e1, e2, e3, e4, e5, e6, e7⟩ := hno k hk hkl
          refine ⟨fun j hj => ?_, ?_⟩
          · by_cases e : j = i
            · rw [if_pos e]
            · rw [if_neg e]; exact (I.fact k hk hkl).1 j hj
          · rw [e4]
            by_cases eo : own.getD k k = own.getD i i
            · have hf := (I.fact k hk hkl).2
              rw [eo] at hf ⊢
              exact hP k (r5 k hk e1 eo ho) hf
            · obtain ⟨p1, p2, p3⟩ := I.ivs _ e7 e6 e5
              have hap := I.apart _ _ e7 hon e6 hol e5 r3' eo
              refine hst k (hkt k hk hkl) _ _ _ _ _ (I.fact k hk hkl).2 p1 p2 p3 hG ⟨hs'.below.size, fun b hb _ => hs'.below.block b (Nat.lt_of_lt_of_le hb q1), fun b h1 h2 h3 => ?_⟩
              rcases hap with hap | hap
              · exact hs'.below.block b (Nat.lt_of_lt_of_le h2 hap)
              · exact hs'.over b (Nat.le_trans hap h1) h3
      · intro k hk hkd hko
        simp only [hset] at hkd
        rcases hdone k hk hkd with rfl | hkl
        · exact absurd hko ho
        · obtain ⟨p1, p2, p3⟩ := I.ivs k hk hkl hko
          exact ⟨p1, p2, Nat.le_trans p3 hs'.below.size⟩
      · intro j k hj hk hjd hkd hjo hko hne
        simp only [hset] at hjd hkd
        rcases hdone j hj hjd with rfl | hjl
        · exact absurd hjo ho
        rcases hdone k hk hkd with rfl | hkl
        · exact absurd hko ho
        exact I.apart j k hj hk hjl hkl hjo hko hne
  · intro listed a W hI hs hnil
    have hall := ready_nil' (fun i o ho e he hb => by
      have hi : i < ops.size := (Array.getElem?_eq_some_iff.1 ho).1
      obtain ⟨r1, r2, -⟩ := rfOk_spec hok hi
      exact (r2 _ (r1 o ho e he hb)).1) hs hnil
    rcases hI with ⟨iv, I, htn⟩ | ⟨k, q, hk1, hk2, hk3, hk4, hT⟩
    · have hm : m = 0 := by
        rcases Nat.eq_zero_or_pos m with h | h
        · exact h
        · have h1 := hall t (by omega)
          rw [htn t (Nat.le_refl _) (by omega)] at h1
          cases h1
      have hT := tail listed a W iv I (fun j hj => hall j (by omega))
      rw [hm] at hT
      exact hT
    · have hq : q = 0 := by
        rcases Nat.eq_zero_or_pos q with h | h
        · exact h
        · have h1 := hall k (by omega)
          rw [hk4 k (Nat.le_refl _) (by omega)] at h1
          cases h1
      rw [hq] at hT
      exact hT
  · refine .inl ⟨fun _ => (0, 0), ⟨(Below.refl _ _).drew, rfl, rfl, fun _ _ => rfl, ?_, ?_, ?_⟩, fun k _ _ => by simp [Array.getD]⟩
    · intro i hi hd
      simp [Array.getD] at hd
    · intro i hi hd
      simp [Array.getD] at hd
    · intro i j hi hj hd
      simp [Array.getD] at hd

/-- A region in any order, by its operations' facts. -/
theorem wpAny_facts {a0 : Act} {w0 : World} (F : Nat → Nat → Nat → (Nat → Value) → World → Prop) (anc : List (List Nat)) (own : List Nat) (S peers : List (List Nat))
    (hok : rfOk md ops anc own S peers = true) (hfits : rfFits ops a0.tmps.size = true)
    (hst : ∀ i, i < ops.size → ∀ lo hi s W W', F i lo hi s W → w0.heap.size ≤ lo → lo ≤ hi → hi ≤ W.heap.size → w0.heap.size ≤ W.heap.size → Kept w0.heap.size lo hi W W' → F i lo hi s W')
    (hstep : ∀ i, i < ops.size → ∀ (a : Act) (W : World) (iv : Nat → Nat × Nat), Below w0.heap.size w0 W → a.tmps.size = a0.tmps.size → a.defers = a0.defers → (∀ s, (∀ j, j < ops.size → rdst ops j ≠ some s) → slot a s = slot a0 s) →
      (∀ j ∈ anc.getD i [], F j (iv (own.getD j j)).1 (iv (own.getD j j)).2 (vis (S.getD j []) a) W) →
      (∀ j ∈ anc.getD i [], own.getD j j = j → w0.heap.size ≤ (iv j).1 ∧ (iv j).1 ≤ (iv j).2 ∧ (iv j).2 ≤ W.heap.size) →
      (∀ j ∈ anc.getD i [], ∀ k ∈ anc.getD i [], own.getD j j = j → own.getD k k = k → j ≠ k → (iv j).2 ≤ (iv k).1 ∨ (iv k).2 ≤ (iv j).1) →
      ∀ K : Act → World → Prop, (∀ v W', RfStep w0.heap.size F own S peers i (iv (own.getD i i)).1 (iv (own.getD i i)).2 (rdst ops i) a W v W' → K (a.put (rdst ops i) v) W') → wpOp P ops Q i K a W)
    (hfin : ∀ (a : Act) (W : World) (iv : Nat → Nat × Nat), RfInv w0 a0 ops F anc own S iv (fun _ => true) a W → Q .normal a W) :
    wpAny P md ops Q ops.size (Array.replicate ops.size false) a0 { w0 with drawn := w0.drawn + 1 } := by
  refine wpAny_factsT F anc own S peers hok hfits ops.size 0 (by simp) ?_ hst hstep ?_
  · exact List.all_eq_true.2 fun i hi => by simp [List.mem_range.1 hi]
  · intro a W iv I
    exact hfin a W iv ⟨I.below, I.size, I.defers, I.rest, fun i hi _ => ⟨fun _ _ => rfl, (I.fact i hi (decide_eq_true hi)).2⟩, fun i hi _ => I.ivs i hi (decide_eq_true hi), fun i j hi hj _ _ => I.apart i j hi hj (decide_eq_true hi) (decide_eq_true hj)⟩

end

theorem yielded_of {ops : Array Oper} {a : Act} {g d : Nat} {b : Bool} (hd : rdst ops g = some d) (hv : a.tmps.getD d undef = .bool b) : yielded ops a.tmps g = some b := by
  unfold yielded
  unfold rdst at hd
  rw [hd]
  by_cases hlt : d < a.tmps.size
  · rw [Option.bind_some, Array.getElem?_eq_getElem hlt]
    simp only [Array.getD, hlt, dif_pos] at hv
    have hv : a.tmps[d] = .bool b := hv
    rw [hv]
  · simp only [Array.getD, hlt, dif_neg, not_false_eq_true] at hv
    cases hv

theorem wanted_pos {ops : Array Oper} {o : Oper} {a : Act} {g d : Nat} {b : Bool} (hg : o.guard = some (g, b)) (hd : rdst ops g = some d) (hv : a.tmps.getD d undef = .bool b) : Region.wanted o (yielded ops a.tmps) = true := by
  unfold Region.wanted
  rw [hg]
  simp only [yielded_of hd hv]
  simp

theorem wanted_neg {ops : Array Oper} {o : Oper} {a : Act} {g d : Nat} {b b' : Bool} (hg : o.guard = some (g, b)) (hd : rdst ops g = some d) (hv : a.tmps.getD d undef = .bool b') (hne : b' ≠ b) : ¬ Region.wanted o (yielded ops a.tmps) = true := by
  unfold Region.wanted
  rw [hg]
  simp only [yielded_of hd hv]
  simpa using hne

/-! Owned values by Kept. -/
theorem Ow.on {w w' : World} {v : Value} {l : List Int} {lo hi : Nat} (h : Ow w v l lo hi) (hs : w.heap.size ≤ w'.heap.size) (k : ∀ b, lo ≤ b → b < hi → b < w.heap.size → w'.heap[b]? = w.heap[b]?) : Ow w' v l lo hi := by
  obtain ⟨⟨F, h, hF⟩, h1, h2⟩ := h
  exact ⟨⟨F, h.eq fun x hx => k x (hF x hx).1 (hF x hx).2 (h.lt x hx), hF⟩, h1, Nat.le_trans h2 hs⟩

theorem Owp.on {w w' : World} {v : Value} {ps : List Pv} {lo hi : Nat} (h : Owp w v ps lo hi) (hs : w.heap.size ≤ w'.heap.size) (k : ∀ b, lo ≤ b → b < hi → b < w.heap.size → w'.heap[b]? = w.heap[b]?) : Owp w' v ps lo hi :=
  ⟨owns_eq h.own fun g hg => k g (World.ownsRow.lt h.own g hg).1 (h.lt g hg) (World.ownsRow.lt h.own g hg).2, h.lt, h.le, Nat.le_trans h.top hs⟩

/-- A column of the call's own, its rows' own stretches left open. -/
def Oc (w : World) (v : Value) (l r : List Int) (ps : List Pv) (lo hi : Nat) : Prop := ∃ x y z n1 h1 n2 h2 n3 h3, v = .agg #[x, y, z] ∧ OC w x y z l r ps lo hi n1 h1 n2 h2 n3 h3

theorem OC.on {w w' : World} {x y z : Value} {l r : List Int} {ps : List Pv} {lo hi n1 h1 n2 h2 n3 h3 : Nat} (h : OC w x y z l r ps lo hi n1 h1 n2 h2 n3 h3) (hs : w.heap.size ≤ w'.heap.size) (k : ∀ b, lo ≤ b → b < hi → b < w.heap.size → w'.heap[b]? = w.heap[b]?) : OC w' x y z l r ps lo hi n1 h1 n2 h2 n3 h3 :=
  ⟨h.x.on hs fun b a c => k b (Nat.le_trans h.low.1 a) (Nat.lt_of_lt_of_le c h.high.1), h.y.on hs fun b a c => k b (Nat.le_trans h.low.2.1 a) (Nat.lt_of_lt_of_le c h.high.2.1), h.z.on hs fun b a c => k b (Nat.le_trans h.low.2.2 a) (Nat.lt_of_lt_of_le c h.high.2.2), h.low, h.high, h.apart, h.top.1, Nat.le_trans h.top.2 hs⟩

theorem Oc.on {w w' : World} {v : Value} {l r : List Int} {ps : List Pv} {G lo hi : Nat} (h : Oc w v l r ps lo hi) (k : Kept G lo hi w w') : Oc w' v l r ps lo hi := by
  obtain ⟨x, y, z, n1, h1, n2, h2, n3, h3, e, h⟩ := h
  exact ⟨x, y, z, n1, h1, n2, h2, n3, h3, e, h.on k.size k.own⟩

theorem Oc.below {w w' : World} {v : Value} {l r : List Int} {ps : List Pv} {lo hi : Nat} (h : Oc w v l r ps lo hi) (hb : Below w.heap.size w w') : Oc w' v l r ps lo hi := by
  obtain ⟨x, y, z, n1, h1, n2, h2, n3, h3, e, h⟩ := h
  exact ⟨x, y, z, n1, h1, n2, h2, n3, h3, e, h.below hb⟩

theorem Oc.seg {w w' : World} {v : Value} {l r : List Int} {ps : List Pv} {lo hi a b : Nat} (h : Oc w v l r ps lo hi) (s : Seg a b w w') (d : hi ≤ a ∨ b ≤ lo) : Oc w' v l r ps lo hi := by
  obtain ⟨x, y, z, n1, h1, n2, h2, n3, h3, e, h⟩ := h
  exact ⟨x, y, z, n1, h1, n2, h2, n3, h3, e, h.seg s d⟩

theorem Oc.mono {w : World} {v : Value} {l r : List Int} {ps : List Pv} {lo hi lo' hi' : Nat} (h : Oc w v l r ps lo hi) (h1 : lo' ≤ lo) (h2 : hi ≤ hi') (h3 : hi' ≤ w.heap.size) : Oc w v l r ps lo' hi' := by
  obtain ⟨x, y, z, n1, k1, n2, k2, n3, k3, e, h⟩ := h
  obtain ⟨a1, a2, a3⟩ := h.low
  obtain ⟨b1, b2, b3⟩ := h.high
  obtain ⟨t1, t2⟩ := h.top
  exact ⟨x, y, z, n1, k1, n2, k2, n3, k3, e, h.x, h.y, h.z, ⟨by omega, by omega, by omega⟩, ⟨by omega, by omega, by omega⟩, h.apart, by omega, h3⟩

theorem Oc.top {w : World} {v : Value} {l r : List Int} {ps : List Pv} {lo hi : Nat} (h : Oc w v l r ps lo hi) : lo ≤ hi ∧ hi ≤ w.heap.size := by
  obtain ⟨x, y, z, n1, h1, n2, h2, n3, h3, e, h⟩ := h
  exact h.top

/-- All numbers fit. -/
def CkWf (l r : List Int) (ps : List Pv) : Prop := (∀ x ∈ l, I64 x) ∧ (∀ x ∈ r, I64 x) ∧ ps.length ≤ 9223372036854775807 ∧ ∀ p ∈ ps, I64 p.1 ∧ I64 p.2

theorem Oc.rd {w : World} {v : Value} {l r : List Int} {ps : List Pv} {lo hi : Nat} (h : Oc w v l r ps lo hi) (hw : CkWf l r ps) : Ck w w.heap.size v l r ps := by
  obtain ⟨x, y, z, n1, h1, n2, h2, n3, h3, rfl, h⟩ := h
  exact h.ck hw.1 hw.2.1 hw.2.2.1 hw.2.2.2

theorem Oc.form {w : World} {v : Value} {l r : List Int} {ps : List Pv} {lo hi : Nat} (h : Oc w v l r ps lo hi) : ∃ a1 c1 a2 c2 a3 c3, v = .agg #[.slice a1 l.length c1, .slice a2 r.length c2, .slice a3 ps.length c3] := by
  obtain ⟨x, y, z, n1, h1, n2, h2, n3, h3, rfl, h⟩ := h
  obtain ⟨a1, c1, rfl⟩ := h.x.form
  obtain ⟨a2, c2, rfl⟩ := h.y.form
  obtain ⟨a3, c3, rfl⟩ := h.z.own.form
  exact ⟨_, _, _, _, _, _, rfl⟩

/-- A new column of the call's own is returned; nothing that was there has turned. -/
def RetOc (w : World) (l r : List Int) (ps : List Pv) (e : Ending) (w' : World) : Prop := ∃ v, e = .returned v ∧ Oc w' v l r ps w.heap.size w'.heap.size ∧ Below w.heap.size w w'

theorem toCracker_o (v : Value) (l r : List Int) (ps : List Pv) (w : World) (B : Nat) (hv : Ck w B v l r ps) (hB : B ≤ w.heap.size) (hl : l.length ≤ 1048576) (hr : r.length ≤ 1048576) (hp : ps.length ≤ 1048576) :
    Calls Try.prog 38 #[v] w (RetOc w l r ps) := by
  refine (toCracker_own v l r ps w B hv hB hl hr hp).mono ?_
  rintro e w' ⟨u, lo, rfl, hlo, ⟨x, y, z, n1, n2, rfl, h1, h2, h3⟩, hb⟩
  have q1 := h1.le
  have q2 := h2.le
  have q3 := h3.le
  have q4 := h3.top
  exact ⟨_, rfl, ⟨x, y, z, _, _, _, _, _, _, rfl, h1, h2, h3, ⟨by omega, by omega, by omega⟩, ⟨by omega, by omega, by omega⟩, ⟨.inl (by omega), .inl (by omega), .inl (by omega)⟩, hb.size, Nat.le_refl _⟩, hb⟩

/-- A number is returned, the column's own elements now read as l, r, ps, only their stretch has turned. -/
def RetMOc (w : World) (v : Value) (l r : List Int) (ps : List Pv) (lo hi : Nat) (k : Int) (e : Ending) (w' : World) : Prop := e = .returned (.int .i64 k) ∧ Oc w' v l r ps lo hi ∧ Seg lo hi w w'

theorem markCracker_o (v : Value) (l r : List Int) (ps : List Pv) (lo hi : Nat) (k : Int) (w : World) (h : Oc w v l r ps lo hi) (k0 : 0 ≤ k) (k1 : k + l.length + r.length + 2 * ps.length ≤ 4611686018427387904) :
    Calls Try.prog 44 #[v, .int .i64 k] w (RetMOc w v (mkI k l.length) (mkI (k + l.length) r.length) (mkP (k + l.length + r.length) ps.length) lo hi (k + l.length + r.length + 2 * ps.length)) := by
  obtain ⟨x, y, z, n1, h1, n2, h2, n3, h3, rfl, h⟩ := h
  refine (markCracker_oc x y z l r ps lo hi n1 h1 n2 h2 n3 h3 k w h k0 k1).mono ?_
  rintro e w' ⟨rfl, h', s⟩
  exact ⟨rfl, ⟨_, _, _, _, _, _, _, _, _, rfl, h'⟩, s⟩

theorem heldCracker_o (v : Value) (l r p : Nat) (lo hi : Nat) (k : Int) (w : World) (h : Oc w v (mkI k l) (mkI (k + l) r) (mkP (k + l + r) p) lo hi) (k0 : 0 ≤ k) (k1 : k + l + r + 2 * p ≤ 4611686018427387904) :
    Calls Try.prog 46 #[v, .int .i64 k] w (RetI1 w (k + l + r + 2 * p)) := by
  obtain ⟨x, y, z, n1, h1, n2, h2, n3, h3, rfl, h⟩ := h
  exact heldCracker_oc x y z l r p lo hi n1 h1 n2 h2 n3 h3 k w h k0 k1

/-- Integers of the call's own, in the words of the other types. -/
def Oin (w : World) (v : Value) (l : List Int) (lo hi : Nat) : Prop := Ow w v l lo hi
def IntsWf (l : List Int) : Prop := ∀ x ∈ l, I64 x
theorem Oin.on {w w' : World} {v : Value} {l : List Int} {G lo hi : Nat} (h : Oin w v l lo hi) (k : Kept G lo hi w w') : Oin w' v l lo hi := Ow.on h k.size k.own
theorem Oin.below {w w' : World} {v : Value} {l : List Int} {lo hi : Nat} (h : Oin w v l lo hi) (hb : Below w.heap.size w w') : Oin w' v l lo hi := Ow.below h hb
theorem Oin.seg {w w' : World} {v : Value} {l : List Int} {lo hi a b : Nat} (h : Oin w v l lo hi) (s : Seg a b w w') (d : hi ≤ a ∨ b ≤ lo) : Oin w' v l lo hi := Ow.seg h s d
theorem Oin.top {w : World} {v : Value} {l : List Int} {lo hi : Nat} (h : Oin w v l lo hi) : lo ≤ hi ∧ hi ≤ w.heap.size := ⟨h.le, Ow.top h⟩
theorem Oin.rd {w : World} {v : Value} {l : List Int} {lo hi : Nat} (h : Oin w v l lo hi) (hw : IntsWf l) : Ints w w.heap.size v l := Ow.ints h hw
theorem Oin.form {w : World} {v : Value} {l : List Int} {lo hi : Nat} (h : Oin w v l lo hi) : ∃ a c, v = .slice a l.length c := Ow.form h
def RetMOin (w : World) (v : Value) (l : List Int) (lo hi : Nat) (k : Int) (e : Ending) (w' : World) : Prop := e = .returned (.int .i64 k) ∧ Oin w' v l lo hi ∧ Seg lo hi w w'
theorem markIntS_o (v : Value) (l : List Int) (lo hi : Nat) (k : Int) (w : World) (h : Oin w v l lo hi) (k0 : 0 ≤ k) (k1 : k + l.length ≤ 4611686018427387904) :
    Calls Try.prog 20 #[v, .int .i64 k] w (RetMOin w v (mkI k l.length) lo hi (k + l.length)) := by
  refine (markIntS_ow v l lo hi k w h k0 k1).mono ?_
  rintro e w' ⟨rfl, h', s⟩
  exact ⟨rfl, h', s⟩
theorem heldIntS_o (v : Value) (n : Nat) (lo hi : Nat) (k : Int) (w : World) (h : Oin w v (mkI k n) lo hi) (k0 : 0 ≤ k) (k1 : k + n ≤ 4611686018427387904) :
    Calls Try.prog 50 #[v, .int .i64 k] w (RetI1 w (k + n)) := by
  refine (heldIntS_ow v n lo hi k w h k0 k1).mono ?_
  rintro e w' ⟨rfl, rfl⟩
  exact ⟨rfl, Below.refl _ _⟩
theorem eqIntS_same (v u : Value) (l : List Int) (w : World) (B : Nat) (hB : B ≤ w.heap.size) (hv : Ints w B v l) (hu : Ints w B u l) : Calls Try.prog 19 #[v, u] w (RetB1 w true) := eqIntS_alike v u l w B hv hu

theorem Kn.add {w W : World} {L : List (Nat × Array Value × TypeId)} (h : Kn w W L) {g : Nat} {c : Array Value} {t : TypeId} (hg : W.heap[g]? = some (.cells c t (0, 0))) (hlow : w.heap.size ≤ g) (hne : ∀ e ∈ L, e.1 ≠ g) : Kn w W (L ++ [(g, c, t)]) := by
  refine ⟨h.below, fun e he => ?_, fun e he => ?_, ?_⟩
  · rcases List.mem_append.1 he with he | he
    · exact h.hold e he
    · obtain rfl : e = (g, c, t) := by simpa using he
      exact hg
  · rcases List.mem_append.1 he with he | he
    · exact h.high e he
    · obtain rfl : e = (g, c, t) := by simpa using he
      exact hlow
  · rw [List.map_append, List.nodup_append]
    refine ⟨h.nodup, by simp, fun a ha b hb => ?_⟩
    obtain ⟨e, he, rfl⟩ := List.mem_map.1 ha
    obtain rfl : b = g := by simpa using hb
    exact hne e he

/-- What was known ahead, and what a stretch made. -/
theorem Kn.joinR {w u W : World} {L M : List (Nat × Array Value × TypeId)} (h : Kn w u L) (k : Kn u W M) : Kn w W (L ++ M) := by
  have h2 := h.up k.below
  refine ⟨h2.below, fun e he => ?_, fun e he => ?_, ?_⟩
  · rcases List.mem_append.1 he with he | he
    · exact h2.hold e he
    · exact k.hold e he
  · rcases List.mem_append.1 he with he | he
    · exact h.high e he
    · exact Nat.le_trans h.below.size (k.high e he)
  · rw [List.map_append, List.nodup_append]
    refine ⟨h.nodup, k.nodup, fun a ha b hb => ?_⟩
    obtain ⟨e, he, rfl⟩ := List.mem_map.1 ha
    obtain ⟨f, hf, rfl⟩ := List.mem_map.1 hb
    have h3 := (Array.getElem?_eq_some_iff.1 (h.hold e he)).1
    have h4 := k.high f hf
    omega

theorem Kn.lts {w W : World} {L : List (Nat × Array Value × TypeId)} (h : Kn w W L) : ∀ e ∈ L, e.1 < W.heap.size := fun e he => (Array.getElem?_eq_some_iff.1 (h.hold e he)).1

/-- A region's own boxes, read off its facts. -/
theorem Kn.none {w W : World} (h : Below w.heap.size w W) : Kn w W [] := ⟨h, fun e h => by simp at h, fun e h => by simp at h, by simp⟩

theorem size2 {c : Array Value} (h : c.size = 2) : ∃ a b, c = #[a, b] := by
  match c, h with
  | ⟨[a, b]⟩, _ => exact ⟨a, b, rfl⟩
theorem size3 {c : Array Value} (h : c.size = 3) : ∃ a b d, c = #[a, b, d] := by
  match c, h with
  | ⟨[a, b, d]⟩, _ => exact ⟨a, b, d, rfl⟩

theorem heap_put2 {W : World} {g : Nat} {c : Array Value} {t : TypeId} (h : W.heap[g]? = some (.cells c t (0, 0))) (hc : c.size = 2) (x y : Value) : ((W.setCell ⟨g, 0, none⟩ x).setCell ⟨g, 1, none⟩ y).heap[g]? = some (.cells #[x, y] t (0, 0)) := by
  obtain ⟨a, b, rfl⟩ := size2 hc
  have h1 := heap_setCell_same W g 0 _ _ x h
  have h2 := heap_setCell_same _ g 1 _ _ y h1
  simpa using h2

theorem heap_put3 {W : World} {g : Nat} {c : Array Value} {t : TypeId} (h : W.heap[g]? = some (.cells c t (0, 0))) (hc : c.size = 3) (x y z : Value) : (((W.setCell ⟨g, 0, none⟩ x).setCell ⟨g, 1, none⟩ y).setCell ⟨g, 2, none⟩ z).heap[g]? = some (.cells #[x, y, z] t (0, 0)) := by
  obtain ⟨a, b, d, rfl⟩ := size3 hc
  have h1 := heap_setCell_same W g 0 _ _ x h
  have h2 := heap_setCell_same _ g 1 _ _ y h1
  have h3 := heap_setCell_same _ g 2 _ _ z h2
  simpa using h3

theorem segS2 {W : World} {g lo hi : Nat} (h1 : lo ≤ g) (h2 : g < hi) (x y : Value) : Seg lo hi W ((W.setCell ⟨g, 0, none⟩ x).setCell ⟨g, 1, none⟩ y) :=
  ((Seg.setCell W g 0 x).mono h1 h2).trans ((Seg.setCell _ g 1 y).mono h1 h2)
theorem segS3 {W : World} {g lo hi : Nat} (h1 : lo ≤ g) (h2 : g < hi) (x y z : Value) : Seg lo hi W (((W.setCell ⟨g, 0, none⟩ x).setCell ⟨g, 1, none⟩ y).setCell ⟨g, 2, none⟩ z) :=
  (segS2 h1 h2 x y).trans ((Seg.setCell _ g 2 z).mono h1 h2)

end Go.Proofs.Ytepkkeclkdlheaa
