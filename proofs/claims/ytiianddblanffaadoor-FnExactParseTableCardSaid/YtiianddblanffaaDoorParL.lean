/- Both ParseTables in one contract's form; the frame of a law that hands over the world's shape. -/
import Derived.Test.YtiianddblanffaaDoorParS
import Derived.Test.YtiianddblanffaaDoorParI
import Derived.Test.YtiianddblanffaaDoorHeld
import Derived.Handed
import Derived.Shelf.Vars
namespace Go.Proofs.YtiianddblanffaaDoor
open Go.RowKit Go.ChangeShapes
set_option linter.unusedSimpArgs false
set_option linter.unusedVariables false
set_option maxRecDepth 100000

theorem iParse_sp (s : ByteArray) (w : World) (hs : s.size ≤ 1048576) (hT : Tab w) (hM : ML w) :
    Calls Tryd.prog 11 #[.string s] w (RetSP w (sP s.data.toList)) := by
  refine (iParse_any s w hs hT hM).mono ?_
  rintro e w' ⟨hb, h⟩
  rw [sP_impl]
  cases hi : implP s.data.toList with
  | some cs =>
    rw [hi] at h
    obtain ⟨a, cap, F, rfl, hc, hF⟩ := h
    exact ⟨hb, a, cap, F, rfl, hc, hF⟩
  | none =>
    rw [hi] at h
    subst h
    exact ⟨hb, none, 0, [], rfl, .inl ⟨rfl, rfl, rfl⟩, by simp⟩

/-- What holds of a parsed table. -/
def Parsed (cs : List Col) : Prop := (cs.length ≤ 4 ∧ cnt cs ≤ 1000) ∧ ∀ c ∈ cs, c.1.size ≤ 9223372036854775807 ∧ ∀ x ∈ c.2, I64 x

theorem sP_parsed (s : List UInt8) : Parsed (sP s).1 := by
  have key : ∀ cs : List Col, isT cs = true → Parsed cs := by
    intro cs h
    have ht := isT_ok h
    have hl := (isT_len h).2
    have hcol : ∀ c ∈ cs, c.1.size ≤ 9223372036854775807 ∧ c.2.length ≤ 64 ∧ ∀ x ∈ c.2, I64 x := by
      intro c hc
      obtain ⟨j, hj, rfl⟩ := List.getElem_of_mem hc
      obtain ⟨h1, h2, -, -⟩ := ht.2 j hj
      simp [isNm] at h1
      simp [areVals] at h2
      refine ⟨by omega, h2.1, fun x hx => ?_⟩
      have := h2.2 x hx
      unfold I64
      omega
    refine ⟨⟨hl, ?_⟩, fun c hc => ⟨(hcol c hc).1, (hcol c hc).2.2⟩⟩
    rw [cnt_eq]
    have hsum : ∀ l : List Col, (∀ c ∈ l, c.2.length ≤ 64) → (l.map fun c => c.2.length).sum ≤ l.length * 64 := by
      intro l
      induction l with
      | nil => simp
      | cons c l ih =>
        intro h
        have := ih (fun d hd => h d (by simp [hd]))
        have := h c (by simp)
        simp only [List.map_cons, List.sum_cons, List.length_cons]
        omega
    have := hsum cs (fun c hc => (hcol c hc).2.1)
    omega
  unfold sP
  split
  · rename_i h
    exact key _ h.1
  · exact ⟨⟨by simp, by simp [cnt]⟩, by simp⟩

theorem Parsed.tbl {w : World} {a : Option Addr} {cap : Nat} {cs : List Col} {F : List Nat} (h : Parsed cs) (hc : colsE w (.slice a cs.length cap) cs F) : Tbl w w.heap.size (.agg #[.slice a cs.length cap]) cs := ⟨_, rfl, colsE_cols hc (Nat.le_refl _) h.2⟩

/-- A variable's cell, in a block of its own. -/
def Cel (W : World) (b : Nat) (x : Value) : Prop := W.cell? ⟨b, 0, none⟩ = some x ∧ b < W.heap.size

theorem Cel.up {W W' : World} {b : Nat} {x : Value} (h : Cel W b x) (hb : Below W.heap.size W W') : Cel W' b x :=
  ⟨(hb.cell (p := ⟨b, 0, none⟩) h.2).trans h.1, Nat.lt_of_lt_of_le h.2 hb.size⟩

theorem Cel.only {W W' : World} {b : Nat} {x : Value} {F : List Nat} (h : Cel W b x) (hb : Only F W W') (hF : b ∉ F) : Cel W' b x :=
  ⟨(hb.cell (p := ⟨b, 0, none⟩) h.2 hF).trans h.1, Nat.lt_of_lt_of_le h.2 hb.below.size⟩

theorem Cel.new (w : World) (x : Value) (t : TypeId) : Cel (w.alloc (.cells #[x] t)) w.heap.size x := ⟨(Box.new w x t).2.1, (Box.new w x t).2.2⟩

theorem ml_of {W : World} (h : W.ShapedOpen Tryd.prog) : ML W :=
  cell_of_shapedOpen_int (zero := #[.int .i64 0]) (t := 3) h (by decide +kernel) (by kernel_rfl) rfl (by kernel_rfl) (by kernel_rfl) Tryd.underlying3

/-- The frame of a row with a premise of its own (X), which also tells the walk that the world has its shape. -/
theorem handed_open {H : Type} {enc : TypeId × Value → H} {a : Assume} {C : Checked} {os : Os} {f : FuncId} {fn : Func} {s : ChangeSpec} {conds : List PathCond} {apart fresh handsOn again : Bool} {X : World → Array Value → Prop}
    (hX : ∀ (w w' : World) (args : Array Value), w.heap = w'.heap → X w args → X w' args)
    (own : ownKnob C.prog.godebug = none) (started : os.Started) (noInit : C.prog.inits.idxOf? f = none) (hfn : C.prog.funcs[f]? = some fn)
    (witness : ∃ (w : World) (tape : Tape) (i : Input), w.os = os ∧ (w.forCall tape i).Shaped C.prog ∧ i.vars = [] ∧ Input.okWide C.prog (w.forCall tape i) .any w.heap.size f i ∧
      ((s.pre enc C.prog fn conds apart (w.forCall tape i).memory i.args ∧ X (w.forCall tape i).memory i.args) ∧ sizedMet enc C.prog fn (OpenSpec.ofChange s) apart (w.forCall tape i).memory i.args) ∧ a.holds C.prog (lone (Frame.enter C.prog f i.args .normal) [] (w.forCall tape i)))
    (contract : ∀ (W : World) (base : Nat) (args : Array Value) (ds gs : List (DataW H)) (before : List MemPlace),
      (∀ (j : Nat) t v, fn.params[j]? = some t → args[j]? = some v → Value.okWide C.prog W .any base t v) →
      DataW.Whole enc C.prog fn.params.toList s.vars apart W args.toList ds gs before → W.ShapedOpen C.prog → X W args →
      Calls C.prog f args W fun e W' => ∃ v, e = .returned v ∧ s.post enc C.prog fn apart fresh handsOn again W args v W') :
    ReturnsInHanded a C os f .any (fun w args => (s.pre enc C.prog fn conds apart w args ∧ X w args) ∧ sizedMet enc C.prog fn (OpenSpec.ofChange s) apart w args) (s.post enc C.prog fn apart fresh handsOn again) := by
  refine returnsInHanded_of_calls own started noInit witness fun w tape i _ hshape _ hok hpre _ => ?_
  obtain ⟨_, _, _, fn', hfn', _, _, _, _, hval⟩ := hok
  obtain rfl : fn' = fn := Option.some.inj (hfn'.symm.trans hfn)
  obtain ⟨⟨⟨ds, gs, before, hw, _⟩, hx⟩, _⟩ := hpre
  refine (contract (w.forCall tape i) w.heap.size i.args ds gs before hval (DataW.Whole.of_heap (w' := w.forCall tape i) (by rfl) hw) hshape (hX _ _ _ (by rfl) hx)).mono fun e W' h => ?_
  obtain ⟨v, he, hp⟩ := h
  subst he
  exact ChangeSpec.post_blind hp

end Go.Proofs.YtiianddblanffaaDoor
