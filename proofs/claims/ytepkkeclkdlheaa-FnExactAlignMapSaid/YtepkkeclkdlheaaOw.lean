/- Integers of the call's own, by the stretch of blocks that they lie in (from lo on, below hi). -/
import Derived.Test.YtepkkeclkdlheaaOwn
import Derived.Test.YtepkkeclkdlheaaScan
namespace Go.Proofs.Ytepkkeclkdlheaa
open Go.RowKit Go.ChangeShapes
set_option linter.unusedSimpArgs false
set_option linter.unusedVariables false
set_option maxRecDepth 100000

/-- Of what was there only blocks from lo on, below hi, may have turned. -/
structure Seg (lo hi : Nat) (w w' : World) : Prop where
  below : Below lo w w'
  over : ∀ b, hi ≤ b → b < w.heap.size → w'.heap[b]? = w.heap[b]?

theorem Only.seg {F : List Nat} {w w' : World} {lo hi : Nat} (h : Only F w w') (hF : ∀ b ∈ F, lo ≤ b ∧ b < hi) (hl : lo ≤ w.heap.size) : Seg lo hi w w' :=
  ⟨h.toBelow (fun b hb => (hF b hb).1) hl, fun b hb hlt => h.block b hlt fun hf => by have := (hF b hf).2; omega⟩

/-- The integers l lie in a row of v's own, from block lo on, below hi. -/
structure Ow (w : World) (v : Value) (l : List Int) (lo hi : Nat) : Prop where
  own : ∃ F, OI w 3 v l F ∧ ∀ b ∈ F, lo ≤ b ∧ b < hi
  le : lo ≤ hi
  top : hi ≤ w.heap.size

theorem Ow.of {w' : World} {v : Value} {l : List Int} {lo : Nat} (h : Is w' lo 3 v l) (hs : lo ≤ w'.heap.size) : Ow w' v l lo w'.heap.size := ⟨⟨_, OI.of h⟩, hs, Nat.le_refl _⟩

theorem Ow.below {w w' : World} {v : Value} {l : List Int} {lo hi : Nat} (h : Ow w v l lo hi) (hb : Below w.heap.size w w') : Ow w' v l lo hi := by
  obtain ⟨⟨F, h, hF⟩, h1, h2⟩ := h
  exact ⟨⟨F, h.below hb, hF⟩, h1, Nat.le_trans h2 hb.size⟩

theorem Ow.drew {w : World} {v : Value} {l : List Int} {lo hi : Nat} (h : Ow w v l lo hi) : Ow w.drew v l lo hi := h.below (Below.refl _ _).drew

theorem Ow.seg {w w' : World} {v : Value} {l : List Int} {lo hi a b : Nat} (h : Ow w v l lo hi) (s : Seg a b w w') (d : hi ≤ a ∨ b ≤ lo) : Ow w' v l lo hi := by
  obtain ⟨⟨F, h, hF⟩, h1, h2⟩ := h
  refine ⟨⟨F, h.eq fun x hx => ?_, hF⟩, h1, Nat.le_trans h2 s.below.size⟩
  have hx2 := hF x hx
  have hx3 := h.lt x hx
  rcases d with d | d
  · exact s.below.block x (by omega)
  · exact s.over x (by omega) hx3

theorem Ow.ints {w : World} {v : Value} {l : List Int} {lo hi : Nat} (h : Ow w v l lo hi) (hw : ∀ x ∈ l, I64 x) : Ints w w.heap.size v l := by
  obtain ⟨⟨F, h, hF⟩, _, _⟩ := h
  obtain ⟨_, _, _, hl⟩ := h.form
  exact h.1.ints (Nat.le_refl _) hl hw

theorem Kn.seg {w W W' : World} {L : List (Nat × Array Value × TypeId)} {a b : Nat} (h : Kn w W L) (s : Seg a b W W') (hw : w.heap.size ≤ a) (hL : ∀ e ∈ L, e.1 < a ∨ b ≤ e.1) : Kn w W' L := by
  refine ⟨h.below.trans (s.below.mono hw), fun e he => ?_, h.high, h.nodup⟩
  have hlt := (Array.getElem?_eq_some_iff.1 (h.hold e he)).1
  rcases hL e he with d | d
  · rw [s.below.block _ d]; exact h.hold e he
  · rw [s.over _ d hlt]; exact h.hold e he

/-- A number is returned, v's own integers now read as l', only their stretch has turned. -/
def RetMS (w : World) (v : Value) (lo hi : Nat) (x : Int) (l : List Int) (e : Ending) (w' : World) : Prop := e = .returned (.int .i64 x) ∧ Ow w' v l lo hi ∧ Seg lo hi w w'

theorem markIntS_ow (v : Value) (l : List Int) (lo hi : Nat) (k : Int) (w : World) (h : Ow w v l lo hi) (h0 : 0 ≤ k) (h1 : k + l.length ≤ 4611686018427387904) :
    Calls Try.prog 20 #[v, .int .i64 k] w (RetMS w v lo hi (k + l.length) (mkI k l.length)) := by
  obtain ⟨⟨F, h, hF⟩, hl, ht⟩ := h
  refine (markIntS_own v l F k w h h0 h1).mono ?_
  rintro e w' ⟨rfl, ho, hw⟩
  exact ⟨rfl, ⟨⟨F, ho, hF⟩, hl, Nat.le_trans ht hw.below.size⟩, hw.seg hF (Nat.le_trans hl ht)⟩

theorem heldIntS_ow (v : Value) (n : Nat) (lo hi : Nat) (k : Int) (w : World) (h : Ow w v (mkI k n) lo hi) (h0 : 0 ≤ k) (h1 : k + n ≤ 4611686018427387904) :
    Calls Try.prog 50 #[v, .int .i64 k] w fun e w' => e = .returned (.int .i64 (k + n)) ∧ w = w' := by
  obtain ⟨⟨F, h, hF⟩, _, _⟩ := h
  exact heldIntS_own v n F k w h h0 h1

theorem eqIntS_alike (v u : Value) (l : List Int) (w : World) (B : Nat) (hv : Ints w B v l) (hu : Ints w B u l) :
    Calls Try.prog 19 #[v, u] w (RetB1 w true) := by
  have h := eqIntS_any v u l l w B hv hu
  rwa [decide_eq_true rfl] at h

end Go.Proofs.Ytepkkeclkdlheaa
