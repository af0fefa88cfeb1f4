/- Known blocks of a drawn region beside facts that no new memory breaks, without a reader (Kv). Any program. -/
import Derived.Test.YtajfhalalnlejaaKn
import Derived.Test.YtajfhalalnlejaaRpA
namespace Go.Proofs.Ytajfhalalnlejaa
open Go.RowKit
set_option linter.unusedSimpArgs false
set_option linter.unusedVariables false

/-- A fact that holds now and goes on to hold whatever new memory is made. -/
def Bv (F : World → Prop) (W : World) : Prop := ∀ W', Below W.heap.size W W' → F W'
theorem Bv.now {F : World → Prop} {W : World} (h : Bv F W) : F W := h W (Below.refl _ _)
theorem Bv.up {F : World → Prop} {W W' : World} (h : Bv F W) (hb : Below W.heap.size W W') : Bv F W' := fun X hX => h X (hb.trans (hX.mono hb.size))
theorem Bv.true (W : World) : Bv (fun _ => True) W := fun _ _ => True.intro
theorem Bv.ow {W : World} {v : Value} {l : List Int} {lo hi : Nat} (h : Ow W v l lo hi) : Bv (fun W => Ow W v l lo hi) W := fun _ hb => h.below hb

/-- Since the region began (world w) only new memory was made; each block of L holds what L says; A and B hold and go on to. -/
structure Kv (A B : World → Prop) (w W : World) (L : List (Nat × Array Value × TypeId)) : Prop where
  kn : Kn w W L
  a : Bv A W
  b : Bv B W

theorem Kv.start {A B : World → Prop} (w : World) (h : Bv A w) (k : Bv B w) : Kv A B w w [] := ⟨Kn.start w, h, k⟩
theorem Kv.up {A B : World → Prop} {w W W' : World} {L : List (Nat × Array Value × TypeId)} (h : Kv A B w W L) (hb : Below W.heap.size W W') : Kv A B w W' L := ⟨h.kn.up hb, h.a.up hb, h.b.up hb⟩
theorem Kv.alloc {A B : World → Prop} {w W : World} {L : List (Nat × Array Value × TypeId)} (h : Kv A B w W L) (c : Array Value) (t : TypeId) : Kv A B w (W.alloc (.cells c t)) (L ++ [(W.heap.size, c, t)]) :=
  ⟨h.kn.alloc c t, h.a.up (below1 W _), h.b.up (below1 W _)⟩
theorem Kv.drew {A B : World → Prop} {w W : World} {L : List (Nat × Array Value × TypeId)} (h : Kv A B w W L) : Kv A B w W.drew L := ⟨h.kn.drew, h.a.up (Below.refl _ _).drew, h.b.up (Below.refl _ _).drew⟩
/-- A call that makes new memory alone, with a new fact. -/
theorem Kv.nextA {A A' B : World → Prop} {w W W' : World} {L : List (Nat × Array Value × TypeId)} (h : Kv A B w W L) (hb : Below W.heap.size W W') (hF : Bv A' W') : Kv A' B w W' L := ⟨h.kn.up hb, hF, h.b.up hb⟩
theorem Kv.nextB {A B B' : World → Prop} {w W W' : World} {L : List (Nat × Array Value × TypeId)} (h : Kv A B w W L) (hb : Below W.heap.size W W') (hF : Bv B' W') : Kv A B' w W' L := ⟨h.kn.up hb, h.a.up hb, hF⟩
/-- What was made before lies below what a callee makes. -/
theorem Kv.under {A B : World → Prop} {w W : World} {L : List (Nat × Array Value × TypeId)} (h : Kv A B w W L) (lo : Nat) (hl : W.heap.size ≤ lo) : w.heap.size ≤ lo ∧ ∀ e ∈ L, e.1 < lo :=
  ⟨Nat.le_trans h.kn.below.size hl, fun e he => Nat.lt_of_lt_of_le (Array.getElem?_eq_some_iff.1 (h.kn.hold e he)).1 hl⟩

theorem Kn.put3v {w W : World} {L : List (Nat × Array Value × TypeId)} (h : Kn w W L) (i : Nat) {g : Nat} {a b c : Value} {t : TypeId} (ho : L[i]? = some (g, #[a, b, c], t)) (x y z : Value) :
    Kn w (((W.setCell ⟨g, 0, none⟩ x).setCell ⟨g, 1, none⟩ y).setCell ⟨g, 2, none⟩ z) (L.set i (g, #[x, y, z], t)) := by
  have hi := (List.getElem?_eq_some_iff.1 ho).1
  have h1 := h.set i 0 ho x
  have h2 := h1.set i 1 (by rw [List.getElem?_set_self hi]) y
  have h3 := h2.set i 2 (by rw [List.getElem?_set_self (by simpa using hi)]) z
  simpa using h3

theorem RP.fill_at (S : RP) (k a : Nat) (p : Int) : (S.at k p).fill a = (S.fill a).at k p := by
  unfold RP.fill RP.at
  simp only
  split <;> rfl

theorem Kn.joinv {w w1 W : World} {L M : List (Nat × Array Value × TypeId)} (h : Kn w w1 L) (k : Kn w1 W M) : Kn w W (L ++ M) := by
  have h1 := h.up k.below
  refine ⟨h1.below, fun e he => ?_, fun e he => ?_, ?_⟩
  · rcases List.mem_append.1 he with he | he
    · exact h1.hold e he
    · exact k.hold e he
  · rcases List.mem_append.1 he with he | he
    · exact h1.high e he
    · exact Nat.le_trans h.below.size (k.high e he)
  · rw [List.map_append, List.nodup_append]
    refine ⟨h1.nodup, k.nodup, fun a ha b hb => ?_⟩
    obtain ⟨e, he, rfl⟩ := List.mem_map.1 ha
    obtain ⟨e2, he2, rfl⟩ := List.mem_map.1 hb
    have h3 : e.1 < w1.heap.size := (Array.getElem?_eq_some_iff.1 (h.hold e he)).1
    have h4 := k.high e2 he2
    omega

end Go.Proofs.Ytajfhalalnlejaa
