/- The reader of drawn inputs (spec.l1Cur): its functions return numbers in their ranges and write into the reader alone. -/
import Derived.Test.YtdjhnamofmcmjaaDec
import Derived.Deep.QuietTactic
import Derived.BigQuiet
import Derived.ProofKit
import Derived.OpenShut
namespace Go.Proofs.Ytdjhnamofmcmjaa
open Go.RowKit Go.ChangeShapes
set_option linter.unusedSimpArgs false
set_option linter.unusedVariables false
set_option maxRecDepth 100000

/-- The bytes of the code are there. -/
def CodeAt (w : World) (a : Option Addr) (len cap : Nat) : Prop := len ≤ 9223372036854775807 ∧ (∀ x, a = some x → 0 < len → x.block < w.heap.size) ∧ ∀ j, j < len → ∃ (b o : Nat) (x : Nat), a = some ⟨b, o, none⟩ ∧ x < 256 ∧ w.cell? ⟨b, o + j, none⟩ = some (.int .u8 x)

theorem CodeAt.below {w w' : World} {a : Option Addr} {len cap B : Nat} (h : CodeAt w a len cap) (hb : Below B w w') (hB : w.heap.size ≤ B) : CodeAt w' a len cap := by
  obtain ⟨h1, h2, h3⟩ := h
  refine ⟨h1, fun x hx h0 => Nat.lt_of_lt_of_le (h2 x hx h0) hb.size, fun j hj => ?_⟩
  obtain ⟨b, o, x, e, hx, hc⟩ := h3 j hj
  exact ⟨b, o, x, e, hx, by rw [hb.cell (p := ⟨b, o + j, none⟩) (Nat.lt_of_lt_of_le (show b < _ from h2 ⟨b, o, none⟩ e (by omega)) hB)]; exact hc⟩

theorem cur_cell {w : World} {g : Nat} {x y z : Value} {t : TypeId} (h : w.heap[g]? = some (.cells #[x, y, z] t (0, 0))) :
    w.cell? ⟨g, 0, none⟩ = some x ∧ w.cell? ⟨g, 1, none⟩ = some y ∧ w.cell? ⟨g, 2, none⟩ = some z ∧ w.frozen? ⟨g, 1, none⟩ = false ∧ w.frozen? ⟨g, 2, none⟩ = false := by
  refine ⟨?_, ?_, ?_, ?_, ?_⟩
  · rw [cell_of_row w g 0 _ t (0, 0) h]; rfl
  · rw [cell_of_row w g 1 _ t (0, 0) h]; rfl
  · rw [cell_of_row w g 2 _ t (0, 0) h]; rfl
  · exact frozen_of_row w g 1 _ t h
  · exact frozen_of_row w g 2 _ t h

theorem and255 (y : Int) : 0 ≤ bits .and .i64 y 255 ∧ bits .and .i64 y 255 ≤ 255 := by
  have e : (BitVec.ofInt 64 255).toNat = 255 := by decide
  have h : (BitVec.ofInt 64 y &&& BitVec.ofInt 64 255).toNat ≤ 255 := by
    rw [BitVec.toNat_and, e]
    exact Nat.and_le_right
  show 0 ≤ IntKind.i64.wrap ((BitVec.ofInt 64 y &&& BitVec.ofInt 64 255).toNat : Int) ∧ IntKind.i64.wrap ((BitVec.ofInt 64 y &&& BitVec.ofInt 64 255).toNat : Int) ≤ 255
  rw [IntWalk.i64_in _ (by omega)]
  omega

theorem cur_set (w : World) (g j : Nat) (cs : Array Value) (t : TypeId) (u : Value) (h : w.heap[g]? = some (.cells cs t (0, 0))) : (w.setCell ⟨g, j, none⟩ u).heap[g]? = some (.cells (cs.setIfInBounds j u) t (0, 0)) := heap_setCell_same w g j cs t u h

theorem cur_set1 (w : World) (g : Nat) (x y z u : Value) (t : TypeId) (h : w.heap[g]? = some (.cells #[x, y, z] t (0, 0))) : (w.setCell ⟨g, 1, none⟩ u).heap[g]? = some (.cells #[x, u, z] t (0, 0)) := by
  rw [cur_set w g 1 _ _ u h]; rfl
theorem cur_set2 (w : World) (g : Nat) (x y z u : Value) (t : TypeId) (h : w.heap[g]? = some (.cells #[x, y, z] t (0, 0))) : (w.setCell ⟨g, 2, none⟩ u).heap[g]? = some (.cells #[x, y, u] t (0, 0)) := by
  rw [cur_set w g 2 _ _ u h]; rfl

theorem grown_set (w : World) (g j : Nat) (u : Value) : w.grownBy (w.setCell ⟨g, j, none⟩ u) (some g) := ⟨rfl, rfl, rfl, by simp, fun k hk hne => heap_setCell_other w ⟨g, j, none⟩ k u (fun e => hne (by simp [e]))⟩

theorem grown_trans {a b c : World} {r : Option Nat} (h : a.grownBy b r) (k : b.grownBy c r) : a.grownBy c r :=
  ⟨k.os.trans h.os, k.tape.trans h.tape, k.output.trans h.output, Nat.le_trans h.size k.size, fun i hi hne => (k.block i (Nat.lt_of_lt_of_le hi h.size) hne).trans (h.block i hi hne)⟩

theorem grown_drewN (w : World) (r : Option Nat) (n : Nat) : w.grownBy (w.drewN n) r := ⟨rfl, rfl, rfl, Nat.le_refl _, fun _ _ _ => rfl⟩

theorem code_apart {w : World} {b o j g : Nat} {x : Int} {y z : Int} {s : Option Addr} {n c : Nat} {t : TypeId} (hc : w.cell? ⟨b, o + j, none⟩ = some (.int .u8 x)) (hh : w.heap[g]? = some (.cells #[.slice s n c, .int .i64 y, .int .i64 z] t (0, 0))) : b ≠ g := by
  intro e
  subst e
  rw [cell_of_row w b (o + j) _ t (0, 0) hh] at hc
  match o + j, hc with
  | 0, hc => simp at hc
  | 1, hc => simp at hc
  | 2, hc => simp at hc
  | k + 3, hc => simp at hc

theorem grown_below {B g : Nat} {w w' : World} (h : w.grownBy w' (some g)) (hB : B ≤ g) (hs : B ≤ w.heap.size) : Below B w w' :=
  ⟨h.os, h.tape, h.output, h.size, fun k hk => h.block k (by omega) (fun e => by have := Option.some.inj e; omega)⟩

/-- The argument code of a drawn law. -/
def CodeV (w : World) (v : Value) : Prop := ∃ a len cap, v = .slice a len cap ∧ CodeAt w a len cap

end Go.Proofs.Ytdjhnamofmcmjaa
