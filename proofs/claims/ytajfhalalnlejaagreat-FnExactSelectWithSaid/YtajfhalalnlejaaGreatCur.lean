/- The reader of drawn inputs (spec.l1Cur): its functions return numbers in their ranges and write into the reader alone. -/
import Derived.Test.YtajfhalalnlejaaGreatDec
import Derived.Deep.QuietTactic
import Derived.BigQuiet
import Derived.ProofKit
import Derived.OpenShut
namespace Go.Proofs.YtajfhalalnlejaaGreat
open Go.RowKit Go.ChangeShapes
set_option linter.unusedSimpArgs false
set_option linter.unusedVariables false
set_option maxRecDepth 100000

/-- The bytes of the code are there. -/
def CodeAt (w : World) (a : Option Addr) (len cap : Nat) : Prop := len ≤ 9223372036854775807 ∧ (∀ x, a = some x → 0 < len → x.block < w.heap.size) ∧ ∀ j, j < len → ∃ (b o : Nat) (x : Nat), a = some ⟨b, o, none⟩ ∧ x < 256 ∧ w.cell? ⟨b, o + j, none⟩ = some (.int .u8 x)

theorem CodeAt.below {w w' : World} {a : Option Addr} {len cap B : Nat} (h : CodeAt w a len cap) (hb : Below B w w') (hB : w.heap.size ≤ B) : CodeAt w' a len cap := by
  obtain ⟨h1, h2, h3⟩ := h
  refine ⟨h1, fun x hx h0 => Nat.lt_of_lt_of_le (h2 x hx h0) hb.size, fun j hj => ?_⟩
  obtain ⟨b, o, x, e, hx, hc⟩ := h3 j hj
  exact ⟨b, o, x, e, hx, by rw [hb.cell (p := ⟨b, o + j, none⟩) (Nat.lt_of_lt_of_le (show b < _ from h2 ⟨b, o, none⟩ e (by omega)) hB)]; exact hc⟩

/-- A reader of that code lies in block g. -/
def Cur (a : Option Addr) (len cap : Nat) (w : World) (g : Nat) : Prop :=
  ∃ (i : Nat) (h : Int), w.heap[g]? = some (.cells #[.slice a len cap, .int .i64 i, .int .i64 h] 140 (0, 0)) ∧ i ≤ len

theorem cur_cell {w : World} {g : Nat} {x y z : Value} {t : TypeId} (h : w.heap[g]? = some (.cells #[x, y, z] t (0, 0))) :
    w.cell? ⟨g, 0, none⟩ = some x ∧ w.cell? ⟨g, 1, none⟩ = some y ∧ w.cell? ⟨g, 2, none⟩ = some z ∧ w.frozen? ⟨g, 1, none⟩ = false ∧ w.frozen? ⟨g, 2, none⟩ = false := by
  refine ⟨?_, ?_, ?_, ?_, ?_⟩
  · rw [cell_of_row w g 0 _ t (0, 0) h]; rfl
  · rw [cell_of_row w g 1 _ t (0, 0) h]; rfl
  · rw [cell_of_row w g 2 _ t (0, 0) h]; rfl
  · exact frozen_of_row w g 1 _ t h
  · exact frozen_of_row w g 2 _ t h

theorem and255 (y : Int) : 0 ≤ bits .and .i64 y 255 ∧ bits .and .i64 y 255 ≤ 255 := by
  have e : (BitVec.ofInt 64 255).toNat = 255 := by decide
  have h : (BitVec.ofInt 64 y &&& BitVec.ofInt 64 255).toNat ≤ 255 := by
    rw [BitVec.toNat_and, e]
    exact Nat.and_le_right
  show 0 ≤ IntKind.i64.wrap ((BitVec.ofInt 64 y &&& BitVec.ofInt 64 255).toNat : Int) ∧ IntKind.i64.wrap ((BitVec.ofInt 64 y &&& BitVec.ofInt 64 255).toNat : Int) ≤ 255
  rw [IntWalk.i64_in _ (by omega)]
  omega

/-- A small number is returned, the reader stands, nothing else has turned. -/
def RetB (a : Option Addr) (len cap g : Nat) (w : World) (m : Int) (e : Ending) (w' : World) : Prop := ∃ x : Int, 0 ≤ x ∧ x ≤ m ∧ e = .returned (.int .i64 x) ∧ Cur a len cap w' g ∧ w.grownBy w' (some g)

theorem cur_set (w : World) (g j : Nat) (cs : Array Value) (t : TypeId) (u : Value) (h : w.heap[g]? = some (.cells cs t (0, 0))) : (w.setCell ⟨g, j, none⟩ u).heap[g]? = some (.cells (cs.setIfInBounds j u) t (0, 0)) := heap_setCell_same w g j cs t u h

theorem cur_set1 (w : World) (g : Nat) (x y z u : Value) (t : TypeId) (h : w.heap[g]? = some (.cells #[x, y, z] t (0, 0))) : (w.setCell ⟨g, 1, none⟩ u).heap[g]? = some (.cells #[x, u, z] t (0, 0)) := by
  rw [cur_set w g 1 _ _ u h]; rfl
theorem cur_set2 (w : World) (g : Nat) (x y z u : Value) (t : TypeId) (h : w.heap[g]? = some (.cells #[x, y, z] t (0, 0))) : (w.setCell ⟨g, 2, none⟩ u).heap[g]? = some (.cells #[x, y, u] t (0, 0)) := by
  rw [cur_set w g 2 _ _ u h]; rfl

theorem grown_set (w : World) (g j : Nat) (u : Value) : w.grownBy (w.setCell ⟨g, j, none⟩ u) (some g) := ⟨rfl, rfl, rfl, by simp, fun k hk hne => heap_setCell_other w ⟨g, j, none⟩ k u (fun e => hne (by simp [e]))⟩

theorem grown_trans {a b c : World} {r : Option Nat} (h : a.grownBy b r) (k : b.grownBy c r) : a.grownBy c r :=
  ⟨k.os.trans h.os, k.tape.trans h.tape, k.output.trans h.output, Nat.le_trans h.size k.size, fun i hi hne => (k.block i (Nat.lt_of_lt_of_le hi h.size) hne).trans (h.block i hi hne)⟩

theorem grown_drewN (w : World) (r : Option Nat) (n : Nat) : w.grownBy (w.drewN n) r := ⟨rfl, rfl, rfl, Nat.le_refl _, fun _ _ _ => rfl⟩

theorem code_apart {w : World} {b o j g : Nat} {x : Int} {y z : Int} {s : Option Addr} {n c : Nat} {t : TypeId} (hc : w.cell? ⟨b, o + j, none⟩ = some (.int .u8 x)) (hh : w.heap[g]? = some (.cells #[.slice s n c, .int .i64 y, .int .i64 z] t (0, 0))) : b ≠ g := by
  intro e
  subst e
  rw [cell_of_row w b (o + j) _ t (0, 0) hh] at hc
  match o + j, hc with
  | 0, hc => simp at hc
  | 1, hc => simp at hc
  | 2, hc => simp at hc
  | k + 3, hc => simp at hc

set_option maxHeartbeats 2000000 in
theorem byte_any (a : Option Addr) (len cap g : Nat) (w : World) (hcode : CodeAt w a len cap) (hc : Cur a len cap w g) :
    Calls Tryz.prog 135 #[.pointer (some ⟨g, 0, none⟩)] w (RetB a len cap g w 255) := by
  obtain ⟨i, h, hh, hil⟩ := hc
  have hlen := hcode.1
  obtain ⟨c0, c1, c2, f1, f2⟩ := cur_cell hh
  obtain ⟨h1, e1⟩ : ∃ h1, wrap64 (wrap64 (h * 6364136223846793005) + 1442695040888963407) = h1 := ⟨_, rfl⟩
  obtain ⟨x0, e2⟩ : ∃ x0, bits .and .i64 (bits .xor .i64 (h1 / 8589934592) (h1 / 35184372088832)) 255 = x0 := ⟨_, rfl⟩
  have hx0 := and255 (bits .xor .i64 (h1 / 8589934592) (h1 / 35184372088832))
  rw [e2] at hx0
  obtain ⟨hx1, hx2⟩ := hx0
  have s2 := cur_set2 w g _ _ _ (.int .i64 h1) _ hh
  have HH := hide hh
  clear hh
  by_cases hlt : i < len
  · obtain ⟨b, o, y, rfl, hy, hcy⟩ := hcode.2.2 i hlt
    have hbg := code_apart hcy HH.out
    obtain ⟨x3, e3⟩ : ∃ x3, bits .and .i64 (x0 + (y : Int)) 255 = x3 := ⟨_, rfl⟩
    have hx3 := and255 (x0 + (y : Int))
    rw [e3] at hx3
    obtain ⟨hx4, hx5⟩ := hx3
    have hlt2 : (i : Int) < (len : Int) := by omega
    have HS := hide s2
    clear hcode s2
    go_enter Tryz.func135, Tryz.ntmps135
    go_wp2
    go_quiet (fail)
    go_wp2
    go_quiet (fail)
    go_wp2
    have q1 : IntKind.i64.wrap (y : Int) = (y : Int) := IntWalk.i64_in _ (by omega)
    have q2 : IntKind.i64.wrap (x0 + (y : Int)) = x0 + (y : Int) := IntWalk.i64_in _ (by omega)
    go_quiet (fail)
    go_wp2
    go_ret
    have s3 := cur_set1 _ g _ _ _ (.int .i64 ((i + 1 : Nat) : Int)) _ HS.out
    exact ⟨x3, hx4, hx5, rfl, ⟨i + 1, h1, s3, by omega⟩, grown_trans (grown_set w g 2 (.int .i64 h1)) (grown_trans (grown_set _ g 1 (.int .i64 ((i + 1 : Nat) : Int))) ⟨rfl, rfl, rfl, Nat.le_refl _, fun _ _ _ => rfl⟩)⟩
  · have hd : decide (i < len) = false := by simp; omega
    have HS := hide s2
    clear hcode s2
    go_enter Tryz.func135, Tryz.ntmps135
    go_wp2
    go_quiet (fail)
    go_wp2
    go_quiet (fail)
    go_wp2
    go_ret
    exact ⟨x0, hx1, hx2, rfl, ⟨i, h1, HS.out, hil⟩, grown_trans (grown_set w g 2 (.int .i64 h1)) ⟨rfl, rfl, rfl, Nat.le_refl _, fun _ _ _ => rfl⟩⟩

/-- A reader in block g over a code that lies below block B. -/
structure Rd (B : Nat) (a : Option Addr) (len cap : Nat) (w : World) (g : Nat) : Prop where
  code : CodeAt w a len cap
  cur : Cur a len cap w g
  low : ∀ x, a = some x → 0 < len → x.block < B
  high : B ≤ g

theorem Rd.lt {B : Nat} {a : Option Addr} {len cap g : Nat} {w : World} (h : Rd B a len cap w g) : g < w.heap.size := by
  obtain ⟨i, x, hh, _⟩ := h.cur
  exact (Array.getElem?_eq_some_iff.1 hh).1

theorem Rd.step {B : Nat} {a : Option Addr} {len cap g : Nat} {w w' : World} (h : Rd B a len cap w g) (hb : Below B w w') (hg : w'.heap[g]? = w.heap[g]?) : Rd B a len cap w' g := by
  refine ⟨?_, ?_, h.low, h.high⟩
  · obtain ⟨h1, h2, h3⟩ := h.code
    refine ⟨h1, fun x hx h0 => Nat.lt_of_lt_of_le (h2 x hx h0) hb.size, fun j hj => ?_⟩
    obtain ⟨b, o, x, e, hx, hc⟩ := h3 j hj
    exact ⟨b, o, x, e, hx, by rw [hb.cell (p := ⟨b, o + j, none⟩) (show b < B from h.low ⟨b, o, none⟩ e (by omega))]; exact hc⟩
  · obtain ⟨i, x, hh, hi⟩ := h.cur
    exact ⟨i, x, hg.trans hh, hi⟩

theorem Rd.alloc {B : Nat} {a : Option Addr} {len cap g : Nat} {w : World} (h : Rd B a len cap w g) (o : Obj) : Rd B a len cap (w.alloc o) g :=
  h.step ((Below.refl B w).alloc (by have := h.lt; have := h.high; omega) o) (Below.heap_alloc _ _ _ h.lt)

/-- A small number is returned, the reader stands, nothing else has turned. -/
def RetR (B : Nat) (a : Option Addr) (len cap g : Nat) (w : World) (m : Int) (e : Ending) (w' : World) : Prop := ∃ x : Int, 0 ≤ x ∧ x ≤ m ∧ e = .returned (.int .i64 x) ∧ Rd B a len cap w' g ∧ w.grownBy w' (some g)

theorem grown_below {B g : Nat} {w w' : World} (h : w.grownBy w' (some g)) (hB : B ≤ g) (hs : B ≤ w.heap.size) : Below B w w' :=
  ⟨h.os, h.tape, h.output, h.size, fun k hk => h.block k (by omega) (fun e => by have := Option.some.inj e; omega)⟩

theorem byte_rd (B : Nat) (a : Option Addr) (len cap g : Nat) (w : World) (h : Rd B a len cap w g) : Calls Tryz.prog 135 #[.pointer (some ⟨g, 0, none⟩)] w (RetR B a len cap g w 255) :=
  (byte_any a len cap g w h.code h.cur).mono fun e w' ⟨x, h1, h2, h3, h4, h5⟩ => by
    have hlt := h.lt
    have hb : Below B w w' := grown_below h5 h.high (by have := h.high; omega)
    refine ⟨x, h1, h2, h3, ⟨?_, h4, h.low, h.high⟩, h5⟩
    obtain ⟨k1, k2, k3⟩ := h.code
    refine ⟨k1, fun x hx h0 => Nat.lt_of_lt_of_le (k2 x hx h0) hb.size, fun j hj => ?_⟩
    obtain ⟨b, o, x, e, hx, hc⟩ := k3 j hj
    exact ⟨b, o, x, e, hx, by rw [hb.cell (p := ⟨b, o + j, none⟩) (show b < B from h.low ⟨b, o, none⟩ e (by omega))]; exact hc⟩

set_option maxHeartbeats 2000000 in
theorem below_rd (B : Nat) (a : Option Addr) (len cap g : Nat) (w : World) (h : Rd B a len cap w g) (n : Int) (hn : 1 ≤ n) (hn2 : n ≤ 4294967296) : Calls Tryz.prog 114 #[.pointer (some ⟨g, 0, none⟩), .int .i64 n] w (RetR B a len cap g w (n - 1)) := by
  have H := hide h
  clear h
  by_cases h256 : n ≤ 256
  · go_enter Tryz.func114, Tryz.ntmps114
    go_wp2_with (go_at_call 135; refine (byte_rd B a len cap g _ H.out).mono ?_; rintro e wa ⟨x, hx0, hx1, rfl, hr, hg⟩)
    go_ret
    exact ⟨x % n, Int.emod_nonneg _ (by omega), by have := Int.emod_lt_of_pos x (show 0 < n by omega); omega, rfl, hr, hg⟩
  · go_enter Tryz.func114, Tryz.ntmps114
    go_wp2_with fail
    refine (byte_rd B a len cap g _ H.out).mono ?_
    rintro e wa ⟨x, hx0, hx1, rfl, hr, hg⟩
    have HR := hide hr
    clear hr
    go_wp2_with fail
    refine (byte_rd B a len cap g _ HR.out).mono ?_
    rintro e wb ⟨y, hy0, hy1, rfl, hr2, hg2⟩
    have HR2 := hide hr2
    clear hr2
    go_wp2_with fail
    refine (byte_rd B a len cap g _ HR2.out).mono ?_
    rintro e wc ⟨z, hz0, hz1, rfl, hr3, hg3⟩
    have HR3 := hide hr3
    clear hr3
    go_wp2_with fail
    refine (byte_rd B a len cap g _ HR3.out).mono ?_
    rintro e wd ⟨t, ht0, ht1, rfl, hr4, hg4⟩
    have HR4 := hide hr4
    clear hr4
    go_wp2_with fail
    go_ret
    exact ⟨(x * 16777216 + y * 65536 + z * 256 + t) % n, Int.emod_nonneg _ (by omega), by have := Int.emod_lt_of_pos (x * 16777216 + y * 65536 + z * 256 + t) (show 0 < n by omega); omega, rfl, HR4.out, grown_trans hg (grown_trans hg2 (grown_trans hg3 hg4))⟩

/-- The argument code of a drawn law. -/
def CodeV (w : World) (v : Value) : Prop := ∃ a len cap, v = .slice a len cap ∧ CodeAt w a len cap

theorem open_code {H : Type} {enc : TypeId × Value → H} {W : World} {base : Nat} {v : Value} {d : DataW H} {p : List MemPlace} (hv : Value.okWide Tryz.prog W .any base 47 v) (h : DataW.Trod enc Tryz.prog W 0 (fun _ => true) true 47 v d p) : CodeV W v := by
  obtain ⟨a, len, cap, rfl⟩ := WideShapes.okWide_slice Tryz.underlying47 hv
  obtain ⟨fuel, hf⟩ := h
  rcases open_ints Tryz.underlying47 Tryz.underlying5 (by kernel_rfl) hf with ⟨hcs, _⟩ | ⟨x, l, c, zs, hcs, _, hl, hm, hz, _, hcell, hwz⟩
  · simp [Value.cells] at hcs
    obtain ⟨rfl, rfl, rfl⟩ := hcs
    exact ⟨_, _, _, rfl, by omega, (fun x hx => by cases hx), fun j hj => by omega⟩
  · simp [Value.cells] at hcs
    obtain ⟨rfl, rfl, rfl⟩ := hcs
    have hz' : zs.length = cap := by simpa using hz
    have hcl : ∀ j, j < len → W.cell? (x.add j) = some (.int .u8 (zs.getD j 0)) := fun j hj => hcell j (by omega)
    refine ⟨_, _, _, rfl, by unfold maxLen at hm; omega, ?_, ?_⟩
    · intro y hy h0
      obtain rfl := Option.some.inj hy
      have h1 := World.block_lt_of_cell? _ _ (hcl 0 h0)
      simpa [Addr.add] using h1
    · intro j hj
      obtain ⟨b, off, spot⟩ := x
      have hc := hcl j hj
      have hspot : spot = none := by simpa [Addr.add] using World.cell?_spot (hcl 0 (by omega))
      subst hspot
      have hg : zs.getD j 0 ∈ zs := by
        rw [List.getD_eq_getElem?_getD, List.getElem?_eq_getElem (by omega)]
        exact List.getElem_mem _
      have hb := bounds_u8 (hwz _ hg)
      refine ⟨b, off, (zs.getD j 0).toNat, rfl, by omega, ?_⟩
      rw [show (((zs.getD j 0).toNat : Nat) : Int) = zs.getD j 0 by omega]
      simpa [Addr.add_lit] using hc

end Go.Proofs.YtajfhalalnlejaaGreat
