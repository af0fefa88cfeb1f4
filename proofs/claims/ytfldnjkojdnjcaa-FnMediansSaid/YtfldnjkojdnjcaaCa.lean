/- Several texts in one: Fix, Dec, Cur, Draw, Draw2, Kd, DrawR. -/
import Derived.Test.YtfldnjkojdnjcaaKit
import Derived.Deep.QuietTactic
import Derived.BigQuiet
import Derived.ProofKit
import Derived.OpenShut
import Derived.Test.YtfldnjkojdnjcaaOwn
import Derived.Test.YtfldnjkojdnjcaaScan
import Derived.Deep.AppendLies
/- What EncodeFixed and DecodeFixed of both packages return, for every argument. -/
namespace Go.Proofs.Ytfldnjkojdnjcaa
open Go.RowKit
set_option linter.unusedSimpArgs false
set_option linter.unusedVariables false

theorem infoB : (Try.prog.info? 5).map (fun i => (i.zero, i.size, i.bytes)) = some (some (.int .u8 0), 1, 1) := by kernel_rfl

def encF (n : Nat) : Nat → List UInt8
  | 0 => []
  | k + 1 => UInt8.ofNat (n / 256 ^ k % 256) :: encF n k
theorem div_pow_succ (n k : Nat) : n / 256 ^ k / 256 = n / 256 ^ (k + 1) := by rw [Nat.div_div_eq_div_mul, Nat.pow_succ]
theorem encF_length (n k : Nat) : (encF n k).length = k := by induction k <;> simp [encF, *]

/-- What EncodeFixed returns. -/
def EncF (n width : Int) : List UInt8 := if 1 ≤ width ∧ width ≤ 7 ∧ 0 ≤ n ∧ n.toNat / 256 ^ width.toNat = 0 then encF n.toNat width.toNat else []

theorem EncF_yes (n width : Nat) (h1 : 1 ≤ width) (h2 : width ≤ 7) (h : n / 256 ^ width = 0) : EncF n width = encF n width := by
  unfold EncF; rw [if_pos ⟨by omega, by omega, by omega, by simpa using h⟩]; simp
theorem EncF_big (n width : Nat) (h : n / 256 ^ width ≠ 0) : EncF n width = [] := by
  unfold EncF; rw [if_neg (fun hh => h (by simpa using hh.2.2.2))]
theorem EncF_no (n width : Int) (h : width < 1 ∨ 7 < width ∨ n < 0) : EncF n width = [] := by
  unfold EncF; rw [if_neg (by omega)]

/-- A string is returned; nothing that was there has turned. -/
def RetS (w : World) (l : List UInt8) (e : Ending) (w' : World) : Prop := e = .returned (.string ⟨l.toArray⟩) ∧ Below w.heap.size w w'

theorem rep_set (a j : Nat) (x : UInt8) (l : List UInt8) (h : j + 1 = a) : (List.replicate a (0 : UInt8) ++ l).set j x = List.replicate j 0 ++ (x :: l) := by
  subst h
  rw [List.set_append_left _ _ (by simp), List.replicate_succ', List.set_append_right _ _ (by simp)]
  simp

theorem shr_zero {n width : Nat} (h : ((n : Int) / 2 ^ (8 * width) != 0) = false) : n / 256 ^ width = 0 := by
  have e : (2 : Nat) ^ (8 * width) = 256 ^ width := by rw [Nat.pow_mul]
  have h1 : ((n : Int) / 2 ^ (8 * width)) = ((n / 256 ^ width : Nat) : Int) := by rw [← e]; simp
  rw [h1, bne_eq_false_iff_eq] at h
  exact Int.natCast_eq_zero.1 h
theorem shr_more {n width : Nat} (h : ((n : Int) / 2 ^ (8 * width) != 0) = true) : n / 256 ^ width ≠ 0 := by
  have e : (2 : Nat) ^ (8 * width) = 256 ^ width := by rw [Nat.pow_mul]
  have h1 : ((n : Int) / 2 ^ (8 * width)) = ((n / 256 ^ width : Nat) : Int) := by rw [← e]; simp
  rw [h1] at h
  intro h0
  rw [h0] at h
  simp at h

end Go.Proofs.Ytfldnjkojdnjcaa

/- What DecodeFixed of both packages returns, for every argument. -/
namespace Go.Proofs.Ytfldnjkojdnjcaa
open Go.RowKit
set_option linter.unusedSimpArgs false
set_option linter.unusedVariables false

def decF (l : List UInt8) : Nat := l.foldl (fun a b => a * 256 + b.toNat) 0
theorem decF_snoc (l : List UInt8) (b : UInt8) : decF (l ++ [b]) = decF l * 256 + b.toNat := by simp [decF]
theorem decF_lt (l : List UInt8) : decF l < 256 ^ l.length := by
  suffices h : ∀ (l : List UInt8) (a k : Nat), a < 256 ^ k → l.foldl (fun a b => a * 256 + b.toNat) a < 256 ^ (k + l.length) by
    have := h l 0 0 (by simp)
    simpa [decF] using this
  intro l
  induction l with
  | nil => intro a k h; simpa using h
  | cons b l ih =>
    intro a k h
    have h2 := ih (a * 256 + b.toNat) (k + 1) (by have := b.toNat_lt; rw [Nat.pow_succ]; omega)
    simp only [List.foldl_cons, List.length_cons]
    rw [show k + (l.length + 1) = k + 1 + l.length by omega]
    exact h2
theorem decF_le (l : List UInt8) (h : l.length ≤ 6) : decF l ≤ 281474976710655 := by
  have h1 := decF_lt l
  have h2 : 256 ^ l.length ≤ 256 ^ 6 := Nat.pow_le_pow_right (by omega) h
  omega
theorem take_snoc (s : ByteArray) (k : Nat) (h : k < s.size) : s.data.toList.take (k + 1) = s.data.toList.take k ++ [s[k]] := by
  rw [List.take_succ_eq_append_getElem (by simpa using h)]; rfl

/-- A number and a truth are returned; nothing that was there has turned. -/
def RetIB (w : World) (p : Int × Bool) (e : Ending) (w' : World) : Prop := e = .returned (.tuple #[.int .i64 p.1, .bool p.2]) ∧ Below w.heap.size w w'

/-- What DecodeFixed returns. -/
def DecF (s : ByteArray) (width : Int) : Int × Bool := if 1 ≤ width ∧ width ≤ 7 ∧ width ≤ s.size then ((decF (s.data.toList.take width.toNat) : Int), true) else (0, false)

end Go.Proofs.Ytfldnjkojdnjcaa

/- The reader of drawn inputs (spec.l1Cur): its functions return numbers in their ranges and write into the reader alone. -/
namespace Go.Proofs.Ytfldnjkojdnjcaa
open Go.RowKit Go.ChangeShapes
set_option linter.unusedSimpArgs false
set_option linter.unusedVariables false
set_option maxRecDepth 100000

/-- The bytes of the code are there. -/
def CodeAt (w : World) (a : Option Addr) (len cap : Nat) : Prop := len ≤ 9223372036854775807 ∧ (∀ x, a = some x → 0 < len → x.block < w.heap.size) ∧ ∀ j, j < len → ∃ (b o : Nat) (x : Nat), a = some ⟨b, o, none⟩ ∧ x < 256 ∧ w.cell? ⟨b, o + j, none⟩ = some (.int .u8 x)

theorem CodeAt.below {w w' : World} {a : Option Addr} {len cap B : Nat} (h : CodeAt w a len cap) (hb : Below B w w') (hB : w.heap.size ≤ B) : CodeAt w' a len cap := by
  obtain ⟨h1, h2, h3⟩ := h
  refine ⟨h1, fun x hx h0 => Nat.lt_of_lt_of_le (h2 x hx h0) hb.size, fun j hj => ?_⟩
  obtain ⟨b, o, x, e, hx, hc⟩ := h3 j hj
  exact ⟨b, o, x, e, hx, by rw [hb.cell (p := ⟨b, o + j, none⟩) (Nat.lt_of_lt_of_le (show b < _ from h2 ⟨b, o, none⟩ e (by omega)) hB)]; exact hc⟩

/-- A reader of that code lies in block g. -/
def Cur (a : Option Addr) (len cap : Nat) (w : World) (g : Nat) : Prop :=
  ∃ (i : Nat) (h : Int), w.heap[g]? = some (.cells #[.slice a len cap, .int .i64 i, .int .i64 h] 94 (0, 0)) ∧ i ≤ len

theorem cur_cell {w : World} {g : Nat} {x y z : Value} {t : TypeId} (h : w.heap[g]? = some (.cells #[x, y, z] t (0, 0))) :
    w.cell? ⟨g, 0, none⟩ = some x ∧ w.cell? ⟨g, 1, none⟩ = some y ∧ w.cell? ⟨g, 2, none⟩ = some z ∧ w.frozen? ⟨g, 1, none⟩ = false ∧ w.frozen? ⟨g, 2, none⟩ = false := by
  refine ⟨?_, ?_, ?_, ?_, ?_⟩
  · rw [cell_of_row w g 0 _ t (0, 0) h]; rfl
  · rw [cell_of_row w g 1 _ t (0, 0) h]; rfl
  · rw [cell_of_row w g 2 _ t (0, 0) h]; rfl
  · exact frozen_of_row w g 1 _ t h
  · exact frozen_of_row w g 2 _ t h

theorem and255 (y : Int) : 0 ≤ bits .and .i64 y 255 ∧ bits .and .i64 y 255 ≤ 255 := by
  have e : (BitVec.ofInt 64 255).toNat = 255 := by decide
  have h : (BitVec.ofInt 64 y &&& BitVec.ofInt 64 255).toNat ≤ 255 := by
    rw [BitVec.toNat_and, e]
    exact Nat.and_le_right
  show 0 ≤ IntKind.i64.wrap ((BitVec.ofInt 64 y &&& BitVec.ofInt 64 255).toNat : Int) ∧ IntKind.i64.wrap ((BitVec.ofInt 64 y &&& BitVec.ofInt 64 255).toNat : Int) ≤ 255
  rw [IntWalk.i64_in _ (by omega)]
  omega

/-- A small number is returned, the reader stands, nothing else has turned. -/
def RetB (a : Option Addr) (len cap g : Nat) (w : World) (m : Int) (e : Ending) (w' : World) : Prop := ∃ x : Int, 0 ≤ x ∧ x ≤ m ∧ e = .returned (.int .i64 x) ∧ Cur a len cap w' g ∧ w.grownBy w' (some g)

theorem cur_set (w : World) (g j : Nat) (cs : Array Value) (t : TypeId) (u : Value) (h : w.heap[g]? = some (.cells cs t (0, 0))) : (w.setCell ⟨g, j, none⟩ u).heap[g]? = some (.cells (cs.setIfInBounds j u) t (0, 0)) := heap_setCell_same w g j cs t u h

theorem cur_set1 (w : World) (g : Nat) (x y z u : Value) (t : TypeId) (h : w.heap[g]? = some (.cells #[x, y, z] t (0, 0))) : (w.setCell ⟨g, 1, none⟩ u).heap[g]? = some (.cells #[x, u, z] t (0, 0)) := by
  rw [cur_set w g 1 _ _ u h]; rfl
theorem cur_set2 (w : World) (g : Nat) (x y z u : Value) (t : TypeId) (h : w.heap[g]? = some (.cells #[x, y, z] t (0, 0))) : (w.setCell ⟨g, 2, none⟩ u).heap[g]? = some (.cells #[x, y, u] t (0, 0)) := by
  rw [cur_set w g 2 _ _ u h]; rfl

theorem grown_set (w : World) (g j : Nat) (u : Value) : w.grownBy (w.setCell ⟨g, j, none⟩ u) (some g) := ⟨rfl, rfl, rfl, by simp, fun k hk hne => heap_setCell_other w ⟨g, j, none⟩ k u (fun e => hne (by simp [e]))⟩

theorem grown_trans {a b c : World} {r : Option Nat} (h : a.grownBy b r) (k : b.grownBy c r) : a.grownBy c r :=
  ⟨k.os.trans h.os, k.tape.trans h.tape, k.output.trans h.output, Nat.le_trans h.size k.size, fun i hi hne => (k.block i (Nat.lt_of_lt_of_le hi h.size) hne).trans (h.block i hi hne)⟩

theorem grown_drewN (w : World) (r : Option Nat) (n : Nat) : w.grownBy (w.drewN n) r := ⟨rfl, rfl, rfl, Nat.le_refl _, fun _ _ _ => rfl⟩

theorem code_apart {w : World} {b o j g : Nat} {x : Int} {y z : Int} {s : Option Addr} {n c : Nat} {t : TypeId} (hc : w.cell? ⟨b, o + j, none⟩ = some (.int .u8 x)) (hh : w.heap[g]? = some (.cells #[.slice s n c, .int .i64 y, .int .i64 z] t (0, 0))) : b ≠ g := by
  intro e
  subst e
  rw [cell_of_row w b (o + j) _ t (0, 0) hh] at hc
  match o + j, hc with
  | 0, hc => simp at hc
  | 1, hc => simp at hc
  | 2, hc => simp at hc
  | k + 3, hc => simp at hc

set_option maxHeartbeats 2000000 in
theorem byte_any (a : Option Addr) (len cap g : Nat) (w : World) (hcode : CodeAt w a len cap) (hc : Cur a len cap w g) :
    Calls Try.prog 72 #[.pointer (some ⟨g, 0, none⟩)] w (RetB a len cap g w 255) := by
  obtain ⟨i, h, hh, hil⟩ := hc
  have hlen := hcode.1
  obtain ⟨c0, c1, c2, f1, f2⟩ := cur_cell hh
  obtain ⟨h1, e1⟩ : ∃ h1, wrap64 (wrap64 (h * 6364136223846793005) + 1442695040888963407) = h1 := ⟨_, rfl⟩
  obtain ⟨x0, e2⟩ : ∃ x0, bits .and .i64 (bits .xor .i64 (h1 / 8589934592) (h1 / 35184372088832)) 255 = x0 := ⟨_, rfl⟩
  have hx0 := and255 (bits .xor .i64 (h1 / 8589934592) (h1 / 35184372088832))
  rw [e2] at hx0
  obtain ⟨hx1, hx2⟩ := hx0
  have s2 := cur_set2 w g _ _ _ (.int .i64 h1) _ hh
  have HH := hide hh
  clear hh
  by_cases hlt : i < len
  · obtain ⟨b, o, y, rfl, hy, hcy⟩ := hcode.2.2 i hlt
    have hbg := code_apart hcy HH.out
    obtain ⟨x3, e3⟩ : ∃ x3, bits .and .i64 (x0 + (y : Int)) 255 = x3 := ⟨_, rfl⟩
    have hx3 := and255 (x0 + (y : Int))
    rw [e3] at hx3
    obtain ⟨hx4, hx5⟩ := hx3
    have hlt2 : (i : Int) < (len : Int) := by omega
    have HS := hide s2
    clear hcode s2
    go_enter Try.func72, Try.ntmps72
    go_wp2
    go_quiet (fail)
    go_wp2
    go_quiet (fail)
    go_wp2
    have q1 : IntKind.i64.wrap (y : Int) = (y : Int) := IntWalk.i64_in _ (by omega)
    have q2 : IntKind.i64.wrap (x0 + (y : Int)) = x0 + (y : Int) := IntWalk.i64_in _ (by omega)
    go_quiet (fail)
    go_wp2
    go_ret
    have s3 := cur_set1 _ g _ _ _ (.int .i64 ((i + 1 : Nat) : Int)) _ HS.out
    exact ⟨x3, hx4, hx5, rfl, ⟨i + 1, h1, s3, by omega⟩, grown_trans (grown_set w g 2 (.int .i64 h1)) (grown_trans (grown_set _ g 1 (.int .i64 ((i + 1 : Nat) : Int))) ⟨rfl, rfl, rfl, Nat.le_refl _, fun _ _ _ => rfl⟩)⟩
  · have hd : decide (i < len) = false := by simp; omega
    have HS := hide s2
    clear hcode s2
    go_enter Try.func72, Try.ntmps72
    go_wp2
    go_quiet (fail)
    go_wp2
    go_quiet (fail)
    go_wp2
    go_ret
    exact ⟨x0, hx1, hx2, rfl, ⟨i, h1, HS.out, hil⟩, grown_trans (grown_set w g 2 (.int .i64 h1)) ⟨rfl, rfl, rfl, Nat.le_refl _, fun _ _ _ => rfl⟩⟩

/-- A reader in block g over a code that lies below block B. -/
structure Rd (B : Nat) (a : Option Addr) (len cap : Nat) (w : World) (g : Nat) : Prop where
  code : CodeAt w a len cap
  cur : Cur a len cap w g
  low : ∀ x, a = some x → 0 < len → x.block < B
  high : B ≤ g

theorem Rd.lt {B : Nat} {a : Option Addr} {len cap g : Nat} {w : World} (h : Rd B a len cap w g) : g < w.heap.size := by
  obtain ⟨i, x, hh, _⟩ := h.cur
  exact (Array.getElem?_eq_some_iff.1 hh).1

theorem Rd.step {B : Nat} {a : Option Addr} {len cap g : Nat} {w w' : World} (h : Rd B a len cap w g) (hb : Below B w w') (hg : w'.heap[g]? = w.heap[g]?) : Rd B a len cap w' g := by
  refine ⟨?_, ?_, h.low, h.high⟩
  · obtain ⟨h1, h2, h3⟩ := h.code
    refine ⟨h1, fun x hx h0 => Nat.lt_of_lt_of_le (h2 x hx h0) hb.size, fun j hj => ?_⟩
    obtain ⟨b, o, x, e, hx, hc⟩ := h3 j hj
    exact ⟨b, o, x, e, hx, by rw [hb.cell (p := ⟨b, o + j, none⟩) (show b < B from h.low ⟨b, o, none⟩ e (by omega))]; exact hc⟩
  · obtain ⟨i, x, hh, hi⟩ := h.cur
    exact ⟨i, x, hg.trans hh, hi⟩

theorem Rd.alloc {B : Nat} {a : Option Addr} {len cap g : Nat} {w : World} (h : Rd B a len cap w g) (o : Obj) : Rd B a len cap (w.alloc o) g :=
  h.step ((Below.refl B w).alloc (by have := h.lt; have := h.high; omega) o) (Below.heap_alloc _ _ _ h.lt)

/-- A small number is returned, the reader stands, nothing else has turned. -/
def RetR (B : Nat) (a : Option Addr) (len cap g : Nat) (w : World) (m : Int) (e : Ending) (w' : World) : Prop := ∃ x : Int, 0 ≤ x ∧ x ≤ m ∧ e = .returned (.int .i64 x) ∧ Rd B a len cap w' g ∧ w.grownBy w' (some g)

theorem grown_below {B g : Nat} {w w' : World} (h : w.grownBy w' (some g)) (hB : B ≤ g) (hs : B ≤ w.heap.size) : Below B w w' :=
  ⟨h.os, h.tape, h.output, h.size, fun k hk => h.block k (by omega) (fun e => by have := Option.some.inj e; omega)⟩

theorem byte_rd (B : Nat) (a : Option Addr) (len cap g : Nat) (w : World) (h : Rd B a len cap w g) : Calls Try.prog 72 #[.pointer (some ⟨g, 0, none⟩)] w (RetR B a len cap g w 255) :=
  (byte_any a len cap g w h.code h.cur).mono fun e w' ⟨x, h1, h2, h3, h4, h5⟩ => by
    have hlt := h.lt
    have hb : Below B w w' := grown_below h5 h.high (by have := h.high; omega)
    refine ⟨x, h1, h2, h3, ⟨?_, h4, h.low, h.high⟩, h5⟩
    obtain ⟨k1, k2, k3⟩ := h.code
    refine ⟨k1, fun x hx h0 => Nat.lt_of_lt_of_le (k2 x hx h0) hb.size, fun j hj => ?_⟩
    obtain ⟨b, o, x, e, hx, hc⟩ := k3 j hj
    exact ⟨b, o, x, e, hx, by rw [hb.cell (p := ⟨b, o + j, none⟩) (show b < B from h.low ⟨b, o, none⟩ e (by omega))]; exact hc⟩

set_option maxHeartbeats 2000000 in
theorem below_rd (B : Nat) (a : Option Addr) (len cap g : Nat) (w : World) (h : Rd B a len cap w g) (n : Int) (hn : 1 ≤ n) (hn2 : n ≤ 4294967296) : Calls Try.prog 44 #[.pointer (some ⟨g, 0, none⟩), .int .i64 n] w (RetR B a len cap g w (n - 1)) := by
  have H := hide h
  clear h
  by_cases h256 : n ≤ 256
  · go_enter Try.func44, Try.ntmps44
    go_wp2_with (go_at_call 72; refine (byte_rd B a len cap g _ H.out).mono ?_; rintro e wa ⟨x, hx0, hx1, rfl, hr, hg⟩)
    go_ret
    exact ⟨x % n, Int.emod_nonneg _ (by omega), by have := Int.emod_lt_of_pos x (show 0 < n by omega); omega, rfl, hr, hg⟩
  · go_enter Try.func44, Try.ntmps44
    go_wp2_with fail
    refine (byte_rd B a len cap g _ H.out).mono ?_
    rintro e wa ⟨x, hx0, hx1, rfl, hr, hg⟩
    have HR := hide hr
    clear hr
    go_wp2_with fail
    refine (byte_rd B a len cap g _ HR.out).mono ?_
    rintro e wb ⟨y, hy0, hy1, rfl, hr2, hg2⟩
    have HR2 := hide hr2
    clear hr2
    go_wp2_with fail
    refine (byte_rd B a len cap g _ HR2.out).mono ?_
    rintro e wc ⟨z, hz0, hz1, rfl, hr3, hg3⟩
    have HR3 := hide hr3
    clear hr3
    go_wp2_with fail
    refine (byte_rd B a len cap g _ HR3.out).mono ?_
    rintro e wd ⟨t, ht0, ht1, rfl, hr4, hg4⟩
    have HR4 := hide hr4
    clear hr4
    go_wp2_with fail
    go_ret
    exact ⟨(x * 16777216 + y * 65536 + z * 256 + t) % n, Int.emod_nonneg _ (by omega), by have := Int.emod_lt_of_pos (x * 16777216 + y * 65536 + z * 256 + t) (show 0 < n by omega); omega, rfl, HR4.out, grown_trans hg (grown_trans hg2 (grown_trans hg3 hg4))⟩

/-- The argument code of a drawn law. -/
def CodeV (w : World) (v : Value) : Prop := ∃ a len cap, v = .slice a len cap ∧ CodeAt w a len cap

theorem open_code {H : Type} {enc : TypeId × Value → H} {W : World} {base : Nat} {v : Value} {d : DataW H} {p : List MemPlace} (hv : Value.okWide Try.prog W .any base 22 v) (h : DataW.Trod enc Try.prog W 0 (fun _ => true) true 22 v d p) : CodeV W v := by
  obtain ⟨a, len, cap, rfl⟩ := WideShapes.okWide_slice Try.underlying22 hv
  obtain ⟨fuel, hf⟩ := h
  rcases open_ints Try.underlying22 Try.underlying5 (by kernel_rfl) hf with ⟨hcs, _⟩ | ⟨x, l, c, zs, hcs, _, hl, hm, hz, _, hcell, hwz⟩
  · simp [Value.cells] at hcs
    obtain ⟨rfl, rfl, rfl⟩ := hcs
    exact ⟨_, _, _, rfl, by omega, (fun x hx => by cases hx), fun j hj => by omega⟩
  · simp [Value.cells] at hcs
    obtain ⟨rfl, rfl, rfl⟩ := hcs
    have hz' : zs.length = cap := by simpa using hz
    have hcl : ∀ j, j < len → W.cell? (x.add j) = some (.int .u8 (zs.getD j 0)) := fun j hj => hcell j (by omega)
    refine ⟨_, _, _, rfl, by unfold maxLen at hm; omega, ?_, ?_⟩
    · intro y hy h0
      obtain rfl := Option.some.inj hy
      have h1 := World.block_lt_of_cell? _ _ (hcl 0 h0)
      simpa [Addr.add] using h1
    · intro j hj
      obtain ⟨b, off, spot⟩ := x
      have hc := hcl j hj
      have hspot : spot = none := by simpa [Addr.add] using World.cell?_spot (hcl 0 (by omega))
      subst hspot
      have hg : zs.getD j 0 ∈ zs := by
        rw [List.getD_eq_getElem?_getD, List.getElem?_eq_getElem (by omega)]
        exact List.getElem_mem _
      have hb := bounds_u8 (hwz _ hg)
      refine ⟨b, off, (zs.getD j 0).toNat, rfl, by omega, ?_⟩
      rw [show (((zs.getD j 0).toNat : Nat) : Int) = zs.getD j 0 by omega]
      simpa [Addr.add_lit] using hc

end Go.Proofs.Ytfldnjkojdnjcaa

/- The drawn numbers and texts: they return, with values in range, and write into new memory alone. -/
namespace Go.Proofs.Ytfldnjkojdnjcaa
open Go.RowKit
set_option linter.unusedSimpArgs false
set_option linter.unusedVariables false
set_option maxRecDepth 100000

/-- A new reader. -/
def RetP (a : Option Addr) (len cap : Nat) (w : World) (e : Ending) (w' : World) : Prop := ∃ g, e = .returned (.pointer (some ⟨g, 0, none⟩)) ∧ Rd w.heap.size a len cap w' g ∧ Below w.heap.size w w'

theorem rd_new (a : Option Addr) (len cap : Nat) (w : World) (h : Int) (hcode : CodeAt w a len cap) : Rd w.heap.size a len cap (w.alloc (.cells #[.slice a len cap, .int .i64 0, .int .i64 h] 94)) w.heap.size :=
  ⟨hcode.below ((Below.refl w.heap.size w).alloc (Nat.le_refl _) _) (Nat.le_refl _), ⟨0, h, heap_alloc_new w _, by omega⟩, hcode.2.1, Nat.le_refl _⟩

set_option maxHeartbeats 2000000 in
theorem new_any (a : Option Addr) (len cap : Nat) (w : World) (hcode : CodeAt w a len cap) (hlen : len ≤ 1048576) :
    Calls Try.prog 41 #[.slice a len cap] w (RetP a len cap w) := by
  have H := hide hcode
  clear hcode
  go_enter Try.func41, Try.ntmps41
  go_wp2
  go_loopw [3, 4] (fun hh i wr => ∃ (k : Nat) (h : Int), k ≤ len ∧ i = .int .i64 k ∧ hh = .int .i64 h ∧ k ≤ 4000 ∧ w = wr) (fun _ i _ => 4000 - (intOf i).toNat)
  case atStart => exact ⟨0, _, by omega, rfl, rfl, by omega, rfl⟩
  case round =>
    obtain ⟨k, h, hk, rfl, rfl, hk2, rfl⟩ := hrel
    by_cases hl : k < len
    · by_cases h4 : k < 4000
      · obtain ⟨b, o, x, rfl, hx, hc⟩ := H.out.2.2 k hl
        go_wp2
        go_roundw
        case rel => exact ⟨k + 1, _, by omega, by go_num, rfl, by omega, trivial⟩
        case measure => simp [intOf]; omega
      · go_wp2
        go_ret
        exact ⟨_, rfl, rd_new a len cap w h H.out, (Below.refl _ _).alloc (Nat.le_refl _) _⟩
    · go_wp2
      go_ret
      exact ⟨_, rfl, rd_new a len cap w h H.out, (Below.refl _ _).alloc (Nat.le_refl _) _⟩

/-- A number is returned, the reader stands, nothing below B has turned. -/
def RetN (B : Nat) (a : Option Addr) (len cap g : Nat) (w : World) (e : Ending) (w' : World) : Prop := ∃ x : Int, -9223372036854775808 ≤ x ∧ x ≤ 9223372036854775807 ∧ e = .returned (.int .i64 x) ∧ Rd B a len cap w' g ∧ Below B w w'

set_option maxHeartbeats 2000000 in
theorem pick_rd (B : Nat) (a : Option Addr) (len cap g : Nat) (w : World) (h : Rd B a len cap w g) (b n c : Nat) (hn : 1 ≤ n) (hn2 : n ≤ 4294967296) (hbg : b ≠ g) (hb : b < w.heap.size)
    (hc : ∀ j, j < n → ∃ v : Int, w.cell? ⟨b, j, none⟩ = some (.int .i64 v) ∧ -9223372036854775808 ≤ v ∧ v ≤ 9223372036854775807) :
    Calls Try.prog 50 #[.pointer (some ⟨g, 0, none⟩), .slice (some ⟨b, 0, none⟩) n c] w (RetN B a len cap g w) := by
  have H := hide h
  have HC := hide hc
  have hgs := hide h.high
  have hlt := h.lt
  clear h hc
  go_enter Try.func50, Try.ntmps50
  go_wp2_with fail
  refine (below_rd B a len cap g _ H.out (n : Int) (by omega) (by omega)).mono ?_
  rintro e wa ⟨x, hx0, hx1, rfl, hr, hg⟩
  obtain ⟨j, rfl⟩ := Int.eq_ofNat_of_zero_le hx0
  obtain ⟨v, hv, v1, v2⟩ := HC.out j (by omega)
  have hv2 : wa.cell? ⟨b, j, none⟩ = some (.int .i64 v) := by rw [World.cell?_of_block (w := w) (hg.block b hb (fun e => hbg (Option.some.inj e)))]; exact hv
  have hj : (j : Int) < (n : Int) := by omega
  have HR := hide hr
  have HG := hide hg
  clear hr hg hv hx1
  go_wp2_with fail
  go_ret
  exact ⟨v, v1, v2, rfl, HR.out, grown_below HG.out hgs.out (by have := hgs.out; omega)⟩

theorem lits_at (w : World) (L : List Int) (t : TypeId) (hL : L.all (fun v => decide (-9223372036854775808 ≤ v) && decide (v ≤ 9223372036854775807)) = true) :
    ∀ j, j < L.length → ∃ v : Int, (w.alloc (.cells (L.map (Value.int .i64)).toArray t)).cell? ⟨w.heap.size, j, none⟩ = some (.int .i64 v) ∧ -9223372036854775808 ≤ v ∧ v ≤ 9223372036854775807 := by
  intro j hj
  refine ⟨L[j], ?_, ?_⟩
  · rw [World.cell?_alloc_mark]
    simp [hj]
  · have := List.all_eq_true.1 hL L[j] (List.getElem_mem hj)
    simpa using this

def numLits : List Int := [-1, 0, 127, 128, 255, 256, 16383, 16384, 65535, 65536, 562949953421311, 562949953421312, 999999999, 1000000000, -999999999, 9223372036854775807, -9223372036854775808]

/-- A text of at most m bytes is returned. -/
def RetT (B : Nat) (a : Option Addr) (len cap g : Nat) (w : World) (m : Nat) (e : Ending) (w' : World) : Prop := ∃ l : List UInt8, l.length ≤ m ∧ e = .returned (.string ⟨l.toArray⟩) ∧ Rd B a len cap w' g ∧ Below B w w'

theorem own_apart {w : World} {base : Nat} {e t : TypeId} {v : Value} {l : List UInt8} {g : Nat} {cs : Array Value} (h : Bs w base e v l) (hg : w.heap[g]? = some (.cells cs t (0, 0))) (he : e ≠ t) : v.ownBlock ≠ some g := by
  intro hv
  rcases h.2 with ⟨rfl, _⟩ | ⟨k, cap, cur, rfl, _, hk, _⟩
  · simp [Value.ownBlock] at hv
  · simp [Value.ownBlock] at hv
    subst hv
    rw [hg] at hk
    simp at hk
    exact he hk.2.symm

theorem Bs.grown {w w' : World} {base : Nat} {e : TypeId} {v : Value} {l : List UInt8} {g : Nat} (h : Bs w base e v l) (hg : w.grownBy w' (some g)) (hne : v.ownBlock ≠ some g) : Bs w' base e v l :=
  World.ownsRow.kept h hg (.inr hne)

/-- out = append(out, byte(x)), with what is said of the blocks that were there. -/
theorem bs_append2 {P : Program} (W : World) {ops : Array Oper} {rest : List Oper} {o : Oper} {a : Act} {Q : Exit → Act → World → Prop} (hgd : o.guard = none) (s x : Operand) (t : TypeId)
    (ho : o.op = .call { callee := .builtin .append, args := #[s, x], argTypes := #[t, t] })
    (base : Nat) (e : TypeId) (ht : P.underlying t = some (.slice e)) (hinf : (P.info? e).map (fun i => (i.zero, i.size, i.bytes)) = some (some (.int .u8 0), 1, 1))
    (v : Value) (l : List UInt8) (hown : Bs W base e v l) (hs : a.eval s = v) (b : Int) (c : Nat) (h0 : 0 ≤ b) (h1 : b ≤ 255)
    (hx : a.eval x = .slice (some ⟨W.heap.size, 0, none⟩) 1 c) (hlen : l.length < 140737488355328) (hbase : base ≤ W.heap.size)
    (h : ∀ v' w', Bs w' base e v' (l ++ [UInt8.ofNat b.toNat]) → Below base W w' → (∀ k, k < W.heap.size → some k ≠ v.ownBlock → w'.heap[k]? = W.heap[k]?) → wpList P ops Q rest (a.put o.dst v') w') :
    wpList P ops Q (o :: rest) a (W.alloc (.cells #[.int .u8 b] e)) := by
  obtain ⟨i0, hi, hz0, hz1, hz2⟩ := info_parts hinf
  refine wpList_append_own _ hgd s x t ho base e i0 (.int .u8 0) 1 1 ht hi hz0 hz1 hz2 rfl (by decide) v l.length (byteVs l) hs (hown.alloc _) ⟨W.heap.size, 0, none⟩ 1 c [.int .u8 b] hx rfl ?_ ?_ ?_ ?_ ?_ ?_
  · intro j u hj
    match j, hj with
    | 0, hj => simp at hj; subst hj; simp [Addr.add]
  · intro u hu; simp at hu; subst hu; rfl
  · unfold maxLen; omega
  · omega
  · simp; omega
  · intro v' w' hown' hgrow _
    refine h v' w' ?_ ?_ ?_
    · unfold Bs
      rw [byteVs_append, byteVs_one h0 h1, List.length_append]
      exact hown'
    · exact (((Below.refl base W).alloc hbase _).grown hgrow (by simp; omega) (fun k hk => (World.ownsRow.lt hown k hk).1))
    · intro k hk hne
      rw [hgrow.block k (by simp; omega) hne, Below.heap_alloc _ _ _ hk]

/-- A drawn number; a drawn text; two drawn numbers. -/
def RetDn (w : World) (e : Ending) (w' : World) : Prop := ∃ x : Int, -9223372036854775808 ≤ x ∧ x ≤ 9223372036854775807 ∧ e = .returned (.int .i64 x) ∧ Below w.heap.size w w'
def RetDt (w : World) (e : Ending) (w' : World) : Prop := ∃ l : List UInt8, l.length ≤ 40 ∧ e = .returned (.string ⟨l.toArray⟩) ∧ Below w.heap.size w w'
def RetDnn (w : World) (e : Ending) (w' : World) : Prop := ∃ x y : Int, -9223372036854775808 ≤ x ∧ x ≤ 9223372036854775807 ∧ -1 ≤ y ∧ y ≤ 8 ∧ e = .returned (.tuple #[.int .i64 x, .int .i64 y]) ∧ Below w.heap.size w w'

end Go.Proofs.Ytfldnjkojdnjcaa

/- Drawn numbers, lists and ranges, by what may turn: the reader's block alone. -/
namespace Go.Proofs.Ytfldnjkojdnjcaa
open Go.RowKit Go.ChangeShapes
set_option linter.unusedSimpArgs false
set_option linter.unusedVariables false
set_option maxRecDepth 100000

theorem grown_only {w w' : World} {g : Nat} (h : w.grownBy w' (some g)) : Only [g] w w' :=
  ⟨⟨h.os, h.tape, h.output, h.size, fun k hk => absurd hk (Nat.not_lt_zero k)⟩, fun k hk hn => h.block k hk (fun e => hn (by simp [Option.some.inj e]))⟩

theorem Only.then' {F : List Nat} {w a c : World} (h : Only F w a) (hb : Below w.heap.size a c) : Only F w c :=
  ⟨h.below.trans (hb.mono (Nat.zero_le _)), fun b hlt hn => (hb.block b hlt).trans (h.block b hlt hn)⟩

theorem Only.low {F : List Nat} {w w' : World} (h : Only F w w') {B : Nat} (hF : ∀ b ∈ F, B ≤ b) (hB : B ≤ w.heap.size) : Below B w w' := h.toBelow hF hB

theorem Rd.only {B : Nat} {a : Option Addr} {len cap g : Nat} {w w' : World} {F : List Nat} (h : Rd B a len cap w g) (ho : Only F w w') (hF : ∀ b ∈ F, g < b) : Rd B a len cap w' g := by
  have hlt := h.lt
  have hh := h.high
  exact h.step (ho.toBelow (fun b hb => by have := hF b hb; omega) (by omega)) (ho.block g hlt (fun hb => by have := hF g hb; omega))

theorem Is.only {w w' : World} {base : Nat} {e : TypeId} {v : Value} {l : List Int} {F : List Nat} (h : Is w base e v l) (ho : Only F w w') (hF : ∀ b ∈ F, b < base) : Is w' base e v l := by
  refine ⟨h.1, ?_⟩
  rcases h.2 with h2 | ⟨g, cap, cur, hv, hb, hg, r⟩
  · exact .inl h2
  · exact .inr ⟨g, cap, cur, hv, hb, by rw [ho.block g (Array.getElem?_eq_some_iff.1 hg).1 (fun hf => by have := hF g hf; omega)]; exact hg, r⟩

/-- A drawn number with P is returned, the reader stands, of what was there only its block may have turned. -/
def RetD (B : Nat) (a : Option Addr) (len cap g : Nat) (w : World) (P : Int → Prop) (e : Ending) (w' : World) : Prop := ∃ x : Int, P x ∧ e = .returned (.int .i64 x) ∧ Rd B a len cap w' g ∧ Only [g] w w'

theorem below_d (B : Nat) (a : Option Addr) (len cap g : Nat) (w : World) (h : Rd B a len cap w g) (n : Int) (hn : 1 ≤ n) (hn2 : n ≤ 4294967296) :
    Calls Try.prog 44 #[.pointer (some ⟨g, 0, none⟩), .int .i64 n] w (RetD B a len cap g w (fun x => 0 ≤ x ∧ x < n)) :=
  (below_rd B a len cap g w h n hn hn2).mono fun e w' ⟨x, h1, h2, h3, h4, h5⟩ => ⟨x, ⟨h1, by omega⟩, h3, h4, grown_only h5⟩

set_option maxHeartbeats 2000000 in
theorem pickI_d (B : Nat) (a : Option Addr) (len cap g : Nat) (w : World) (h : Rd B a len cap w g) (L : List Int) (b n c : Nat) (hn : n = L.length) (hn1 : 1 ≤ n) (hn2 : n ≤ 1000) (hbg : b ≠ g) (hb : b < w.heap.size)
    (hc : ∀ j (hj : j < L.length), w.cell? ⟨b, j, none⟩ = some (.int .i64 L[j])) :
    Calls Try.prog 50 #[.pointer (some ⟨g, 0, none⟩), .slice (some ⟨b, 0, none⟩) n c] w (RetD B a len cap g w (· ∈ L)) := by
  have H := hide h
  have HC := hide hc
  have HN := hide hn
  clear h hc hn
  go_enter Try.func50, Try.ntmps50
  go_wp2_with fail
  refine (below_d B a len cap g _ H.out (n : Int) (by omega) (by omega)).mono ?_
  rintro e wa ⟨x, ⟨hx0, hx1⟩, rfl, hr, hg⟩
  obtain ⟨j, rfl⟩ := Int.eq_ofNat_of_zero_le hx0
  have hjL : j < L.length := by have := HN.out; omega
  obtain ⟨v, hvv⟩ : ∃ v, v = L[j] := ⟨_, rfl⟩
  have hv := HC.out j hjL
  rw [← hvv] at hv
  have hv2 : wa.cell? ⟨b, j, none⟩ = some (.int .i64 v) := by rw [World.cell?_of_block (w := w) (hg.block b hb (by simp; exact hbg))]; exact hv
  have hj : (j : Int) < (n : Int) := by omega
  have HR := hide hr
  have HG := hide hg
  have HV := hide (show v ∈ L by rw [hvv]; exact List.getElem_mem _)
  clear hr hg hv hx1 hvv
  go_wp2_with fail
  go_ret
  exact ⟨v, HV.out, rfl, HR.out, HG.out⟩

/-- A drawn text of L is returned. -/
def RetDS (B : Nat) (a : Option Addr) (len cap g : Nat) (w : World) (L : List ByteArray) (e : Ending) (w' : World) : Prop := ∃ x ∈ L, e = .returned (.string x) ∧ Rd B a len cap w' g ∧ Only [g] w w'

/-- The cells of a list of literals, just made. -/
theorem litsI (w : World) (L : List Int) (t : TypeId) : ∀ j (hj : j < L.length), (w.alloc (.cells (L.map (Value.int .i64)).toArray t)).cell? ⟨w.heap.size, j, none⟩ = some (.int .i64 L[j]) := by
  intro j hj
  rw [World.cell?_alloc_mark]
  simp [hj]
theorem litsS (w : World) (L : List ByteArray) (t : TypeId) : ∀ j (hj : j < L.length), (w.alloc (.cells (L.map Value.string).toArray t)).cell? ⟨w.heap.size, j, none⟩ = some (.string L[j]) := by
  intro j hj
  rw [World.cell?_alloc_mark]
  simp [hj]

theorem wide_pos {x : Int} (h : x ∈ [3, 10, 30, 1000]) : x = 3 ∨ x = 10 ∨ x = 30 ∨ x = 1000 := by simpa using h

/-- Drawn small numbers in a row of the call's own. -/
def RetVs (B : Nat) (a : Option Addr) (len cap g : Nat) (w : World) (most : Nat) (e : Ending) (w' : World) : Prop :=
  ∃ gl capl l, e = .returned (.slice (some ⟨gl, 0, none⟩) l.length capl) ∧ Is w' w.heap.size 3 (.slice (some ⟨gl, 0, none⟩) l.length capl) l ∧ l.length ≤ most ∧ (∀ x ∈ l, -1000 ≤ x ∧ x ≤ 1000) ∧ Rd B a len cap w' g ∧ Only [g] w w'

set_option maxHeartbeats 4000000 in
theorem vals_d (B : Nat) (a : Option Addr) (len cap g : Nat) (w : World) (h : Rd B a len cap w g) (most : Nat) (hm : most ≤ 1000) :
    Calls Try.prog 40 #[.pointer (some ⟨g, 0, none⟩), .int .i64 most] w (RetVs B a len cap g w most) := by
  have hlt := h.lt
  have h1 := h.alloc (.cells #[] 3)
  have HO := hide (Is.made w w.heap.size 3 (Nat.le_refl _))
  have HW := hide (Only.of_below (F := [g]) ((Below.refl w.heap.size w).alloc (Nat.le_refl _) (.cells #[] 3)))
  have H1 := hide (h1.alloc (.cells #[.int .i64 3, .int .i64 10, .int .i64 30, .int .i64 1000] 3))
  have HO := hide (HO.out.below ((Below.refl _ _).alloc (Nat.le_refl _) (.cells #[.int .i64 3, .int .i64 10, .int .i64 30, .int .i64 1000] 3)))
  have HW := hide (HW.out.trans (Only.of_below ((Below.refl _ _).alloc (Nat.le_refl _) (.cells #[.int .i64 3, .int .i64 10, .int .i64 30, .int .i64 1000] 3))))
  have hlits := hide (litsI (w.alloc (.cells #[] 3)) [3, 10, 30, 1000] 3)
  have hz : (w.alloc (.cells #[] 3)).heap.size = w.heap.size + 1 := by simp
  rw [hz] at hlits
  clear h h1 hz
  go_enter Try.func40, Try.ntmps40
  go_wp2_with fail
  refine (pickI_d B a len cap g _ H1.out [3, 10, 30, 1000] (w.heap.size + 1) 4 4 rfl (by omega) (by omega) (by omega) (by simp) hlits.out).mono ?_
  rintro e wa ⟨wd, hwd, rfl, hr, ho⟩
  have hwd2 := wide_pos hwd
  have hw1 : 1 ≤ wd ∧ wd ≤ 1000 := by omega
  have HR := hide hr
  have HO := hide (HO.out.only ho (by simp; exact hlt))
  have HW := hide (HW.out.trans ho)
  clear hr ho hwd hwd2
  obtain ⟨hw1, hw2⟩ := hw1
  go_wp2_with fail
  refine (below_d B a len cap g _ HR.out ((most : Int) + 1) (by omega) (by omega)).mono ?_
  rintro e wb ⟨n, ⟨n0, n1⟩, rfl, hr, ho⟩
  have HR := hide hr
  have HO := hide (HO.out.only ho (by simp; exact hlt))
  have HW := hide (HW.out.trans ho)
  clear hr ho
  obtain ⟨N, rfl⟩ := Int.eq_ofNat_of_zero_le n0
  have hN : N ≤ most := by omega
  clear n0 n1
  go_wp2_with fail
  go_loopw [5, 7, 8] (fun v nn _ wr => ∃ (k : Nat) (l : List Int) (gl capl : Nat), v = .slice (some ⟨gl, 0, none⟩) l.length capl ∧ k ≤ N ∧ nn = .int .i64 k ∧ l.length + k = N ∧ Hid (∀ x ∈ l, -1000 ≤ x ∧ x ≤ 1000) ∧ Hid (Is wr w.heap.size 3 v l) ∧ Hid (Rd B a len cap wr g) ∧ Hid (Only [g] w wr)) (fun _ nn _ _ => (intOf nn).toNat)
  case atStart => exact ⟨N, [], _, _, rfl, by omega, rfl, by simp, by simp [Hid], HO.out, HR.out, HW.out⟩
  case round =>
    clear HO HR HW H1 hlits
    obtain ⟨k, l, gl, capl, rfl, hk, rfl, hlk, hl, O, R, W⟩ := hrel
    by_cases hk0 : k = 0
    · subst hk0
      have HLK := hide hlk
      clear hlk
      go_wp2_with fail
      go_ret
      exact ⟨_, _, l, rfl, O.out, by have := HLK.out; omega, hl.out, R.out, W.out⟩
    · have HLK := hide hlk
      have hll : l.length ≤ 1000 := by omega
      clear hlk
      go_wp2_with fail
      refine (below_d B a len cap g _ R.out wd (by omega) (by omega)).mono ?_
      rintro e wc ⟨x, ⟨x0, x1⟩, rfl, hr, ho⟩
      have R := hide hr
      have O := hide (O.out.only ho (by simp; exact hlt))
      have W := hide (W.out.trans ho)
      have hsz := hide W.out.below.size
      clear hr ho
      go_wp2_with (first | (at_builtin; refine is_append1 wc rfl _ _ 24 rfl w.heap.size 3 Try.underlying24 infoI _ l O.out rfl _ _ rfl (by omega) hsz.out ?_; intro v2 w2 hown2 hb2) | fail)
      have R := hide (R.out.step (hb2.mono (by have := R.out.high; omega)) (hb2.block g hlt))
      have W := hide (W.out.then' hb2)
      obtain ⟨g2, c2, rfl, -, -⟩ := World.ownsRow.form hown2 (by simp)
      have O := hide hown2
      clear hown2 hb2
      go_roundw
      case rel => exact ⟨k - 1, l ++ [x - wd / 3], _, _, rfl, by omega, by go_num, by have := HLK.out; simp; omega, by
        intro y hy
        rcases List.mem_append.1 hy with hy | hy
        · exact hl.out y hy
        · simp at hy; subst hy; omega, O.out, R.out, W.out⟩
      case measure => simp [intOf]; omega

end Go.Proofs.Ytfldnjkojdnjcaa

/- Blocks of the call's own whose contents are known, while a reader's block (G) may turn; any program. -/
namespace Go.Proofs.Ytfldnjkojdnjcaa
open Go.RowKit
set_option linter.unusedSimpArgs false
set_option linter.unusedVariables false

/-- Since the call began (world w) nothing old has turned; each block of L, made since, holds what L says. -/
structure Kd (G : List Nat) (w W : World) (L : List (Nat × Array Value × TypeId)) : Prop where
  only : Only G w W
  hold : ∀ e ∈ L, W.heap[e.1]? = some (.cells e.2.1 e.2.2 (0, 0))
  high : ∀ e ∈ L, w.heap.size ≤ e.1
  nodup : (L.map (·.1)).Nodup

theorem Kd.start (G : List Nat) (w : World) : Kd G w w [] := ⟨Only.refl _ _, fun e h => by simp at h, fun e h => by simp at h, by simp⟩

theorem Kd.alloc {G : List Nat} {w W : World} {L : List (Nat × Array Value × TypeId)} (h : Kd G w W L) (c : Array Value) (t : TypeId) : Kd G w (W.alloc (.cells c t)) (L ++ [(W.heap.size, c, t)]) := by
  have lt : ∀ e ∈ L, e.1 < W.heap.size := fun e he => (Array.getElem?_eq_some_iff.1 (h.hold e he)).1
  refine ⟨h.only.trans (Only.of_below ((Below.refl _ _).alloc (Nat.le_refl _) _)), fun e he => ?_, fun e he => ?_, ?_⟩
  · rcases List.mem_append.1 he with he | he
    · rw [Below.heap_alloc _ _ _ (lt e he)]; exact h.hold e he
    · obtain rfl : e = (W.heap.size, c, t) := by simpa using he
      exact heap_alloc_new W _
  · rcases List.mem_append.1 he with he | he
    · exact h.high e he
    · obtain rfl : e = (W.heap.size, c, t) := by simpa using he
      exact h.only.below.size
  · rw [List.map_append, List.nodup_append]
    refine ⟨h.nodup, by simp, fun a ha b hb => ?_⟩
    obtain ⟨e, he, rfl⟩ := List.mem_map.1 ha
    obtain rfl : b = W.heap.size := by simpa using hb
    exact Nat.ne_of_lt (lt e he)

theorem Kd.up {G : List Nat} {w W W' : World} {L : List (Nat × Array Value × TypeId)} (h : Kd G w W L) (hb : Below W.heap.size W W') : Kd G w W' L :=
  ⟨h.only.trans (Only.of_below hb), fun e he => by rw [hb.block _ (Array.getElem?_eq_some_iff.1 (h.hold e he)).1]; exact h.hold e he, h.high, h.nodup⟩

/-- A callee's call right behind the making of a block. -/
theorem Kd.upA {G : List Nat} {w W W' : World} {L : List (Nat × Array Value × TypeId)} {c : Array Value} {t : TypeId} (h : Kd G w W L) (hb : Below (W.alloc (.cells c t)).heap.size (W.alloc (.cells c t)) W') : Kd G w W' (L ++ [(W.heap.size, c, t)]) := (h.alloc c t).up hb

theorem Kd.drew {G : List Nat} {w W : World} {L : List (Nat × Array Value × TypeId)} (h : Kd G w W L) : Kd G w W.drew L := ⟨h.only.drew, h.hold, h.high, h.nodup⟩
theorem Kd.drewN {G : List Nat} {w W : World} {L : List (Nat × Array Value × TypeId)} (h : Kd G w W L) (n : Nat) : Kd G w (W.drewN n) L := ⟨h.only.trans (Only.of_below (below_drewN (Below.refl _ _) n)), h.hold, h.high, h.nodup⟩

/-- The same, where the making came right behind a draw. -/
theorem Kd.upD {G : List Nat} {w W W' : World} {L : List (Nat × Array Value × TypeId)} {c : Array Value} {t : TypeId} (h : Kd G w W L) (hb : Below (W.alloc (.cells c t)).drew.heap.size (W.alloc (.cells c t)).drew W') : Kd G w W' (L ++ [(W.heap.size, c, t)]) := (h.alloc c t).drew.up hb

theorem Kd.mem {G : List Nat} {w W : World} {L : List (Nat × Array Value × TypeId)} (h : Kd G w W L) (i : Nat) {g : Nat} {c : Array Value} {t : TypeId} (ho : L[i]? = some (g, c, t)) : W.heap[g]? = some (.cells c t (0, 0)) := h.hold _ (List.mem_of_getElem? ho)

theorem Kd.cell {G : List Nat} {w W : World} {L : List (Nat × Array Value × TypeId)} (h : Kd G w W L) (i j : Nat) {g : Nat} {c : Array Value} {t : TypeId} {x : Value} (ho : L[i]? = some (g, c, t)) (hx : c[j]? = some x) : W.cell? ⟨g, j, none⟩ = some x := by
  rw [cell_of_row W g j c t (0, 0) (h.mem i ho)]; exact hx

theorem Kd.free {G : List Nat} {w W : World} {L : List (Nat × Array Value × TypeId)} (h : Kd G w W L) (i j : Nat) {g : Nat} {c : Array Value} {t : TypeId} (ho : L[i]? = some (g, c, t)) : W.frozen? ⟨g, j, none⟩ = false := frozen_of_row W g j c t (h.mem i ho)

theorem Kd.lt {G : List Nat} {w W : World} {L : List (Nat × Array Value × TypeId)} (h : Kd G w W L) (i : Nat) {g : Nat} {c : Array Value} {t : TypeId} (ho : L[i]? = some (g, c, t)) : g < W.heap.size := (Array.getElem?_eq_some_iff.1 (h.mem i ho)).1

theorem Kd.low {G : List Nat} {w W : World} {L : List (Nat × Array Value × TypeId)} (h : Kd G w W L) (i : Nat) {g : Nat} {c : Array Value} {t : TypeId} (ho : L[i]? = some (g, c, t)) : w.heap.size ≤ g := h.high _ (List.mem_of_getElem? ho)

/-- A store into one of them. -/
theorem Kd.set {G : List Nat} {w W : World} {L : List (Nat × Array Value × TypeId)} (h : Kd G w W L) (i j : Nat) {g : Nat} {c : Array Value} {t : TypeId} (ho : L[i]? = some (g, c, t)) (u : Value) : Kd G w (W.setCell ⟨g, j, none⟩ u) (L.set i (g, c.setIfInBounds j u, t)) := by
  have hi : i < L.length := (List.getElem?_eq_some_iff.1 ho).1
  have hg := (List.getElem?_eq_some_iff.1 ho).2
  have hmap : (L.set i (g, c.setIfInBounds j u, t)).map (·.1) = L.map (·.1) := by
    apply List.ext_getElem
    · simp
    · intro k h1 h2
      by_cases hk : k = i
      · subst hk; simp [hg]
      · simp [List.getElem_set, Ne.symm hk]
  have other : ∀ k (hk : k < L.length), k ≠ i → L[k].1 ≠ g := by
    intro k hk hki e
    have h2 := List.pairwise_iff_getElem.1 h.nodup
    have hL : (L.map (·.1)).length = L.length := List.length_map _
    rcases Nat.lt_or_gt_of_ne hki with hlt | hlt
    · have := h2 k i (by omega) (by omega) hlt
      simp [e, hg] at this
    · have := h2 i k (by omega) (by omega) hlt
      simp [e, hg] at this
  refine ⟨h.only.then' ((Below.refl _ _).setCell (h.low i ho) u), fun e he => ?_, fun e he => ?_, by rw [hmap]; exact h.nodup⟩
  · obtain ⟨k, hk, rfl⟩ := List.getElem_of_mem he
    rw [List.length_set] at hk
    by_cases hki : k = i
    · subst hki
      simp only [List.getElem_set_self]
      exact heap_setCell_same W g j c t u (h.mem k ho)
    · rw [List.getElem_set_ne (Ne.symm hki)]
      rw [heap_setCell_other W ⟨g, j, none⟩ _ u (other k hk hki)]
      exact h.hold _ (List.getElem_mem hk)
  · obtain ⟨k, hk, rfl⟩ := List.getElem_of_mem he
    rw [List.length_set] at hk
    by_cases hki : k = i
    · subst hki
      simp only [List.getElem_set_self]
      exact h.low k ho
    · rw [List.getElem_set_ne (Ne.symm hki)]
      exact h.high _ (List.getElem_mem hk)

/-- All that is known of some of them is forgotten. -/
theorem Kd.sub {G : List Nat} {w W : World} {L M : List (Nat × Array Value × TypeId)} (h : Kd G w W L) (hs : M.Sublist L) : Kd G w W M :=
  ⟨h.only, fun e he => h.hold e (hs.subset he), fun e he => h.high e (hs.subset he), h.nodup.sublist (hs.map _)⟩


/-- A draw: the reader's block turns. -/
theorem Kd.drawn {G : List Nat} {w W W' : World} {L : List (Nat × Array Value × TypeId)} (h : Kd G w W L) (ho : Only G W W') (hG : ∀ b ∈ G, b < w.heap.size) : Kd G w W' L :=
  ⟨h.only.trans ho, fun e he => by rw [ho.block _ (Array.getElem?_eq_some_iff.1 (h.hold e he)).1 (fun hb => by have := hG _ hb; have := h.high e he; omega)]; exact h.hold e he, h.high, h.nodup⟩

/-- Blocks above them turn. -/
theorem Kd.far {G : List Nat} {w W W' : World} {L : List (Nat × Array Value × TypeId)} {B : Nat} (h : Kd G w W L) (hb : Below B W W') (hB : w.heap.size ≤ B) (hL : ∀ e ∈ L, e.1 < B) : Kd G w W' L :=
  ⟨h.only.then' (hb.mono hB), fun e he => by rw [hb.block _ (hL e he)]; exact h.hold e he, h.high, h.nodup⟩

/-- Blocks turn that are none of them. -/
theorem Kd.others {G F : List Nat} {w W W' : World} {L : List (Nat × Array Value × TypeId)} (h : Kd G w W L) (ho : Only F W W') (hF : ∀ b ∈ F, b ∈ G ∨ w.heap.size ≤ b) (hL : ∀ e ∈ L, e.1 ∉ F) : Kd G w W' L :=
  ⟨⟨h.only.below.trans ho.below, fun b hb hn => (ho.block b (Nat.lt_of_lt_of_le hb h.only.below.size) (fun hf => (hF b hf).elim hn (fun h1 => by omega))).trans (h.only.block b hb hn)⟩,
    fun e he => by rw [ho.block _ (Array.getElem?_eq_some_iff.1 (h.hold e he)).1 (hL e he)]; exact h.hold e he, h.high, h.nodup⟩

theorem Kd.one (G : List Nat) (w : World) (c : Array Value) (t : TypeId) : Kd G w (w.alloc (.cells c t)) [(w.heap.size, c, t)] := (Kd.start G w).alloc c t

end Go.Proofs.Ytfldnjkojdnjcaa

/- Drawn ranges: they return, with bounds that are small, and write into the reader's block alone. -/
namespace Go.Proofs.Ytfldnjkojdnjcaa
open Go.RowKit Go.ChangeShapes
set_option linter.unusedSimpArgs false
set_option linter.unusedVariables false
set_option maxRecDepth 100000

/-- A drawn range is returned. -/
def RetDR (B : Nat) (a : Option Addr) (len cap g : Nat) (w : World) (e : Ending) (w' : World) : Prop :=
  ∃ f t : Int, (-3000 ≤ f ∧ f ≤ 3000 ∧ -3000 ≤ t ∧ t ≤ 3000) ∧ e = .returned (.agg #[.int .i64 f, .int .i64 t]) ∧ Rd B a len cap w' g ∧ Only [g] w w'

theorem pick4 {B : Nat} {a : Option Addr} {len cap g : Nat} {w : World} (R : Rd B a len cap w g) (p q r s : Int) (b : Nat) (hb : b = w.heap.size) :
    Calls Try.prog 50 #[.pointer (some ⟨g, 0, none⟩), .slice (some ⟨b, 0, none⟩) 4 4] (w.alloc (.cells #[.int .i64 p, .int .i64 q, .int .i64 r, .int .i64 s] 3)) (RetD B a len cap g w (fun x => x = p ∨ x = q ∨ x = r ∨ x = s)) := by
  subst hb
  refine (pickI_d B a len cap g _ (R.alloc _) [p, q, r, s] w.heap.size 4 4 rfl (by omega) (by omega) (by have := R.lt; omega) (by simp) (litsI w [p, q, r, s] 3)).mono ?_
  rintro e w' ⟨x, hx, he, hr, ho⟩
  exact ⟨x, by simpa using hx, he, hr, (Only.of_below ((Below.refl _ _).alloc (Nat.le_refl _) _)).trans ho⟩

end Go.Proofs.Ytfldnjkojdnjcaa
