/- Small facts about strings, bytes and worlds that every walk of this seat uses; they speak of any program. -/
import Derived.Test.YtepkkeclkdlheaaRows
import Derived.WalkKit
import Derived.WalkSpells
import Derived.WalkLawsBesides
import Derived.Handy
import Derived.Laws.BitsAllLaws
namespace Go.Proofs.Ytepkkeclkdlheaa
open Go.RowKit
set_option linter.unusedSimpArgs false
set_option linter.unusedVariables false

/-- A fact kept from the walk. -/
theorem hide {p : Prop} (h : p) : Hid p := h

/-- A string out of a list of bytes. -/
def strV (l : List UInt8) : Value := .string ⟨l.toArray⟩

theorem str_cons (b : UInt8) (l : List UInt8) : (ByteArray.mk #[b] ++ ByteArray.mk l.toArray) = ByteArray.mk (b :: l).toArray := by
  have := ByteArray.mk_append_mk [b] l
  simpa using this

theorem below_size {B : Nat} {a w : World} (h : Below B a w) : a.heap.size ≤ w.heap.size := h.size

/-- string([]byte{x}) of a block of one byte that was just made. -/
theorem conv_one {P : Program} (src dst e : TypeId) (hs : P.underlying src = some (.slice e)) (he : P.underlying e = some (.int .u8)) (hd : P.underlying dst = some .string)
    (W : World) (x : Int) (h0 : 0 ≤ x) (h1 : x ≤ 255) :
    (convert src dst (.slice (some ⟨W.heap.size, 0, none⟩) 1 1)).run P (W.alloc (.cells #[.int .u8 x] e)) = .ok (.string ⟨#[UInt8.ofNat x.toNat]⟩) (W.alloc (.cells #[.int .u8 x] e)) := by
  have h := run_convert_bytes_back (P := P) (W.alloc (.cells #[.int .u8 x] e)) src dst e ⟨W.heap.size, 0, none⟩ 1 [UInt8.ofNat x.toNat] hs he hd (by
    intro j hj
    have hj0 : j = 0 := by simpa using hj
    subst hj0
    have e1 : (UInt8.ofNat x.toNat).toNat = x.toNat := by simp; omega
    simp [Addr.add, e1]
    omega)
  simpa using h


/-- The cells of a list of bytes. -/
def byteVs (l : List UInt8) : List Value := l.map fun b => Value.int .u8 (b.toNat : Int)

/-- The slice value v owns the bytes l (element type e) in a block of the call's own. -/
def Bs (w : World) (base : Nat) (e : TypeId) (v : Value) (l : List UInt8) : Prop := w.ownsRow base e 1 v l.length (byteVs l)

theorem byteVs_length (l : List UInt8) : (byteVs l).length = l.length := by simp [byteVs]
theorem byteVs_append (l m : List UInt8) : byteVs (l ++ m) = byteVs l ++ byteVs m := by simp [byteVs]

theorem byte_back {x : Int} (h0 : 0 ≤ x) (h1 : x ≤ 255) : ((UInt8.ofNat x.toNat).toNat : Int) = x := by
  have : (UInt8.ofNat x.toNat).toNat = x.toNat := by simp; omega
  omega

theorem byteVs_one {x : Int} (h0 : 0 ≤ x) (h1 : x ≤ 255) : byteVs [UInt8.ofNat x.toNat] = [Value.int .u8 x] := by simp [byteVs, -UInt8.toNat_ofNat', byte_back h0 h1]

theorem Bs.nil (w : World) (base : Nat) (e : TypeId) : Bs w base e (.slice none 0 0) [] := World.ownsRow_nil _ _ _ _

theorem Bs.kept {w w' : World} {base : Nat} {e : TypeId} {v : Value} {l : List UInt8} (h : Bs w base e v l) (hb : w.grownBy w' none) : Bs w' base e v l :=
  World.ownsRow.kept h hb (by cases hv : v.ownBlock <;> simp)

theorem Bs.alloc {w : World} {base : Nat} {e : TypeId} {v : Value} {l : List UInt8} (h : Bs w base e v l) (o : Obj) : Bs (w.alloc o) base e v l := World.ownsRow.alloc h o

/-- What is owned stays owned in a world that has turned only above what was there. -/
theorem Bs.below {w w' : World} {base : Nat} {e : TypeId} {v : Value} {l : List UInt8} (h : Bs w base e v l) (hb : Below w.heap.size w w') : Bs w' base e v l := by
  refine ⟨h.1, ?_⟩
  rcases h.2 with h2 | ⟨g, cap, cur, hv, hg, hh, r⟩
  · exact .inl h2
  · exact .inr ⟨g, cap, cur, hv, hg, by rw [hb.block g (Array.getElem?_eq_some_iff.1 hh).1]; exact hh, r⟩

/-- string(b) of owned bytes. -/
theorem conv_bs {P : Program} (src dst e : TypeId) (hs : P.underlying src = some (.slice e)) (he : P.underlying e = some (.int .u8)) (hd : P.underlying dst = some .string)
    (w : World) (base : Nat) (v : Value) (l : List UInt8) (h : Bs w base e v l) :
    (convert src dst v).run P w = .ok (.string ⟨l.toArray⟩) w := by
  rcases h.2 with ⟨hv, hn⟩ | ⟨g, cap, cur, hv, hb, hg, hnc, hcm, hcs, htake⟩
  · have hl : l = [] := List.eq_nil_of_length_eq_zero hn
    subst hv; subst hl
    exact run_convert_bytes_nil w src e hs he 0 0 dst hd
  · subst hv
    refine run_convert_bytes_back w src dst e _ cap l hs he hd fun j hj => ?_
    rw [Addr.add_lit, Nat.zero_add, cell_of_row w g j cur e (0, 0) hg]
    have h2 : (cur.toList.take (l.length * 1))[j]? = (byteVs l)[j]? := by rw [htake]
    rw [List.getElem?_take, if_pos (by omega)] at h2
    simp only [Array.getElem?_toList] at h2
    rw [h2]
    simp [byteVs, hj]

/-- out = append(out, byte(x)): x lies in a block of one cell that was just made. -/
theorem bs_append {P : Program} (W : World) {ops : Array Oper} {rest : List Oper} {o : Oper} {a : Act} {Q : Exit → Act → World → Prop} (hgd : o.guard = none) (s x : Operand) (t : TypeId)
    (ho : o.op = .call { callee := .builtin .append, args := #[s, x], argTypes := #[t, t] })
    (base : Nat) (e : TypeId) (ht : P.underlying t = some (.slice e)) (hinf : (P.info? e).map (fun i => (i.zero, i.size, i.bytes)) = some (some (.int .u8 0), 1, 1))
    (v : Value) (l : List UInt8) (hown : Bs W base e v l) (hs : a.eval s = v) (b : Int) (c : Nat) (h0 : 0 ≤ b) (h1 : b ≤ 255)
    (hx : a.eval x = .slice (some ⟨W.heap.size, 0, none⟩) 1 c) (hlen : l.length < 140737488355328) (hbase : base ≤ W.heap.size)
    (h : ∀ v' w', Bs w' base e v' (l ++ [UInt8.ofNat b.toNat]) → Below base W w' → wpList P ops Q rest (a.put o.dst v') w') :
    wpList P ops Q (o :: rest) a (W.alloc (.cells #[.int .u8 b] e)) := by
  obtain ⟨i0, hi, hz0, hz1, hz2⟩ := info_parts hinf
  refine wpList_append_own _ hgd s x t ho base e i0 (.int .u8 0) 1 1 ht hi hz0 hz1 hz2 rfl (by decide) v l.length (byteVs l) hs (hown.alloc _) ⟨W.heap.size, 0, none⟩ 1 c [.int .u8 b] hx rfl ?_ ?_ ?_ ?_ ?_ ?_
  · intro j u hj
    match j, hj with
    | 0, hj => simp at hj; subst hj; simp [Addr.add]
  · intro u hu; simp at hu; subst hu; rfl
  · unfold maxLen; omega
  · omega
  · simp; omega
  · intro v' w' hown' hgrow _
    refine h v' w' ?_ ?_
    · unfold Bs
      rw [byteVs_append, byteVs_one h0 h1, List.length_append]
      exact hown'
    · exact (((Below.refl base W).alloc hbase _).grown hgrow (by simp; omega) (fun k hk => (World.ownsRow.lt hown k hk).1))

/-- make([]byte, n). -/
theorem bs_make {P : Program} (W : World) {ops : Array Oper} {rest : List Oper} {o : Oper} {a : Act} {Q : Exit → Act → World → Prop} (hgd : o.guard = none) (x y : Operand) (t : TypeId)
    (ho : o.op = Op.makeSlice t x y) (base : Nat) (e : TypeId) (ht : P.underlying t = some (.slice e)) (hinf : (P.info? e).map (fun i => (i.zero, i.size, i.bytes)) = some (some (.int .u8 0), 1, 1))
    (n : Nat) (L C : Int) (hx : a.eval x = .int .i64 L) (hy : a.eval y = .int .i64 C) (hL : L = (n : Int)) (hC : C = (n : Int)) (hn : n ≤ 140737488355328) (hbase : base ≤ W.heap.size)
    (h : ∀ w', Bs w' base e (.slice (some ⟨W.heap.size, 0, none⟩) n n) (List.replicate n 0) → Below base W w' → W.heap.size < w'.heap.size → wpList P ops Q rest (a.put o.dst (.slice (some ⟨W.heap.size, 0, none⟩) n n)) w') :
    wpList P ops Q (o :: rest) a W := by
  obtain ⟨i0, hi, hz0, hz1, hz2⟩ := info_parts hinf
  refine wpList_make_full W hgd x y t ho base e i0 (.int .u8 0) 1 ht hi hz0 hz1 .i64 .i64 L C n hx hy hL hC (by rw [hz2]; omega) (by unfold maxLen; omega) hbase ?_
  intro w' hown hgrow
  refine h w' ?_ ((Below.refl base W).grown hgrow hbase (fun k hk => by cases hk)) ?_
  · unfold Bs
    have e1 : (madeCells (Value.int .u8 0).cells (n * 1)).toList = byteVs (List.replicate n 0) := by
      simp [madeCells, byteVs, Value.cells]
      rw [List.eq_replicate_iff]
      simp [Nat.mod_one]
    rw [← e1, List.length_replicate]
    exact hown
  · have := World.ownsRow.lt hown W.heap.size (by simp [Value.ownBlock])
    exact this.2

/-- make([]byte, 0, n). -/
theorem bs_make0 {P : Program} (W : World) {ops : Array Oper} {rest : List Oper} {o : Oper} {a : Act} {Q : Exit → Act → World → Prop} (hgd : o.guard = none) (x y : Operand) (t : TypeId)
    (ho : o.op = Op.makeSlice t x y) (base : Nat) (e : TypeId) (ht : P.underlying t = some (.slice e)) (hinf : (P.info? e).map (fun i => (i.zero, i.size, i.bytes)) = some (some (.int .u8 0), 1, 1))
    (n : Nat) (C : Int) (hx : a.eval x = .int .i64 0) (hy : a.eval y = .int .i64 C) (hC : C = (n : Int)) (hn : n ≤ 281474976710656) (hbase : base ≤ W.heap.size)
    (h : ∀ w', Bs w' base e (.slice (some ⟨W.heap.size, 0, none⟩) 0 n) [] → Below base W w' → wpList P ops Q rest (a.put o.dst (.slice (some ⟨W.heap.size, 0, none⟩) 0 n)) w') :
    wpList P ops Q (o :: rest) a W := by
  obtain ⟨i0, hi, hz0, hz1, hz2⟩ := info_parts hinf
  refine wpList_make_own W hgd x y t ho base e i0 (.int .u8 0) 1 ht hi hz0 hz1 .i64 .i64 C n hx hy hC (by rw [hz2]; omega) (by unfold maxLen; omega) hbase ?_
  intro w' hown hgrow
  exact h w' hown ((Below.refl base W).grown hgrow hbase (fun k hk => by cases hk))

theorem Bs.made0 (w : World) (base : Nat) (e : TypeId) (hb : base ≤ w.heap.size) : Bs (w.alloc (.cells #[] e)) base e (.slice (some ⟨w.heap.size, 0, none⟩) 0 0) [] :=
  World.ownsRow_made w #[] 0 hb (by unfold maxLen; omega) rfl

/-- b[j] of owned bytes: the cell, and that it may be written. -/
theorem Bs.cell {w : World} {base : Nat} {e : TypeId} {g n cap : Nat} {l : List UInt8} (h : Bs w base e (.slice (some ⟨g, 0, none⟩) n cap) l) (j : Nat) (hj : j < l.length) :
    w.cell? ⟨g, j, none⟩ = some (.int .u8 (l[j].toNat : Int)) ∧ w.frozen? ⟨g, j, none⟩ = false ∧ base ≤ g ∧ g < w.heap.size ∧ n = l.length := by
  rcases h.2 with ⟨h', _⟩ | ⟨g', cap', cur, h', hb, hg, _, _, _, htake⟩
  · simp at h'
  · have h'' := h'
    simp only [Value.slice.injEq, Option.some.injEq, Addr.mk.injEq, and_true, true_and] at h''
    obtain ⟨rfl, rfl, rfl⟩ := h''
    have h3 : w.ownsRow base e 1 (.slice (some ⟨g, 0, none⟩) l.length cap) l.length (byteVs l) := h
    refine ⟨?_, World.ownsRow.frozenAt h3 j, hb, (Array.getElem?_eq_some_iff.1 hg).1, rfl⟩
    rw [World.ownsRow.cellAt h3 j (by omega)]
    simp [byteVs, hj]

theorem byteVs_set (l : List UInt8) (j : Nat) {x : Int} (h0 : 0 ≤ x) (h1 : x ≤ 255) : (byteVs l).set j (.int .u8 x) = byteVs (l.set j (UInt8.ofNat x.toNat)) := by
  simp [byteVs, List.map_set, -UInt8.toNat_ofNat', byte_back h0 h1]

/-- b[j] = x. -/
theorem Bs.store {w : World} {base : Nat} {e : TypeId} {g n cap : Nat} {l : List UInt8} (h : Bs w base e (.slice (some ⟨g, 0, none⟩) n cap) l) (hl : n = l.length) (j : Nat) {x : Int} (h0 : 0 ≤ x) (h1 : x ≤ 255) :
    Bs (w.setCell ⟨g, j, none⟩ (.int .u8 x)) base e (.slice (some ⟨g, 0, none⟩) n cap) (l.set j (UInt8.ofNat x.toNat)) ∧ base ≤ g := by
  subst hl
  have h3 : w.ownsRow base e 1 (.slice (some ⟨g, 0, none⟩) l.length cap) l.length (byteVs l) := h
  have h4 := (World.ownsRow.stored h3 j (.int .u8 x)).1
  rw [byteVs_set l j h0 h1] at h4
  refine ⟨?_, (World.ownsRow.lt h3 g (by simp [Value.ownBlock])).1⟩
  unfold Bs
  rw [List.length_set]
  exact h4

theorem i64_or_nat (a b : Nat) (ha : a < 9223372036854775808) (hb : b < 9223372036854775808) : bits .or .i64 (a : Int) (b : Int) = ((a ||| b : Nat) : Int) := by
  have hx : a ||| b < 2 ^ 63 := Nat.or_lt_two_pow (by omega) (by omega)
  have e : ∀ c : Nat, c < 9223372036854775808 → (BitVec.ofInt 64 (c : Int)).toNat = c := by
    intro c hc
    rw [BitVec.ofInt_natCast, BitVec.toNat_ofNat]; exact Nat.mod_eq_of_lt (by omega)
  show IntKind.i64.wrap ((BitVec.ofInt 64 (a : Int) ||| BitVec.ofInt 64 (b : Int)).toNat : Int) = _
  rw [BitVec.toNat_or, e a ha, e b hb, IntKind.wrap_i64]
  omega

/-- A shifted number and a small one: the bits join as a sum. -/
theorem i64_join (i x y : Nat) (hx : x % 2 ^ i = 0) (hy : y < 2 ^ i) (hs : x + y < 9223372036854775808) : bits .or .i64 (x : Int) (y : Int) = (x : Int) + (y : Int) := by
  rw [i64_or_nat x y (by omega) (by omega), nat_join i x y hx hy]
  omega

theorem wrap64_byte' (b : UInt8) : wrap64 (b.toNat : Int) = (b.toNat : Int) := IntWalk.wrap64_in _ (by have := b.toNat_lt; omega)

end Go.Proofs.Ytepkkeclkdlheaa
