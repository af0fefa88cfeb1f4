/- What EncodeHex and DecodeHex of both packages return, for every argument. -/
import Derived.Test.YtgeegbbcjdlkbaaGreatDoorDec
import Derived.Deep.RegionLaw
namespace Go.Proofs.YtgeegbbcjdlkbaaGreatDoor
open Go.RowKit
set_option linter.unusedSimpArgs false
set_option linter.unusedVariables false
set_option maxRecDepth 100000

/-- append of bytes that lie in memory, as one step of a region that draws: to a slice of the call's own. -/
theorem step_bs {P : Program} {ops : Array Oper} {o : Oper} {a : Act} {w : World} {K : Act → World → Prop} {Q : Exit → Act → World → Prop} {E : Prop}
    (hg : o.guard = none) (s x : Operand) (t : TypeId) (ho : o.op = Op.call { callee := Callee.builtin Builtin.append, args := #[s, x], argTypes := #[t, t] })
    (base : Nat) (e : TypeId) (ht : P.underlying t = some (.slice e)) (hinf : (P.info? e).map (fun i => (i.zero, i.size, i.bytes)) = some (some (.int .u8 0), 1, 1))
    (v : Value) (l : List UInt8) (hown : Bs w base e v l) (hs : a.eval s = v) (news : List UInt8) (ad : Addr) (m c : Nat) (hx : a.eval x = .slice (some ad) m c) (hm : news.length = m)
    (hnews : ∀ j (h : j < news.length), w.cell? (ad.add j) = some (.int .u8 (news[j].toNat : Nat))) (hlen : l.length + m < 140737488355328) (hbase : base ≤ w.heap.size)
    (h : ∀ v' w', Bs w' base e v' (l ++ news) → Below base w w' → K (a.put o.dst v') w') :
    if Region.wanted o (yielded ops a.tmps) = true then Oper.wp P o a w K Q else E := by
  have hw : Region.wanted o (yielded ops a.tmps) = true := by simp [Region.wanted, hg]
  rw [if_pos hw]
  obtain ⟨i0, hi, hz0, hz1, hz2⟩ := info_parts hinf
  refine wp_append_own w s x t ho base e i0 (.int .u8 0) 1 1 ht hi hz0 hz1 hz2 rfl (by decide) v l.length (byteVs l) hs hown ad m c (byteVs news) hx (by rw [byteVs_length]; omega) ?_ ?_ (by unfold maxLen; omega) (by omega) hbase ?_
  · intro j u hj
    have hj2 : j < news.length := by have := (List.getElem?_eq_some_iff.1 hj).1; rwa [byteVs_length] at this
    rw [hnews j hj2]
    rw [← hj]
    simp [byteVs, hj2]
  · intro u hu
    simp only [byteVs, List.mem_map] at hu
    obtain ⟨b, _, rfl⟩ := hu
    rfl
  · intro v' w' hown' hgrow _
    refine h v' w' ?_ ((Below.refl base w).grown hgrow hbase (fun k hk => (World.ownsRow.lt hown k hk).1))
    unfold Bs
    rw [byteVs_append, List.length_append, hm]
    exact hown'

theorem Bs.drew {w : World} {base : Nat} {e : TypeId} {v : Value} {l : List UInt8} (h : Bs w base e v l) : Bs w.drew base e v l := h

theorem two_cells (w : World) (x y : UInt8) (t : TypeId) : ∀ j (h : j < [x, y].length), (w.alloc (.cells #[.int .u8 (x.toNat : Nat), .int .u8 (y.toNat : Nat)] t)).cell? ((⟨w.heap.size, 0, none⟩ : Addr).add j) = some (.int .u8 ([x, y][j].toNat : Nat)) := by
  intro j h
  match j, h with
  | 0, _ => simp [Addr.add]
  | 1, _ => simp [Addr.add]

theorem two_cells' (w : World) (x y : UInt8) (t : TypeId) : ∀ j (h : j < [x, y].length), (w.alloc (.cells #[.int .u8 (x.toNat : Nat), .int .u8 (y.toNat : Nat)] t)).drew.cell? ((⟨w.heap.size, 0, none⟩ : Addr).add j) = some (.int .u8 ([x, y][j].toNat : Nat)) := two_cells w x y t

def hexB : ByteArray := ⟨#[48, 49, 50, 51, 52, 53, 54, 55, 56, 57, 97, 98, 99, 100, 101, 102]⟩

def hexOf (l : List UInt8) : List UInt8 := l.flatMap fun b => [hexB[b.toNat / 16 % 16]'(Nat.mod_lt _ (by decide)), hexB[b.toNat % 16]'(Nat.mod_lt _ (by decide))]

theorem hexOf_length (l : List UInt8) : (hexOf l).length = 2 * l.length := by
  induction l with
  | nil => rfl
  | cons a l ih => simp only [hexOf, List.flatMap_cons, List.length_append, List.length_cons, List.length_nil] at ih ⊢; omega

theorem hexOf_snoc (s : ByteArray) (k q r : Nat) (h : k < s.size) (hq : q = s[k].toNat / 16) (hr : r = s[k].toNat % 16) (hq16 : q < 16) (hr16 : r < 16) :
    hexOf (s.data.toList.take (k + 1)) = hexOf (s.data.toList.take k) ++ [hexB[q]'hq16, hexB[r]'hr16] := by
  rw [take_snoc s k h]
  have e1 : s[k].toNat / 16 % 16 = q := by have := s[k].toNat_lt; omega
  have e2 : s[k].toNat % 16 = r := hr.symm
  simp only [hexOf, List.flatMap_append, List.flatMap_cons, List.flatMap_nil, List.append_nil, e1, e2]
  rfl

end Go.Proofs.YtgeegbbcjdlkbaaGreatDoor