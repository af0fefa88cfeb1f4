/- What EncodeHex and DecodeHex of both packages return, for every argument. -/
import Derived.Test.YtklegjmahopkbaaDoorDec
import Derived.Deep.RegionLaw
namespace Go.Proofs.YtklegjmahopkbaaDoor
open Go.RowKit
set_option linter.unusedSimpArgs false
set_option linter.unusedVariables false
set_option maxRecDepth 100000

/-- append of bytes that lie in memory, as one step of a region that draws: to a slice of the call's own. -/
theorem step_bs {P : Program} {ops : Array Oper} {o : Oper} {a : Act} {w : World} {K : Act → World → Prop} {Q : Exit → Act → World → Prop} {E : Prop}
    (hg : o.guard = none) (s x : Operand) (t : TypeId) (ho : o.op = Op.call { callee := Callee.builtin Builtin.append, args := #[s, x], argTypes := #[t, t] })
    (base : Nat) (e : TypeId) (ht : P.underlying t = some (.slice e)) (hinf : (P.info? e).map (fun i => (i.zero, i.size, i.bytes)) = some (some (.int .u8 0), 1, 1))
    (v : Value) (l : List UInt8) (hown : Bs w base e v l) (hs : a.eval s = v) (news : List UInt8) (ad : Addr) (m c : Nat) (hx : a.eval x = .slice (some ad) m c) (hm : news.length = m)
    (hnews : ∀ j (h : j < news.length), w.cell? (ad.add j) = some (.int .u8 (news[j].toNat : Nat))) (hlen : l.length + m < 140737488355328) (hbase : base ≤ w.heap.size)
    (h : ∀ v' w', Bs w' base e v' (l ++ news) → Below base w w' → K (a.put o.dst v') w') :
    if Region.wanted o (yielded ops a.tmps) = true then Oper.wp P o a w K Q else E := by
  have hw : Region.wanted o (yielded ops a.tmps) = true := by simp [Region.wanted, hg]
  rw [if_pos hw]
  obtain ⟨i0, hi, hz0, hz1, hz2⟩ := info_parts hinf
  refine wp_append_own w s x t ho base e i0 (.int .u8 0) 1 1 ht hi hz0 hz1 hz2 rfl (by decide) v l.length (byteVs l) hs hown ad m c (byteVs news) hx (by rw [byteVs_length]; omega) ?_ ?_ (by unfold maxLen; omega) (by omega) hbase ?_
  · intro j u hj
    have hj2 : j < news.length := by have := (List.getElem?_eq_some_iff.1 hj).1; rwa [byteVs_length] at this
    rw [hnews j hj2]
    rw [← hj]
    simp [byteVs, hj2]
  · intro u hu
    simp only [byteVs, List.mem_map] at hu
    obtain ⟨b, _, rfl⟩ := hu
    rfl
  · intro v' w' hown' hgrow _
    refine h v' w' ?_ ((Below.refl base w).grown hgrow hbase (fun k hk => (World.ownsRow.lt hown k hk).1))
    unfold Bs
    rw [byteVs_append, List.length_append, hm]
    exact hown'

theorem Bs.drew {w : World} {base : Nat} {e : TypeId} {v : Value} {l : List UInt8} (h : Bs w base e v l) : Bs w.drew base e v l := h

theorem two_cells (w : World) (x y : UInt8) (t : TypeId) : ∀ j (h : j < [x, y].length), (w.alloc (.cells #[.int .u8 (x.toNat : Nat), .int .u8 (y.toNat : Nat)] t)).cell? ((⟨w.heap.size, 0, none⟩ : Addr).add j) = some (.int .u8 ([x, y][j].toNat : Nat)) := by
  intro j h
  match j, h with
  | 0, _ => simp [Addr.add]
  | 1, _ => simp [Addr.add]

theorem two_cells' (w : World) (x y : UInt8) (t : TypeId) : ∀ j (h : j < [x, y].length), (w.alloc (.cells #[.int .u8 (x.toNat : Nat), .int .u8 (y.toNat : Nat)] t)).drew.cell? ((⟨w.heap.size, 0, none⟩ : Addr).add j) = some (.int .u8 ([x, y][j].toNat : Nat)) := two_cells w x y t

def hexB : ByteArray := ⟨#[48, 49, 50, 51, 52, 53, 54, 55, 56, 57, 97, 98, 99, 100, 101, 102]⟩

def hexOf (l : List UInt8) : List UInt8 := l.flatMap fun b => [hexB[b.toNat / 16 % 16]'(Nat.mod_lt _ (by decide)), hexB[b.toNat % 16]'(Nat.mod_lt _ (by decide))]

theorem hexOf_length (l : List UInt8) : (hexOf l).length = 2 * l.length := by
  induction l with
  | nil => rfl
  | cons a l ih => simp only [hexOf, List.flatMap_cons, List.length_append, List.length_cons, List.length_nil] at ih ⊢; omega

theorem hexOf_snoc (s : ByteArray) (k q r : Nat) (h : k < s.size) (hq : q = s[k].toNat / 16) (hr : r = s[k].toNat % 16) (hq16 : q < 16) (hr16 : r < 16) :
    hexOf (s.data.toList.take (k + 1)) = hexOf (s.data.toList.take k) ++ [hexB[q]'hq16, hexB[r]'hr16] := by
  rw [take_snoc s k h]
  have e1 : s[k].toNat / 16 % 16 = q := by have := s[k].toNat_lt; omega
  have e2 : s[k].toNat % 16 = r := hr.symm
  simp only [hexOf, List.flatMap_append, List.flatMap_cons, List.flatMap_nil, List.append_nil, e1, e2]
  rfl

set_option maxHeartbeats 1000000 in
theorem iEH_any (s : ByteArray) (w : World) (hs : s.size ≤ 1048576) :
    Calls Tryd.prog 15 #[.string s] w (RetS w (hexOf s.data.toList)) := by
  go_enter Tryd.func15, Tryd.ntmps15
  go_wp2_with (first | (at_make; refine bs_make0 _ rfl _ _ 22 rfl w.heap.size 5 Tryd.underlying22 infoB (2 * s.size) _ rfl rfl (by omega) (by omega) (Nat.le_refl _) ?_; intro w1 hown1 hb1))
  go_loopw [3, 11] (fun v i wr => ∃ (k : Nat), k ≤ s.size ∧ i = .int .i64 k ∧ Bs wr w.heap.size 5 v (hexOf (s.data.toList.take k)) ∧ Below w.heap.size w wr) (fun _ i _ => s.size - (intOf i).toNat)
  case atStart => exact ⟨0, by omega, rfl, hown1, hb1⟩
  case round =>
    clear hown1 hb1
    obtain ⟨k, hk, rfl, hown, hb⟩ := hrel
    have hsz := hb.size
    by_cases hl : k < s.size
    · have hby := s[k].toNat_lt
      obtain ⟨q, hq⟩ : ∃ q, q = s[k].toNat / 16 := ⟨_, rfl⟩
      obtain ⟨r, hr⟩ : ∃ r, r = s[k].toNat % 16 := ⟨_, rfl⟩
      have hq16 : q < 16 := by omega
      have hr16 : r < 16 := by omega
      have n1 : IntKind.u8.wrap ((s[k].toNat : Int) / 16) = (q : Int) := by rw [IntWalk.u8_in _ (by omega)]; omega
      have n2 : (s[k].toNat : Int) % 16 = (r : Int) := by omega
      have n8 : (s[k].toNat : Int).tmod 16 = (r : Int) := by rw [Int.tmod_eq_emod_of_nonneg (by omega)]; omega
      have n3 : IntKind.u8.wrap (r : Int) = (r : Int) := IntWalk.u8_in _ (by omega)
      have n4 : (q : Int) < 16 := by omega
      have n5 : (r : Int) < 16 := by omega
      have n6 : 0 ≤ (q : Int) := by omega
      have n7 : 0 ≤ (r : Int) := by omega
      have hlx : (hexOf (s.data.toList.take k)).length ≤ 2097152 := by rw [hexOf_length, List.length_take]; omega
      have HQ := hide hq
      have HR := hide hr
      clear hq hr hby
      go_wp2
      go_region_law (refine step_bs rfl _ _ 22 rfl w.heap.size 5 Tryd.underlying22 infoB _ _ (hown.alloc _).drew rfl [hexB[q]'hq16, hexB[r]'hr16] ⟨wr.heap.size, 0, none⟩ 2 2 rfl rfl (two_cells' wr _ _ _) (by omega) (by simp; omega) ?_; intro v2 w2 hown2 hb2)
      all_goals go_wp2_with fail
      all_goals
        go_roundw
        case rel => exact ⟨k + 1, by omega, by go_num, by rw [hexOf_snoc s k q r hl HQ.out HR.out hq16 hr16]; exact hown2, (hb.alloc hsz _).drew.trans hb2⟩
        case measure => simp [intOf]; omega
    · have hk2 : k = s.size := by omega
      subst hk2
      rw [List.take_of_length_le (by simp)] at hown
      have hcv := conv_bs (P := Tryd.prog) 22 9 5 Tryd.underlying22 Tryd.underlying5 Tryd.underlying9 wr _ _ _ hown
      go_wp2
      go_ret
      exact ⟨rfl, hb⟩
end Go.Proofs.YtklegjmahopkbaaDoor
