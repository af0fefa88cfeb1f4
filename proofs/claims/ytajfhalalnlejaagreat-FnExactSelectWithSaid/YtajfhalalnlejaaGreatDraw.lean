/- The drawn numbers and texts: they return, with values in range, and write into new memory alone. -/
import Derived.Test.YtajfhalalnlejaaGreatCur
namespace Go.Proofs.YtajfhalalnlejaaGreat
open Go.RowKit
set_option linter.unusedSimpArgs false
set_option linter.unusedVariables false
set_option maxRecDepth 100000

/-- A new reader. -/
def RetP (a : Option Addr) (len cap : Nat) (w : World) (e : Ending) (w' : World) : Prop := ∃ g, e = .returned (.pointer (some ⟨g, 0, none⟩)) ∧ Rd w.heap.size a len cap w' g ∧ Below w.heap.size w w'

theorem rd_new (a : Option Addr) (len cap : Nat) (w : World) (h : Int) (hcode : CodeAt w a len cap) : Rd w.heap.size a len cap (w.alloc (.cells #[.slice a len cap, .int .i64 0, .int .i64 h] 140)) w.heap.size :=
  ⟨hcode.below ((Below.refl w.heap.size w).alloc (Nat.le_refl _) _) (Nat.le_refl _), ⟨0, h, heap_alloc_new w _, by omega⟩, hcode.2.1, Nat.le_refl _⟩

set_option maxHeartbeats 2000000 in
theorem new_any (a : Option Addr) (len cap : Nat) (w : World) (hcode : CodeAt w a len cap) (hlen : len ≤ 1048576) :
    Calls Tryz.prog 72 #[.slice a len cap] w (RetP a len cap w) := by
  have H := hide hcode
  clear hcode
  go_enter Tryz.func72, Tryz.ntmps72
  go_wp2
  go_loopw [3, 4] (fun hh i wr => ∃ (k : Nat) (h : Int), k ≤ len ∧ i = .int .i64 k ∧ hh = .int .i64 h ∧ k ≤ 4000 ∧ w = wr) (fun _ i _ => 4000 - (intOf i).toNat)
  case atStart => exact ⟨0, _, by omega, rfl, rfl, by omega, rfl⟩
  case round =>
    obtain ⟨k, h, hk, rfl, rfl, hk2, rfl⟩ := hrel
    by_cases hl : k < len
    · by_cases h4 : k < 4000
      · obtain ⟨b, o, x, rfl, hx, hc⟩ := H.out.2.2 k hl
        go_wp2
        go_roundw
        case rel => exact ⟨k + 1, _, by omega, by go_num, rfl, by omega, trivial⟩
        case measure => simp [intOf]; omega
      · go_wp2
        go_ret
        exact ⟨_, rfl, rd_new a len cap w h H.out, (Below.refl _ _).alloc (Nat.le_refl _) _⟩
    · go_wp2
      go_ret
      exact ⟨_, rfl, rd_new a len cap w h H.out, (Below.refl _ _).alloc (Nat.le_refl _) _⟩

/-- A number is returned, the reader stands, nothing below B has turned. -/
def RetN (B : Nat) (a : Option Addr) (len cap g : Nat) (w : World) (e : Ending) (w' : World) : Prop := ∃ x : Int, -9223372036854775808 ≤ x ∧ x ≤ 9223372036854775807 ∧ e = .returned (.int .i64 x) ∧ Rd B a len cap w' g ∧ Below B w w'

set_option maxHeartbeats 2000000 in
theorem pick_rd (B : Nat) (a : Option Addr) (len cap g : Nat) (w : World) (h : Rd B a len cap w g) (b n c : Nat) (hn : 1 ≤ n) (hn2 : n ≤ 4294967296) (hbg : b ≠ g) (hb : b < w.heap.size)
    (hc : ∀ j, j < n → ∃ v : Int, w.cell? ⟨b, j, none⟩ = some (.int .i64 v) ∧ -9223372036854775808 ≤ v ∧ v ≤ 9223372036854775807) :
    Calls Tryz.prog 115 #[.pointer (some ⟨g, 0, none⟩), .slice (some ⟨b, 0, none⟩) n c] w (RetN B a len cap g w) := by
  have H := hide h
  have HC := hide hc
  have hgs := hide h.high
  have hlt := h.lt
  clear h hc
  go_enter Tryz.func115, Tryz.ntmps115
  go_wp2_with fail
  refine (below_rd B a len cap g _ H.out (n : Int) (by omega) (by omega)).mono ?_
  rintro e wa ⟨x, hx0, hx1, rfl, hr, hg⟩
  obtain ⟨j, rfl⟩ := Int.eq_ofNat_of_zero_le hx0
  obtain ⟨v, hv, v1, v2⟩ := HC.out j (by omega)
  have hv2 : wa.cell? ⟨b, j, none⟩ = some (.int .i64 v) := by rw [World.cell?_of_block (w := w) (hg.block b hb (fun e => hbg (Option.some.inj e)))]; exact hv
  have hj : (j : Int) < (n : Int) := by omega
  have HR := hide hr
  have HG := hide hg
  clear hr hg hv hx1
  go_wp2_with fail
  go_ret
  exact ⟨v, v1, v2, rfl, HR.out, grown_below HG.out hgs.out (by have := hgs.out; omega)⟩

theorem lits_at (w : World) (L : List Int) (t : TypeId) (hL : L.all (fun v => decide (-9223372036854775808 ≤ v) && decide (v ≤ 9223372036854775807)) = true) :
    ∀ j, j < L.length → ∃ v : Int, (w.alloc (.cells (L.map (Value.int .i64)).toArray t)).cell? ⟨w.heap.size, j, none⟩ = some (.int .i64 v) ∧ -9223372036854775808 ≤ v ∧ v ≤ 9223372036854775807 := by
  intro j hj
  refine ⟨L[j], ?_, ?_⟩
  · rw [World.cell?_alloc_mark]
    simp [hj]
  · have := List.all_eq_true.1 hL L[j] (List.getElem_mem hj)
    simpa using this

def numLits : List Int := [-1, 0, 127, 128, 255, 256, 16383, 16384, 65535, 65536, 562949953421311, 562949953421312, 999999999, 1000000000, -999999999, 9223372036854775807, -9223372036854775808]

/-- A text of at most m bytes is returned. -/
def RetT (B : Nat) (a : Option Addr) (len cap g : Nat) (w : World) (m : Nat) (e : Ending) (w' : World) : Prop := ∃ l : List UInt8, l.length ≤ m ∧ e = .returned (.string ⟨l.toArray⟩) ∧ Rd B a len cap w' g ∧ Below B w w'

theorem own_apart {w : World} {base : Nat} {e t : TypeId} {v : Value} {l : List UInt8} {g : Nat} {cs : Array Value} (h : Bs w base e v l) (hg : w.heap[g]? = some (.cells cs t (0, 0))) (he : e ≠ t) : v.ownBlock ≠ some g := by
  intro hv
  rcases h.2 with ⟨rfl, _⟩ | ⟨k, cap, cur, rfl, _, hk, _⟩
  · simp [Value.ownBlock] at hv
  · simp [Value.ownBlock] at hv
    subst hv
    rw [hg] at hk
    simp at hk
    exact he hk.2.symm

theorem Bs.grown {w w' : World} {base : Nat} {e : TypeId} {v : Value} {l : List UInt8} {g : Nat} (h : Bs w base e v l) (hg : w.grownBy w' (some g)) (hne : v.ownBlock ≠ some g) : Bs w' base e v l :=
  World.ownsRow.kept h hg (.inr hne)

/-- out = append(out, byte(x)), with what is said of the blocks that were there. -/
theorem bs_append2 {P : Program} (W : World) {ops : Array Oper} {rest : List Oper} {o : Oper} {a : Act} {Q : Exit → Act → World → Prop} (hgd : o.guard = none) (s x : Operand) (t : TypeId)
    (ho : o.op = .call { callee := .builtin .append, args := #[s, x], argTypes := #[t, t] })
    (base : Nat) (e : TypeId) (ht : P.underlying t = some (.slice e)) (hinf : (P.info? e).map (fun i => (i.zero, i.size, i.bytes)) = some (some (.int .u8 0), 1, 1))
    (v : Value) (l : List UInt8) (hown : Bs W base e v l) (hs : a.eval s = v) (b : Int) (c : Nat) (h0 : 0 ≤ b) (h1 : b ≤ 255)
    (hx : a.eval x = .slice (some ⟨W.heap.size, 0, none⟩) 1 c) (hlen : l.length < 140737488355328) (hbase : base ≤ W.heap.size)
    (h : ∀ v' w', Bs w' base e v' (l ++ [UInt8.ofNat b.toNat]) → Below base W w' → (∀ k, k < W.heap.size → some k ≠ v.ownBlock → w'.heap[k]? = W.heap[k]?) → wpList P ops Q rest (a.put o.dst v') w') :
    wpList P ops Q (o :: rest) a (W.alloc (.cells #[.int .u8 b] e)) := by
  obtain ⟨i0, hi, hz0, hz1, hz2⟩ := info_parts hinf
  refine wpList_append_own _ hgd s x t ho base e i0 (.int .u8 0) 1 1 ht hi hz0 hz1 hz2 rfl (by decide) v l.length (byteVs l) hs (hown.alloc _) ⟨W.heap.size, 0, none⟩ 1 c [.int .u8 b] hx rfl ?_ ?_ ?_ ?_ ?_ ?_
  · intro j u hj
    match j, hj with
    | 0, hj => simp at hj; subst hj; simp [Addr.add]
  · intro u hu; simp at hu; subst hu; rfl
  · unfold maxLen; omega
  · omega
  · simp; omega
  · intro v' w' hown' hgrow _
    refine h v' w' ?_ ?_ ?_
    · unfold Bs
      rw [byteVs_append, byteVs_one h0 h1, List.length_append]
      exact hown'
    · exact (((Below.refl base W).alloc hbase _).grown hgrow (by simp; omega) (fun k hk => (World.ownsRow.lt hown k hk).1))
    · intro k hk hne
      rw [hgrow.block k (by simp; omega) hne, Below.heap_alloc _ _ _ hk]

/-- A drawn number; a drawn text; two drawn numbers. -/
def RetDn (w : World) (e : Ending) (w' : World) : Prop := ∃ x : Int, -9223372036854775808 ≤ x ∧ x ≤ 9223372036854775807 ∧ e = .returned (.int .i64 x) ∧ Below w.heap.size w w'
def RetDt (w : World) (e : Ending) (w' : World) : Prop := ∃ l : List UInt8, l.length ≤ 40 ∧ e = .returned (.string ⟨l.toArray⟩) ∧ Below w.heap.size w w'
def RetDnn (w : World) (e : Ending) (w' : World) : Prop := ∃ x y : Int, -9223372036854775808 ≤ x ∧ x ≤ 9223372036854775807 ∧ -1 ≤ y ∧ y ≤ 8 ∧ e = .returned (.tuple #[.int .i64 x, .int .i64 y]) ∧ Below w.heap.size w w'

end Go.Proofs.YtajfhalalnlejaaGreat
