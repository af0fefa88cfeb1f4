/- The drawn numbers and texts: they return, with values in range, and write into new memory alone. -/
import Derived.Test.YtklegjmahopkbaaDoorCur
namespace Go.Proofs.YtklegjmahopkbaaDoor
open Go.RowKit
set_option linter.unusedSimpArgs false
set_option linter.unusedVariables false
set_option maxRecDepth 100000

/-- A new reader. -/
def RetP (a : Option Addr) (len cap : Nat) (w : World) (e : Ending) (w' : World) : Prop := ∃ g, e = .returned (.pointer (some ⟨g, 0, none⟩)) ∧ Rd w.heap.size a len cap w' g ∧ Below w.heap.size w w'

theorem rd_new (a : Option Addr) (len cap : Nat) (w : World) (h : Int) (hcode : CodeAt w a len cap) : Rd w.heap.size a len cap (w.alloc (.cells #[.slice a len cap, .int .i64 0, .int .i64 h] 50)) w.heap.size :=
  ⟨hcode.below ((Below.refl w.heap.size w).alloc (Nat.le_refl _) _) (Nat.le_refl _), ⟨0, h, heap_alloc_new w _, by omega⟩, hcode.2.1, Nat.le_refl _⟩

set_option maxHeartbeats 2000000 in
theorem new_any (a : Option Addr) (len cap : Nat) (w : World) (hcode : CodeAt w a len cap) (hlen : len ≤ 1048576) :
    Calls Tryd.prog 21 #[.slice a len cap] w (RetP a len cap w) := by
  have H := hide hcode
  clear hcode
  go_enter Tryd.func21, Tryd.ntmps21
  go_wp2
  go_loopw [3, 4] (fun hh i wr => ∃ (k : Nat) (h : Int), k ≤ len ∧ i = .int .i64 k ∧ hh = .int .i64 h ∧ k ≤ 4000 ∧ w = wr) (fun _ i _ => 4000 - (intOf i).toNat)
  case atStart => exact ⟨0, _, by omega, rfl, rfl, by omega, rfl⟩
  case round =>
    obtain ⟨k, h, hk, rfl, rfl, hk2, rfl⟩ := hrel
    by_cases hl : k < len
    · by_cases h4 : k < 4000
      · obtain ⟨b, o, x, rfl, hx, hc⟩ := H.out.2.2 k hl
        go_wp2
        go_roundw
        case rel => exact ⟨k + 1, _, by omega, by go_num, rfl, by omega, trivial⟩
        case measure => simp [intOf]; omega
      · go_wp2
        go_ret
        exact ⟨_, rfl, rd_new a len cap w h H.out, (Below.refl _ _).alloc (Nat.le_refl _) _⟩
    · go_wp2
      go_ret
      exact ⟨_, rfl, rd_new a len cap w h H.out, (Below.refl _ _).alloc (Nat.le_refl _) _⟩

/-- A number is returned, the reader stands, nothing below B has turned. -/
def RetN (B : Nat) (a : Option Addr) (len cap g : Nat) (w : World) (e : Ending) (w' : World) : Prop := ∃ x : Int, -9223372036854775808 ≤ x ∧ x ≤ 9223372036854775807 ∧ e = .returned (.int .i64 x) ∧ Rd B a len cap w' g ∧ Below B w w'

set_option maxHeartbeats 2000000 in
theorem pick_rd (B : Nat) (a : Option Addr) (len cap g : Nat) (w : World) (h : Rd B a len cap w g) (b n c : Nat) (hn : 1 ≤ n) (hn2 : n ≤ 4294967296) (hbg : b ≠ g) (hb : b < w.heap.size)
    (hc : ∀ j, j < n → ∃ v : Int, w.cell? ⟨b, j, none⟩ = some (.int .i64 v) ∧ -9223372036854775808 ≤ v ∧ v ≤ 9223372036854775807) :
    Calls Tryd.prog 30 #[.pointer (some ⟨g, 0, none⟩), .slice (some ⟨b, 0, none⟩) n c] w (RetN B a len cap g w) := by
  have H := hide h
  have HC := hide hc
  have hgs := hide h.high
  have hlt := h.lt
  clear h hc
  go_enter Tryd.func30, Tryd.ntmps30
  go_wp2_with fail
  refine (below_rd B a len cap g _ H.out (n : Int) (by omega) (by omega)).mono ?_
  rintro e wa ⟨x, hx0, hx1, rfl, hr, hg⟩
  obtain ⟨j, rfl⟩ := Int.eq_ofNat_of_zero_le hx0
  obtain ⟨v, hv, v1, v2⟩ := HC.out j (by omega)
  have hv2 : wa.cell? ⟨b, j, none⟩ = some (.int .i64 v) := by rw [World.cell?_of_block (w := w) (hg.block b hb (fun e => hbg (Option.some.inj e)))]; exact hv
  have hj : (j : Int) < (n : Int) := by omega
  have HR := hide hr
  have HG := hide hg
  clear hr hg hv hx1
  go_wp2_with fail
  go_ret
  exact ⟨v, v1, v2, rfl, HR.out, grown_below HG.out hgs.out (by have := hgs.out; omega)⟩

theorem lits_at (w : World) (L : List Int) (t : TypeId) (hL : L.all (fun v => decide (-9223372036854775808 ≤ v) && decide (v ≤ 9223372036854775807)) = true) :
    ∀ j, j < L.length → ∃ v : Int, (w.alloc (.cells (L.map (Value.int .i64)).toArray t)).cell? ⟨w.heap.size, j, none⟩ = some (.int .i64 v) ∧ -9223372036854775808 ≤ v ∧ v ≤ 9223372036854775807 := by
  intro j hj
  refine ⟨L[j], ?_, ?_⟩
  · rw [World.cell?_alloc_mark]
    simp [hj]
  · have := List.all_eq_true.1 hL L[j] (List.getElem_mem hj)
    simpa using this

def numLits : List Int := [-1, 0, 127, 128, 255, 256, 16383, 16384, 65535, 65536, 562949953421311, 562949953421312, 999999999, 1000000000, -999999999, 9223372036854775807, -9223372036854775808]

set_option maxHeartbeats 4000000 in
theorem num_rd (B : Nat) (a : Option Addr) (len cap g : Nat) (w : World) (h : Rd B a len cap w g) :
    Calls Tryd.prog 22 #[.pointer (some ⟨g, 0, none⟩)] w (RetN B a len cap g w) := by
  have H := hide h
  have hgs := h.high
  have hlt := h.lt
  have hbs : B ≤ w.heap.size := by omega
  clear h
  go_enter Tryd.func22, Tryd.ntmps22
  go_wp2_with fail
  refine (below_rd B a len cap g _ H.out 8 (by omega) (by omega)).mono ?_
  rintro e wa ⟨k, hk0, hk1, rfl, hr, hg⟩
  have HR := hide hr
  have HB := hide (grown_below hg hgs hbs)
  have hltA := hr.lt
  have hsA := hg.size
  clear hr hg
  by_cases k0 : k = 0
  · subst k0
    go_wp2_with fail
    refine (pick_rd B a len cap g _ (HR.out.alloc _) wa.heap.size 17 17 (by omega) (by omega) (by omega) (by simp) (lits_at wa numLits 3 (by decide))).mono ?_
    rintro e wb ⟨x, x1, x2, rfl, hr2, hb2⟩
    have HR2 := hide hr2
    have HB2 := hide hb2
    clear hr2 hb2
    go_wp2_with fail
    go_ret
    exact ⟨x, x1, x2, rfl, HR2.out, (HB.out.alloc (by omega) _).trans HB2.out⟩
  · by_cases k1 : k = 1
    · subst k1
      go_wp2_with fail
      refine (below_rd B a len cap g _ HR.out 1000000000 (by omega) (by omega)).mono ?_
      rintro e wb ⟨x, x1, x2, rfl, hr2, hg2⟩
      have HR2 := hide hr2
      have HB2 := hide (grown_below hg2 hgs (by omega))
      have hs2 := hg2.size
      clear hr2 hg2
      go_wp2_with fail
      refine (below_rd B a len cap g _ HR2.out 1000000000 (by omega) (by omega)).mono ?_
      rintro e wc ⟨y, y1, y2, rfl, hr3, hg3⟩
      have HR3 := hide hr3
      have HB3 := hide (grown_below hg3 hgs (by omega))
      clear hr3 hg3
      obtain ⟨p, hp⟩ : ∃ p, p = x * y := ⟨_, rfl⟩
      have hp0 : 0 ≤ p := by rw [hp]; exact Int.mul_nonneg x1 y1
      have hp1 : p ≤ 999999999 * 999999999 := by rw [hp]; exact Int.mul_le_mul (by omega) (by omega) y1 (by omega)
      have hw : wrap64 (x * y) = p := by rw [← hp]; exact IntWalk.wrap64_in _ (by omega)
      have HW := hide hw
      clear hp hw
      go_wp2_with fail
      go_ret
      exact ⟨p, by omega, by omega, by show Ending.returned (.int .i64 (wrap64 (x * y))) = _; rw [HW.out], HR3.out, HB.out.trans (HB2.out.trans HB3.out)⟩
    · by_cases k2 : k = 2
      · subst k2
        go_wp2_with fail
        refine (below_rd B a len cap g _ HR.out 100000 (by omega) (by omega)).mono ?_
        rintro e wb ⟨x, x1, x2, rfl, hr2, hg2⟩
        have HR2 := hide hr2
        have HB2 := hide (grown_below hg2 hgs (by omega))
        clear hr2 hg2
        go_wp2_with fail
        go_ret
        exact ⟨-x, by omega, by omega, rfl, HR2.out, HB.out.trans HB2.out⟩
      · go_wp2_with fail
        refine (below_rd B a len cap g _ HR.out 70000 (by omega) (by omega)).mono ?_
        rintro e wb ⟨x, x1, x2, rfl, hr2, hg2⟩
        have HR2 := hide hr2
        have HB2 := hide (grown_below hg2 hgs (by omega))
        clear hr2 hg2
        go_wp2_with fail
        go_ret
        exact ⟨x, by omega, by omega, rfl, HR2.out, HB.out.trans HB2.out⟩

/-- A text of at most m bytes is returned. -/
def RetT (B : Nat) (a : Option Addr) (len cap g : Nat) (w : World) (m : Nat) (e : Ending) (w' : World) : Prop := ∃ l : List UInt8, l.length ≤ m ∧ e = .returned (.string ⟨l.toArray⟩) ∧ Rd B a len cap w' g ∧ Below B w w'

theorem own_apart {w : World} {base : Nat} {e t : TypeId} {v : Value} {l : List UInt8} {g : Nat} {cs : Array Value} (h : Bs w base e v l) (hg : w.heap[g]? = some (.cells cs t (0, 0))) (he : e ≠ t) : v.ownBlock ≠ some g := by
  intro hv
  rcases h.2 with ⟨rfl, _⟩ | ⟨k, cap, cur, rfl, _, hk, _⟩
  · simp [Value.ownBlock] at hv
  · simp [Value.ownBlock] at hv
    subst hv
    rw [hg] at hk
    simp at hk
    exact he hk.2.symm

theorem Bs.grown {w w' : World} {base : Nat} {e : TypeId} {v : Value} {l : List UInt8} {g : Nat} (h : Bs w base e v l) (hg : w.grownBy w' (some g)) (hne : v.ownBlock ≠ some g) : Bs w' base e v l :=
  World.ownsRow.kept h hg (.inr hne)

/-- out = append(out, byte(x)), with what is said of the blocks that were there. -/
theorem bs_append2 {P : Program} (W : World) {ops : Array Oper} {rest : List Oper} {o : Oper} {a : Act} {Q : Exit → Act → World → Prop} (hgd : o.guard = none) (s x : Operand) (t : TypeId)
    (ho : o.op = .call { callee := .builtin .append, args := #[s, x], argTypes := #[t, t] })
    (base : Nat) (e : TypeId) (ht : P.underlying t = some (.slice e)) (hinf : (P.info? e).map (fun i => (i.zero, i.size, i.bytes)) = some (some (.int .u8 0), 1, 1))
    (v : Value) (l : List UInt8) (hown : Bs W base e v l) (hs : a.eval s = v) (b : Int) (c : Nat) (h0 : 0 ≤ b) (h1 : b ≤ 255)
    (hx : a.eval x = .slice (some ⟨W.heap.size, 0, none⟩) 1 c) (hlen : l.length < 140737488355328) (hbase : base ≤ W.heap.size)
    (h : ∀ v' w', Bs w' base e v' (l ++ [UInt8.ofNat b.toNat]) → Below base W w' → (∀ k, k < W.heap.size → some k ≠ v.ownBlock → w'.heap[k]? = W.heap[k]?) → wpList P ops Q rest (a.put o.dst v') w') :
    wpList P ops Q (o :: rest) a (W.alloc (.cells #[.int .u8 b] e)) := by
  obtain ⟨i0, hi, hz0, hz1, hz2⟩ := info_parts hinf
  refine wpList_append_own _ hgd s x t ho base e i0 (.int .u8 0) 1 1 ht hi hz0 hz1 hz2 rfl (by decide) v l.length (byteVs l) hs (hown.alloc _) ⟨W.heap.size, 0, none⟩ 1 c [.int .u8 b] hx rfl ?_ ?_ ?_ ?_ ?_ ?_
  · intro j u hj
    match j, hj with
    | 0, hj => simp at hj; subst hj; simp [Addr.add]
  · intro u hu; simp at hu; subst hu; rfl
  · unfold maxLen; omega
  · omega
  · simp; omega
  · intro v' w' hown' hgrow _
    refine h v' w' ?_ ?_ ?_
    · unfold Bs
      rw [byteVs_append, byteVs_one h0 h1, List.length_append]
      exact hown'
    · exact (((Below.refl base W).alloc hbase _).grown hgrow (by simp; omega) (fun k hk => (World.ownsRow.lt hown k hk).1))
    · intro k hk hne
      rw [hgrow.block k (by simp; omega) hne, Below.heap_alloc _ _ _ hk]

set_option maxHeartbeats 4000000 in
theorem text_rd (B : Nat) (a : Option Addr) (len cap g : Nat) (w : World) (h : Rd B a len cap w g) (most : Nat) (hm : most ≤ 1000) :
    Calls Tryd.prog 23 #[.pointer (some ⟨g, 0, none⟩), .int .i64 most] w (RetT B a len cap g w most) := by
  have h0 := h.alloc (.cells #[] 5)
  have hgs := h.high
  have hlt := h.lt
  have hbs : B ≤ w.heap.size := by omega
  have HB0 := hide ((Below.refl B w).alloc hbs (.cells #[] 5))
  have HO := hide (Bs.made0 w B 5 hbs)
  have HR0 := hide h0
  clear h h0
  go_enter Tryd.func23, Tryd.ntmps23
  go_wp2_with fail
  refine (below_rd B a len cap g _ HR0.out 4 (by omega) (by omega)).mono ?_
  rintro e wa ⟨st, st0, st1, rfl, hr, hg⟩
  have hap : (Value.slice (some ⟨w.heap.size, 0, none⟩) 0 0).ownBlock ≠ some g := by simp [Value.ownBlock]; omega
  have HO1 := hide (HO.out.grown hg hap)
  have HB1 := hide (HB0.out.trans (grown_below hg hgs (by simp; omega)))
  have HR1 := hide hr
  have hsA := hg.size
  clear hr hg
  go_wp2_with fail
  refine (below_rd B a len cap g _ HR1.out ((most : Int) + 1) (by omega) (by omega)).mono ?_
  rintro e wb ⟨n, n0, n1, rfl, hr, hg⟩
  have HO2 := hide (HO1.out.grown hg hap)
  have HB2 := hide (HB1.out.trans (grown_below hg hgs (by have := HB1.out.size; omega)))
  have HR2 := hide hr
  clear hr hg
  obtain ⟨N, rfl⟩ := Int.eq_ofNat_of_zero_le n0
  have hN : N ≤ most := by omega
  clear n1 n0
  go_wp2_with fail
  go_loopw [5, 7, 8] (fun v nn _ wr => ∃ (k : Nat) (l : List UInt8), k ≤ N ∧ nn = .int .i64 k ∧ l.length + k = N ∧ Bs wr B 5 v l ∧ Hid (v.ownBlock ≠ some g) ∧ Rd B a len cap wr g ∧ Below B w wr) (fun _ nn _ _ => (intOf nn).toNat)
  case atStart => exact ⟨N, [], by omega, rfl, by simp, HO2.out, hap, HR2.out, HB2.out⟩
  case round =>
    obtain ⟨k, l, hk, rfl, hlk, hown, hap2, hr, hb⟩ := hrel
    have HLK := hide hlk
    have hll : l.length ≤ 1000 := by omega
    have HOW := hide hown
    have HR := hide hr
    have HBR := hide hb
    have hszr := hb.size
    have hltr := hr.lt
    clear hlk hown hr hb
    by_cases hk0 : k = 0
    · subst hk0
      have hcv := conv_bs (P := Tryd.prog) 22 9 5 Tryd.underlying22 Tryd.underlying5 Tryd.underlying9 wr _ _ _ HOW.out
      go_wp2
      go_ret
      exact ⟨l, by have := HLK.out; omega, rfl, HR.out, HBR.out⟩
    · go_wp2_with fail
      refine (byte_rd B a len cap g _ HR.out).mono ?_
      rintro e wc ⟨x, x0, x1, rfl, hr2, hg2⟩
      have hown := HOW.out.grown hg2 hap2.out
      have HB3 := hide (HBR.out.trans (grown_below hg2 hgs (by omega)))
      have HR3 := hide hr2
      have hszc := hg2.size
      obtain ⟨ic, hc, hhc, _⟩ := hr2.cur
      have HH3 := hide hhc
      clear hr2 hg2 hhc
      by_cases st1' : st = 1
      · subst st1'
        go_wp2_with (first | (at_builtin; refine bs_append2 _ rfl _ _ 22 rfl B 5 Tryd.underlying22 infoB _ l hown rfl _ _ (by omega) (by omega) rfl (by omega) (by omega) ?_; intro v2 w2 hown2 hb2 hk2) | fail)
        have hg3 : w2.heap[g]? = wc.heap[g]? := hk2 g (by omega) (fun e => hap2.out e.symm)
        have hr4 := HR3.out.step hb2 hg3
        have hap3 := own_apart hown2 (hg3.trans HH3.out) (by decide)
        have HX := hide hown2
        have HR4 := hide hr4
        have HAP := hide hap3
        have HB4 := hide (HB3.out.trans hb2)
        clear hown2 hr4 hap3 hb2 hk2 hg3
        go_roundw
        case rel => exact ⟨k - 1, l ++ [_], by omega, by go_num, by have := HLK.out; simp; omega, HX.out, HAP.out, HR4.out, HB4.out⟩
        case measure => simp [intOf]; omega
      · by_cases st2 : st = 2
        · subst st2
          go_wp2_with (first | (at_builtin; refine bs_append2 _ rfl _ _ 22 rfl B 5 Tryd.underlying22 infoB _ l hown rfl _ _ (by omega) (by omega) rfl (by omega) (by omega) ?_; intro v2 w2 hown2 hb2 hk2) | fail)
          have hg3 : w2.heap[g]? = wc.heap[g]? := hk2 g (by omega) (fun e => hap2.out e.symm)
          have hr4 := HR3.out.step hb2 hg3
          have hap3 := own_apart hown2 (hg3.trans HH3.out) (by decide)
          have HX := hide hown2
          have HR4 := hide hr4
          have HAP := hide hap3
          have HB4 := hide (HB3.out.trans hb2)
          clear hown2 hr4 hap3 hb2 hk2 hg3
          go_roundw
          case rel => exact ⟨k - 1, l ++ [_], by omega, by go_num, by have := HLK.out; simp; omega, HX.out, HAP.out, HR4.out, HB4.out⟩
          case measure => simp [intOf]; omega
        · go_wp2_with (first | (at_builtin; refine bs_append2 _ rfl _ _ 22 rfl B 5 Tryd.underlying22 infoB _ l hown rfl _ _ (by omega) (by omega) rfl (by omega) (by omega) ?_; intro v2 w2 hown2 hb2 hk2) | fail)
          have hg3 : w2.heap[g]? = wc.heap[g]? := hk2 g (by omega) (fun e => hap2.out e.symm)
          have hr4 := HR3.out.step hb2 hg3
          have hap3 := own_apart hown2 (hg3.trans HH3.out) (by decide)
          have HX := hide hown2
          have HR4 := hide hr4
          have HAP := hide hap3
          have HB4 := hide (HB3.out.trans hb2)
          clear hown2 hr4 hap3 hb2 hk2 hg3
          go_roundw
          case rel => exact ⟨k - 1, l ++ [_], by omega, by go_num, by have := HLK.out; simp; omega, HX.out, HAP.out, HR4.out, HB4.out⟩
          case measure => simp [intOf]; omega

/-- A drawn number; a drawn text; two drawn numbers. -/
def RetDn (w : World) (e : Ending) (w' : World) : Prop := ∃ x : Int, -9223372036854775808 ≤ x ∧ x ≤ 9223372036854775807 ∧ e = .returned (.int .i64 x) ∧ Below w.heap.size w w'
def RetDt (w : World) (e : Ending) (w' : World) : Prop := ∃ l : List UInt8, l.length ≤ 40 ∧ e = .returned (.string ⟨l.toArray⟩) ∧ Below w.heap.size w w'
def RetDnn (w : World) (e : Ending) (w' : World) : Prop := ∃ x y : Int, -9223372036854775808 ≤ x ∧ x ≤ 9223372036854775807 ∧ -1 ≤ y ∧ y ≤ 8 ∧ e = .returned (.tuple #[.int .i64 x, .int .i64 y]) ∧ Below w.heap.size w w'

theorem drawVarint_any (a : Option Addr) (len cap : Nat) (w : World) (hcode : CodeAt w a len cap) (hlen : len ≤ 1048576) : Calls Tryd.prog 7 #[.slice a len cap] w (RetDn w) := by
  have H := hide hcode
  clear hcode
  go_enter Tryd.func7, Tryd.ntmps7
  go_wp2_with fail
  refine (new_any a len cap _ H.out hlen).mono ?_
  rintro e wa ⟨g, rfl, hr, hb⟩
  have HR := hide hr
  have HB := hide hb
  clear hr hb
  go_wp2_with fail
  refine (num_rd _ a len cap g _ HR.out).mono ?_
  rintro e wb ⟨x, x1, x2, rfl, hr, hb⟩
  have HB2 := hide hb
  clear hr hb
  go_wp2_with fail
  go_ret
  exact ⟨x, x1, x2, rfl, HB.out.trans HB2.out⟩

theorem drawHex_any (a : Option Addr) (len cap : Nat) (w : World) (hcode : CodeAt w a len cap) (hlen : len ≤ 1048576) : Calls Tryd.prog 8 #[.slice a len cap] w (RetDt w) := by
  have H := hide hcode
  clear hcode
  go_enter Tryd.func8, Tryd.ntmps8
  go_wp2_with fail
  refine (new_any a len cap _ H.out hlen).mono ?_
  rintro e wa ⟨g, rfl, hr, hb⟩
  have HR := hide hr
  have HB := hide hb
  clear hr hb
  go_wp2_with fail
  refine (text_rd _ a len cap g _ HR.out 40 (by omega)).mono ?_
  rintro e wb ⟨l, l1, rfl, hr, hb⟩
  have HB2 := hide hb
  clear hr hb
  go_wp2_with fail
  go_ret
  exact ⟨l, l1, rfl, HB.out.trans HB2.out⟩

theorem drawFixed_any (a : Option Addr) (len cap : Nat) (w : World) (hcode : CodeAt w a len cap) (hlen : len ≤ 1048576) : Calls Tryd.prog 11 #[.slice a len cap] w (RetDnn w) := by
  have H := hide hcode
  clear hcode
  go_enter Tryd.func11, Tryd.ntmps11
  go_wp2_with fail
  refine (new_any a len cap _ H.out hlen).mono ?_
  rintro e wa ⟨g, rfl, hr, hb⟩
  have HR := hide hr
  have HB := hide hb
  clear hr hb
  go_wp2_with fail
  refine (num_rd _ a len cap g _ HR.out).mono ?_
  rintro e wb ⟨x, x1, x2, rfl, hr, hb⟩
  have HR2 := hide hr
  have HB2 := hide hb
  have hlt := hr.lt
  have hgh := hr.high
  clear hr hb
  go_wp2_with fail
  refine (below_rd _ a len cap g _ HR2.out 10 (by omega) (by omega)).mono ?_
  rintro e wc ⟨y, y1, y2, rfl, hr, hg⟩
  have HB3 := hide (grown_below hg hgh (by omega))
  clear hr hg
  go_wp2_with fail
  go_ret2
  exact ⟨x, y - 1, x1, x2, by omega, by omega, rfl, HB.out.trans (HB2.out.trans HB3.out)⟩

end Go.Proofs.YtklegjmahopkbaaDoor
