/- What the program's DecodeHex returns, for every argument. -/
import Derived.Test.YtklegjmahopkbaaDoorUnhex
namespace Go.Proofs.YtklegjmahopkbaaDoor
open Go.RowKit
set_option linter.unusedSimpArgs false
set_option linter.unusedVariables false
set_option maxRecDepth 100000

/-- Byte j of the result when the first p digits have been read. -/
def partAt (s : ByteArray) (p j : Nat) : UInt8 := if 2 * j + 1 < p then pairAt s j else if 2 * j < p then UInt8.ofNat (fx s (2 * j)).toNat else 0
def partL (s : ByteArray) (p : Nat) : List UInt8 := (List.range (s.size / 2)).map (partAt s p)

theorem partL_length (s : ByteArray) (p : Nat) : (partL s p).length = s.size / 2 := by simp [partL]
theorem partL_zero (s : ByteArray) : partL s 0 = List.replicate (s.size / 2) 0 := by
  unfold partL
  rw [List.eq_replicate_iff]
  refine ⟨by simp, ?_⟩
  intro b hb
  simp only [List.mem_map] at hb
  obtain ⟨j, _, rfl⟩ := hb
  simp [partAt]

theorem Bs.iterAt {w : World} {base : Nat} {e : TypeId} {v : Value} {l : List UInt8} (h : Bs w base e v l) {k : Nat} {s : ByteArray} {p : Nat} (hk : w.heap[k]? = some (.stringIter s p)) (p' : Nat) : Bs (w.iterAt k s p') base e v l := by
  obtain ⟨h1, h2⟩ := h
  refine ⟨h1, ?_⟩
  rcases h2 with h2 | ⟨g, cap, cur, a, b, c, d⟩
  · exact .inl h2
  · refine .inr ⟨g, cap, cur, a, b, ?_, d⟩
    rw [Lib.iterAt_other _ _ _ _ _ (fun e => by subst e; rw [hk] at c; cases c)]
    exact c

theorem fx_le (s : ByteArray) (i : Nat) : -1 ≤ fx s i ∧ fx s i ≤ 15 := fromHex_le _

theorem partL_get (s : ByteArray) (p j : Nat) (h : j < (partL s p).length) : (partL s p)[j] = partAt s p j := by simp [partL]

/-- The byte that is there before digit p is read. -/
theorem part_low (s : ByteArray) (p : Nat) (hv : ∀ t, t < p → 0 ≤ fx s t) : (partAt s p (p / 2)).toNat = if p % 2 = 1 then (fx s (p - 1)).toNat else 0 := by
  unfold partAt
  rw [if_neg (by omega)]
  by_cases h : p % 2 = 1
  · rw [if_pos (by omega), if_pos h, show 2 * (p / 2) = p - 1 by omega]
    have := fx_le s (p - 1)
    simp; omega
  · rw [if_neg (by omega), if_neg h]; rfl

theorem part_step (s : ByteArray) (p : Nat) (hv : ∀ t, t < p → 0 ≤ fx s t) (ha : 0 ≤ fx s p) :
    (partL s p).set (p / 2) (UInt8.ofNat ((partAt s p (p / 2)).toNat * 16 + (fx s p).toNat)) = partL s (p + 1) := by
  apply List.ext_getElem
  · simp [partL]
  · intro j h1 h2
    rw [List.getElem_set]
    simp only [partL_get]
    by_cases hj : p / 2 = j
    · rw [if_pos hj]
      subst hj
      rw [part_low s p hv]
      unfold partAt
      by_cases h : p % 2 = 1
      · rw [if_pos h, if_pos (by omega)]
        unfold pairAt
        rw [show 2 * (p / 2) = p - 1 by omega, show p - 1 + 1 = p by omega]
        have := hv (p - 1) (by omega)
        congr 1
        omega
      · rw [if_neg h, if_neg (by omega), if_pos (by omega), show 2 * (p / 2) = p by omega]
        simp
    · rw [if_neg hj]
      unfold partAt
      by_cases c1 : 2 * j + 1 < p
      · rw [if_pos c1, if_pos (by omega)]
      · have n1 : ¬ 2 * j < p := by omega
        have n2 : ¬ 2 * j + 1 < p + 1 := by omega
        have n3 : ¬ 2 * j < p + 1 := by omega
        rw [if_neg c1, if_neg n1, if_neg n2, if_neg n3]

theorem partL_all (s : ByteArray) (h : s.size % 2 = 0) : partL s s.size = (List.range (s.size / 2)).map (pairAt s) := by
  unfold partL
  apply List.map_congr_left
  intro j hj
  unfold partAt
  rw [if_pos (by have := List.mem_range.1 hj; omega)]

theorem or_nib (x : Nat) (a : Int) (hx : x < 16) (h0 : 0 ≤ a) (h1 : a ≤ 15) : bits .or .u8 ((x : Int) * 16 % 256) a = ((x * 16 + a.toNat : Nat) : Int) := by
  obtain ⟨A, rfl⟩ := Int.eq_ofNat_of_zero_le h0
  have e : ((x : Int) * 16 % 256) = ((x * 16 : Nat) : Int) := by omega
  rw [e, u8_or_nat _ _ (by omega) (by omega), nat_join 4 (x * 16) A (by omega) (by omega)]
  rfl

set_option maxHeartbeats 1000000 in
theorem iDH_even (s : ByteArray) (w : World) (hs : s.size ≤ 1048576) (heven : Hid (s.size % 2 = 0)) (ht : ((s.size : Int) % 2 != 0) = false) :
    Calls Tryd.prog 16 #[.string s] w (RetSB w (DecH s)) := by
  go_enter Tryd.func16, Tryd.ntmps16
  go_wp2_with (first | (at_make; refine bs_make _ rfl _ _ 22 rfl w.heap.size 5 Tryd.underlying22 infoB (s.size / 2) _ _ rfl rfl (by omega) (by omega) (by omega) (Nat.le_refl _) ?_; intro w1 hown1 hb1 hs1))
  go_loopw [5, 6, 7, 8] (fun _ _ _ _ wr => ∃ (p : Nat), p ≤ s.size ∧ wr.heap[w1.heap.size]? = some (.stringIter s p) ∧ Hid (∀ t, t < p → 0 ≤ fx s t) ∧ Bs wr w.heap.size 5 (.slice (some ⟨w.heap.size, 0, none⟩) (s.size / 2) (s.size / 2)) (partL s p) ∧ Below w.heap.size w wr) (fun _ _ _ _ wr => s.size - wr.iterPos w1.heap.size)
  case atStart => exact ⟨0, by omega, World.iter_heap w1 s 0, fun t h => by omega, by rw [partL_zero]; exact hown1.alloc _, hb1.alloc (by omega) _⟩
  case round =>
    obtain ⟨p, hp, hit, hval, hown, hb⟩ := hrel
    clear hown1 hb1
    by_cases hl : p < s.size
    · by_cases hasc : s[p].toNat < 128
      · have hnx : ∀ ty, (Instr.next (.pointer (some ⟨w1.heap.size, 0, none⟩)) true ty).run Tryd.prog wr = _ := fun ty => Lib.run_next_ascii_at wr w1.heap.size s p ty hit hl hasc
        have hit2 := Lib.iterAt_heap wr w1.heap.size s p (p + 1) hit
        have hb2 := Lib.below_iterAt hb (k := w1.heap.size) (by omega) s (p + 1)
        have hown2 := hown.iterAt hit (p + 1)
        have HP := hide (iterPos_of hit)
        have HP2 := hide (iterPos_of hit2)
        obtain ⟨W1, hW1⟩ : ∃ W1, W1 = wr.iterAt w1.heap.size s (p + 1) := ⟨_, rfl⟩
        rw [← hW1] at hnx hit2 hb2 hown2 HP2
        clear hW1 hit hown hb
        obtain ⟨a, ha⟩ : ∃ a, a = fx s p := ⟨_, rfl⟩
        have hle := fromHex_le (s[p].toNat : Nat)
        have HY := hide (fun (W : World) (hh : 0 ≤ fromHex ((s[p].toNat : Nat) : Int)) => hv_yes ((s[p].toNat : Nat) : Int) W (by omega) (by omega) hh)
        have HN := hide (fun (W : World) (hh : fromHex ((s[p].toNat : Nat) : Int) < 0) => hv_no ((s[p].toNat : Nat) : Int) W (by omega) (by omega) hh)
        rw [← fx_at s p hl, ← ha] at hle HY HN
        have Ha := hide ha
        clear ha
        by_cases ca : a < 0
        · have hv := hide (DecH_bad s p hl (by rw [← Ha.out]; exact ca))
          go_wp2_with (first | (go_at_call 27; (with_reducible refine (HN.out _ ca).mono ?_); rintro e wa ⟨rfl, rfl⟩))
          go_ret2
          exact ⟨by rw [hv.out]; rfl, hb2⟩
        · obtain ⟨hc, hf, hg1, hg2, -⟩ := hown2.cell (p / 2) (by have := heven.out; rw [partL_length]; omega)
          obtain ⟨x, hx⟩ : ∃ x, x = ((partL s p)[p / 2]'(by have := heven.out; rw [partL_length]; omega)).toNat := ⟨_, rfl⟩
          rw [← hx] at hc
          have HX := hide hx
          clear hx
          have hpg : (partL s p)[p / 2]'(by have := heven.out; rw [partL_length]; omega) = partAt s p (p / 2) := partL_get s p _ _
          have hx16 : x < 16 := by
            have h1 := part_low s p hval.out
            have h2 := fx_le s (p - 1)
            rw [HX.out, hpg, h1]
            split <;> omega
          have hor := or_nib x a hx16 (by omega) hle.2
          obtain ⟨y, hy⟩ : ∃ y, y = x * 16 + a.toNat := ⟨_, rfl⟩
          rw [← hy] at hor
          have hst := (hown2.store (by rw [partL_length]) (p / 2) (x := (y : Int)) (by omega) (by omega)).1
          have hset : Hid ((partL s p).set (p / 2) (UInt8.ofNat ((y : Int)).toNat) = partL s (p + 1)) := by
            show _ = _
            have h1 := part_step s p hval.out (by rw [← Ha.out]; omega)
            rw [← hpg, ← HX.out, ← Ha.out, ← hy] at h1
            simpa using h1
          rw [hset.out] at hst
          have HST := hide hst
          have hix : (p : Int) / 2 < (s.size : Int) / 2 := by have := heven.out; omega
          have hyb : Hid (y < 256) := by show y < 256; omega
          have hlt2 : w.heap.size ≠ w1.heap.size := by omega
          have hit3 : Hid ((W1.setCell ⟨w.heap.size, p / 2, none⟩ (.int .u8 (y : Int))).heap[w1.heap.size]? = some (.stringIter s (p + 1))) := by
            show _ = _
            rw [Below.heap_setCell _ _ _ _ (by simpa using hlt2.symm)]
            exact hit2
          clear hst hy hpg hx16 hset hit2
          go_wp2_with (first | (go_at_call 27; (with_reducible refine (HY.out _ (by omega)).mono ?_); rintro e wa ⟨rfl, rfl⟩))
          go_roundw
          case rel =>
            refine ⟨p + 1, by omega, hit3.out, ?_, HST.out, hb2.setCell (Nat.le_refl _) _⟩
            intro t hh
            by_cases h1 : t < p
            · exact hval.out t h1
            · obtain rfl : t = p := by omega
              rw [← Ha.out]; omega
          case measure =>
            rw [iterPos_of hit3.out, HP.out]
            omega
      · have hnx : ∀ ty, (Instr.next (.pointer (some ⟨w1.heap.size, 0, none⟩)) true ty).run Tryd.prog wr = _ := fun ty => Lib.run_next_any_at wr w1.heap.size s p ty hit hl
        have hb2 := Lib.below_iterAt hb (k := w1.heap.size) (by omega) s (p + (Utf8.decode s p).2)
        obtain ⟨W1, hW1⟩ : ∃ W1, W1 = wr.iterAt w1.heap.size s (p + (Utf8.decode s p).2) := ⟨_, rfl⟩
        have hd := (decode_high s p hl (by omega)).1
        have hd2 := decode_le s p
        rw [← hW1] at hnx hb2
        obtain ⟨r, hr⟩ : ∃ r, r = (Utf8.decode s p).1 := ⟨_, rfl⟩
        rw [← hr] at hnx hd hd2
        have hneg : ∀ b : Int, 128 ≤ b → fromHex b < 0 := by intro b hb3; unfold fromHex; rw [if_neg (by omega), if_neg (by omega)]; omega
        have hv := hide (DecH_bad s p hl (by rw [fx_at s p hl]; exact hneg _ (by omega)))
        have HN := hide (fun (W : World) => hv_no (r : Int) W (by omega) (by omega) (hneg _ (by omega)))
        clear hW1 hit hown hb hr hneg hd hd2
        go_wp2_with (first | (go_at_call 27; (with_reducible refine (HN.out _).mono ?_); rintro e wa ⟨rfl, rfl⟩))
        go_ret2
        exact ⟨by rw [hv.out]; rfl, hb2⟩
    · have hend : p = s.size := by omega
      subst hend
      have hv := hide (DecH_good s heven.out hval.out)
      have hP := hide (partL_all s heven.out)
      have hcv := conv_bs (P := Tryd.prog) 22 9 5 Tryd.underlying22 Tryd.underlying5 Tryd.underlying9 wr _ _ _ hown
      have hnx : ∀ ty, (Instr.next (.pointer (some ⟨w1.heap.size, 0, none⟩)) true ty).run Tryd.prog wr = _ := fun ty => Lib.run_next_end_at wr w1.heap.size s s.size ty hit hl
      go_wp2
      go_ret2
      exact ⟨by rw [hv.out, ← hP.out]; rfl, hb⟩

set_option maxHeartbeats 1000000 in
theorem iDH_any (s : ByteArray) (w : World) (hs : s.size ≤ 1048576) :
    Calls Tryd.prog 16 #[.string s] w (RetSB w (DecH s)) := by
  by_cases hodd : s.size % 2 = 1
  · have hv := hide (DecH_odd s hodd)
    have ht : ((s.size : Int) % 2 != 0) = true := by rw [bne_iff_ne]; omega
    clear hodd
    go_enter Tryd.func16, Tryd.ntmps16
    go_wp2
    go_ret2
    exact ⟨by rw [hv.out]; rfl, Below.refl _ _⟩
  · exact iDH_even s w hs (show s.size % 2 = 0 by omega) (by rw [bne_eq_false_iff_eq]; omega)

end Go.Proofs.YtklegjmahopkbaaDoor
