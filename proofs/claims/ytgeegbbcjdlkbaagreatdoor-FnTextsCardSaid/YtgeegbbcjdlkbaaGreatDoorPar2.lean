/- What the program's ParseInt returns, for every argument. -/
import Derived.Test.YtgeegbbcjdlkbaaGreatDoorPar
namespace Go.Proofs.YtgeegbbcjdlkbaaGreatDoor
open Go.RowKit
set_option linter.unusedSimpArgs false
set_option linter.unusedVariables false
set_option maxRecDepth 100000

theorem isDig_of (k : Nat) (h : k < 10) : isDig (UInt8.ofNat (48 + k)) = true := by
  have : (UInt8.ofNat (48 + k)).toNat = 48 + k := by simp; omega
  unfold isDig
  rw [this]
  simp; omega

theorem decDigits_all (u : Nat) : ∀ b ∈ Lib.decDigits u, isDig b = true := by
  induction u using Nat.strongRecOn with
  | _ u ih =>
    intro b hb
    rw [Lib.decDigits] at hb
    split at hb
    · rename_i h
      simp only [List.mem_singleton] at hb
      rw [hb]
      exact isDig_of u h
    · rename_i h
      rcases List.mem_append.1 hb with h1 | h1
      · exact ih (u / 10) (by omega) b h1
      · simp only [List.mem_singleton] at h1
        rw [h1]
        exact isDig_of (u % 10) (by omega)

theorem decDigits_head (u : Nat) : (Lib.decDigits u).head? ≠ some 45 := by
  intro h
  have hm : (45 : UInt8) ∈ Lib.decDigits u := List.mem_of_mem_head? (by rw [h]; rfl)
  have := decDigits_all u 45 hm
  revert this
  decide

/-- D is L without its sign. -/
def Strip (L D : List UInt8) (neg : Bool) : Prop := if neg then L = 45 :: D else L = D ∧ L.head? ≠ some 45

theorem strip_digits {L D : List UInt8} {neg : Bool} (h : Strip L D neg) {x : Int} (hx : Lib.itoa x = L) : ∀ b ∈ D, isDig b = true := by
  unfold Lib.itoa at hx
  cases neg
  · obtain ⟨h1, h2⟩ := h
    subst h1
    split at hx
    · exact absurd (by rw [← hx]; rfl) h2
    · rw [← hx]; exact decDigits_all _
  · have h1 : L = 45 :: D := h
    rw [h1] at hx
    split at hx
    · have : Lib.decDigits x.natAbs = D := by simpa using hx
      rw [← this]; exact decDigits_all _
    · exact absurd (by rw [hx]; rfl) (decDigits_head x.toNat)

theorem accS_count (D : List UInt8) (h : ∀ b ∈ D, isDig b = true) : (accS D).2 = D.length := by
  suffices hh : ∀ r : List UInt8, (∀ b ∈ r, isDig b = true) → (accS r.reverse).2 = r.length by
    have := hh D.reverse (fun b hb => h b (List.mem_reverse.1 hb))
    simpa using this
  intro r
  induction r with
  | nil => intro _; rfl
  | cons b r ih =>
    intro hr
    rw [List.reverse_cons, accS_snoc, if_pos (hr b List.mem_cons_self)]
    simp only [List.length_cons]
    rw [ih (fun c hc => hr c (List.mem_cons_of_mem _ hc))]

theorem accS_sign (D : List UInt8) : accS (45 :: D) = accS D := by
  unfold accS
  rw [List.foldl_cons]
  rfl

theorem strip_acc {L D : List UInt8} {neg : Bool} (h : Strip L D neg) : accS L = accS D := by
  cases neg
  · rw [h.1]
  · rw [show L = 45 :: D from h, accS_sign]

theorem strip_len {L D : List UInt8} {neg : Bool} (h : Strip L D neg) : D.length ≤ L.length ∧ L.length ≤ D.length + 1 := by
  cases neg
  · rw [h.1]; omega
  · rw [show L = 45 :: D from h]; simp

theorem strip_num {L D : List UInt8} {neg : Bool} (h : Strip L D neg) (hl : L.length ≤ 11) : numS L = if neg then -((accS D).1 : Int) else ((accS D).1 : Int) := by
  unfold numS
  rw [List.take_of_length_le hl, strip_acc h]
  cases neg
  · rw [if_neg h.2]; rfl
  · rw [if_pos (by rw [show L = 45 :: D from h]; rfl)]; rfl

theorem par_long {L D : List UInt8} {neg : Bool} (h : Strip L D neg) (hl : 9 < D.length) : ParI L = (0, false) := by
  unfold ParI
  rw [if_neg]
  rintro ⟨h1, h2, h3⟩
  rw [List.take_of_length_le (by omega), strip_acc h, accS_count D (strip_digits h h3)] at h1
  omega
theorem par_bad {L D : List UInt8} {neg : Bool} (h : Strip L D neg) (b : UInt8) (hb : b ∈ D) (hd : isDig b = false) : ParI L = (0, false) := by
  unfold ParI
  rw [if_neg]
  rintro ⟨h1, h2, h3⟩
  have := strip_digits h h3 b hb
  rw [hd] at this; cases this
theorem par_fine {L D : List UInt8} {neg : Bool} (h : Strip L D neg) (hl : D.length ≤ 9) (hd : ∀ b ∈ D, isDig b = true) (x : Int) (hx : (if neg then -((accS D).1 : Int) else ((accS D).1 : Int)) = x) (b : Bool) (hb : (Lib.itoa x == L) = b) :
    ParI L = if b then (x, true) else (0, false) := by
  have hlen := strip_len h
  have hn := strip_num h (by omega)
  rw [hx] at hn
  unfold ParI
  rw [List.take_of_length_le (by omega), strip_acc h, accS_count D hd, hn]
  cases b
  · rw [if_neg (fun hh => by rw [hh.2.2] at hb; simp at hb)]; rfl
  · rw [if_pos ⟨hl, by omega, by simpa using hb⟩]; rfl

theorem strip_of (L : List UInt8) : Strip L (Lib.trimPrefix L [45]) (Lib.hasPrefix L [45]) := by
  cases L with
  | nil => exact ⟨rfl, by simp⟩
  | cons a r =>
    by_cases h : a = 45
    · subst h
      have e : Lib.hasPrefix (45 :: r) [45] = true := by simp [Lib.hasPrefix, List.isPrefixOf]
      rw [e]
      show (45 :: r : List UInt8) = 45 :: Lib.trimPrefix (45 :: r) [45]
      unfold Lib.trimPrefix
      rw [e]; rfl
    · have e : Lib.hasPrefix (a :: r) [45] = false := by simp [Lib.hasPrefix, List.isPrefixOf]; exact fun hh => h hh.symm
      rw [e]
      refine ⟨?_, by simp [h]⟩
      unfold Lib.trimPrefix
      rw [e]; rfl

set_option maxHeartbeats 2000000 in
theorem iPI_any (s : ByteArray) (w : World) (hs : s.size ≤ 1048576) (ht : Tab w) :
    Calls Tryz.prog 40 #[.string s] w (RetIB w (ParI s.data.toList)) := by
  have hst := strip_of s.data.toList
  have hcut := Tryz.strings_CutPrefix s ⟨#[45]⟩
  obtain ⟨ds, hds⟩ : ∃ ds : ByteArray, ds = ⟨(Lib.trimPrefix s.data.toList [45]).toArray⟩ := ⟨_, rfl⟩
  obtain ⟨neg, hneg⟩ : ∃ neg, neg = Lib.hasPrefix s.data.toList [45] := ⟨_, rfl⟩
  have hdd : Lib.trimPrefix s.data.toList [45] = ds.data.toList := by rw [hds]
  have HC : Hid (∀ W : World, Calls Tryz.prog 64 #[.string s, .string ⟨#[45]⟩] W fun e w' => e = .returned (.tuple #[.string ds, .bool neg]) ∧ W = w') := fun W => (hcut W).mono fun e w' hh => ⟨by rw [hh.1, hds, hneg], hh.2.symm⟩
  rw [hdd, ← hneg] at hst
  have HST := hide hst
  have HT := hide ht
  have hdl : ds.data.toList.length = ds.size := by simp
  have hlen := strip_len hst
  have hsl : s.data.toList.length = s.size := by simp
  clear hcut hds hneg hdd hst ht
  by_cases hlong : 9 < ds.size
  · have hv := hide (par_long HST.out (by omega))
    have hl2 : (9 : Int) < (ds.size : Int) := by omega
    go_enter Tryz.func40, Tryz.ntmps40
    go_wp2_with (go_at_call 64; refine (HC.out _).mono ?_; rintro e wa ⟨rfl, rfl⟩)
    go_ret2
    exact ⟨by rw [hv.out]; rfl, Below.refl _ _⟩
  · have hl2 : (ds.size : Int) ≤ 9 := by omega
    have hl3 : decide (9 < (ds.size : Int)) = false := by simp; omega
    clear hlen hsl hdl
    go_enter Tryz.func40, Tryz.ntmps40
    go_wp2_with (go_at_call 64; refine (HC.out _).mono ?_; rintro e wa ⟨rfl, rfl⟩)
    go_loopw [6, 8] (fun nn _ wr => ∃ (p n : Nat), p ≤ ds.size ∧ nn = .int .i64 n ∧ wr.heap[w.heap.size]? = some (.stringIter ds p) ∧ Hid ((n, p) = accS (ds.data.toList.take p)) ∧ Hid (∀ b ∈ ds.data.toList.take p, isDig b = true) ∧ Below w.heap.size w wr) (fun _ _ wr => ds.size - wr.iterPos w.heap.size)
    case atStart => exact ⟨0, 0, by omega, rfl, World.iter_heap w ds 0, rfl, fun b hb => by simp at hb, (Below.refl _ _).alloc (Nat.le_refl _) _⟩
    case round =>
      obtain ⟨p, n, hp, rfl, hit, hacc, hall, hb⟩ := hrel
      have hbd := (accS_lt (ds.data.toList.take p)).1
      have hbd2 : 10 ^ (ds.data.toList.take p).length ≤ 10 ^ 9 := Nat.pow_le_pow_right (by omega) (by simp; omega)
      rw [← hacc.out] at hbd
      have hn : n < 1000000000 := by simp only at hbd; omega
      clear hbd hbd2
      by_cases hl : p < ds.size
      · by_cases hasc : ds[p].toNat < 128
        · have hnx : ∀ ty, (Instr.next (.pointer (some ⟨w.heap.size, 0, none⟩)) true ty).run Tryz.prog wr = _ := fun ty => Lib.run_next_ascii_at wr w.heap.size ds p ty hit hl hasc
          have hit2 := Lib.iterAt_heap wr w.heap.size ds p (p + 1) hit
          have hb2 := Lib.below_iterAt hb (k := w.heap.size) (Nat.le_refl _) ds (p + 1)
          have HP := hide (iterPos_of hit)
          have HP2 := hide (iterPos_of hit2)
          obtain ⟨W1, hW1⟩ : ∃ W1, W1 = wr.iterAt w.heap.size ds (p + 1) := ⟨_, rfl⟩
          rw [← hW1] at hnx hit2 hb2 HP2
          have HIT := hide hit2
          clear hW1 hit hb hit2
          have hmem : ds[p] ∈ ds.data.toList := by
            have : ds.data.toList[p]'(by simpa using hl) = ds[p] := rfl
            rw [← this]; exact List.getElem_mem _
          have hsn := accS_snoc (ds.data.toList.take p) ds[p]
          rw [← take_snoc ds p hl, ← hacc.out] at hsn
          have HS := hide hsn
          clear hsn hacc
          by_cases c1 : 48 ≤ ds[p].toNat ∧ ds[p].toNat ≤ 57
          · have hd := hide (show isDig ds[p] = true by simp [isDig]; omega)
            obtain ⟨d1, d2⟩ := c1
            have d3 : (48 : Int) ≤ (ds[p].toNat : Int) := by omega
            have d4 : (ds[p].toNat : Int) ≤ 57 := by omega
            go_wp2
            go_roundw
            case rel =>
              refine ⟨p + 1, n * 10 + (ds[p].toNat - 48), by omega, by go_num, HIT.out, ?_, ?_, hb2⟩
              · show _ = _
                rw [HS.out, hd.out]; rfl
              · intro b hbm
                rw [take_snoc ds p hl] at hbm
                rcases List.mem_append.1 hbm with h1 | h1
                · exact hall.out b h1
                · simp only [List.mem_singleton] at h1
                  rw [h1]; exact hd.out
            case measure =>
              rw [HP2.out, HP.out]
              omega
          · have hv := hide (par_bad HST.out ds[p] hmem (by simp [isDig]; omega))
            by_cases d1 : (ds[p].toNat : Int) < 48
            · go_wp2
              go_ret2
              exact ⟨by rw [hv.out]; rfl, hb2⟩
            · have d2 : (57 : Int) < (ds[p].toNat : Int) := by omega
              go_wp2
              go_ret2
              exact ⟨by rw [hv.out]; rfl, hb2⟩
        · have hmem : ds[p] ∈ ds.data.toList := by
            have : ds.data.toList[p]'(by simpa using hl) = ds[p] := rfl
            rw [← this]; exact List.getElem_mem _
          have hnx : ∀ ty, (Instr.next (.pointer (some ⟨w.heap.size, 0, none⟩)) true ty).run Tryz.prog wr = _ := fun ty => Lib.run_next_any_at wr w.heap.size ds p ty hit hl
          have hb2 := Lib.below_iterAt hb (k := w.heap.size) (Nat.le_refl _) ds (p + (Utf8.decode ds p).2)
          obtain ⟨W1, hW1⟩ : ∃ W1, W1 = wr.iterAt w.heap.size ds (p + (Utf8.decode ds p).2) := ⟨_, rfl⟩
          have hd := (decode_high ds p hl (by omega)).1
          have hd2 := decode_le ds p
          rw [← hW1] at hnx hb2
          obtain ⟨r, hr⟩ : ∃ r, r = (Utf8.decode ds p).1 := ⟨_, rfl⟩
          rw [← hr] at hnx hd hd2
          have hv := hide (par_bad HST.out ds[p] hmem (by simp [isDig]; omega))
          have d2 : (57 : Int) < (r : Int) := by omega
          have d3 : ¬ (r : Int) < 48 := by omega
          clear hW1 hit hb hr hmem
          go_wp2
          go_ret2
          exact ⟨by rw [hv.out]; rfl, hb2⟩
      · have hend : p = ds.size := by omega
        subst hend
        rw [List.take_of_length_le (by simp)] at hacc hall
        have hnx : ∀ ty, (Instr.next (.pointer (some ⟨w.heap.size, 0, none⟩)) true ty).run Tryz.prog wr = _ := fun ty => Lib.run_next_end_at wr w.heap.size ds ds.size ty hit hl
        have hfine := par_fine HST.out (by simp; omega) hall.out
        rw [← hacc.out] at hfine
        simp only at hfine
        have HF := hide hfine
        clear hfine hacc hall hit
        cases neg
        · obtain ⟨b, hbt⟩ : ∃ b, (Lib.itoa (n : Int) == s.toList) = b := ⟨_, rfl⟩
          have hv := hide (HF.out (n : Int) rfl b (by rw [← ByteArray.toList_eq]; exact hbt))
          have HI := hide (fun W hT => iFI_any (n : Int) W (by omega) (by omega) hT)
          cases b
          all_goals
            go_wp2_with (go_at_call 42; refine (HI.out _ (HT.out.stays hb (Nat.le_refl _))).mono ?_; rintro e wa ⟨rfl, ha⟩)
            go_ret2
            exact ⟨by rw [hv.out]; rfl, hb.trans (ha.mono hb.size)⟩
        · obtain ⟨b, hbt⟩ : ∃ b, (Lib.itoa (-(n : Int)) == s.toList) = b := ⟨_, rfl⟩
          have hv := hide (HF.out (-(n : Int)) rfl b (by rw [← ByteArray.toList_eq]; exact hbt))
          have HI := hide (fun W hT => iFI_any (-(n : Int)) W (by omega) (by omega) hT)
          cases b
          all_goals
            go_wp2_with (go_at_call 42; refine (HI.out _ (HT.out.stays hb (Nat.le_refl _))).mono ?_; rintro e wa ⟨rfl, ha⟩)
            go_ret2
            exact ⟨by rw [hv.out]; rfl, hb.trans (ha.mono hb.size)⟩

end Go.Proofs.YtgeegbbcjdlkbaaGreatDoor
