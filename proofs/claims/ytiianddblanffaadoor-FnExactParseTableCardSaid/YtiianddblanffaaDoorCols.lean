/- Slices of columns and tables: read only (Cols); the laws' szColumn.., toColumn.., eqColumn... -/
import Derived.Test.YtiianddblanffaaDoorName
namespace Go.Proofs.YtiianddblanffaaDoor
open Go.RowKit Go.ChangeShapes
set_option linter.unusedSimpArgs false
set_option linter.unusedVariables false
set_option maxRecDepth 100000

/-- A column: its name and its values. -/
abbrev Col := ByteArray × List Int

/-- v is a column that reads as c. -/
def ColV (w : World) (B : Nat) (v : Value) (c : Col) : Prop := ∃ u, v = .agg #[.string c.1, u] ∧ c.1.size ≤ 9223372036854775807 ∧ Ints w B u c.2

/-- v is a slice of columns that reads as cs; all its cells lie below block B. -/
def Cols (w : World) (B : Nat) (v : Value) (cs : List Col) : Prop :=
  ∃ a cap, v = .slice a cs.length cap ∧ cs.length ≤ 9223372036854775807 ∧ ∀ j (h : j < cs.length), ∃ b o u, a = some ⟨b, o, none⟩ ∧ b < B ∧ w.cell? ⟨b, o + j * 2, none⟩ = some (.string cs[j].1) ∧ w.cell? ⟨b, o + j * 2 + 1, none⟩ = some u ∧ cs[j].1.size ≤ 9223372036854775807 ∧ Ints w B u cs[j].2

theorem Cols.below {w w' : World} {B C : Nat} {v : Value} {cs : List Col} (h : Cols w B v cs) (hb : Below C w w') (hC : B ≤ C) : Cols w' B v cs := by
  obtain ⟨a, cap, e, h1, h3⟩ := h
  refine ⟨a, cap, e, h1, fun j hj => ?_⟩
  obtain ⟨b, o, u, e2, hB, hc, hc2, hs, hi⟩ := h3 j hj
  exact ⟨b, o, u, e2, hB, by rw [hb.cell (p := ⟨b, o + j * 2, none⟩) (Nat.lt_of_lt_of_le hB hC)]; exact hc, by rw [hb.cell (p := ⟨b, o + j * 2 + 1, none⟩) (Nat.lt_of_lt_of_le hB hC)]; exact hc2, hs, hi.below hb hC⟩

theorem Cols.mono {w : World} {B C : Nat} {v : Value} {cs : List Col} (h : Cols w B v cs) (hC : B ≤ C) : Cols w C v cs := by
  obtain ⟨a, cap, e, h1, h3⟩ := h
  refine ⟨a, cap, e, h1, fun j hj => ?_⟩
  obtain ⟨b, o, u, e2, hB, hc, hc2, hs, hi⟩ := h3 j hj
  exact ⟨b, o, u, e2, Nat.lt_of_lt_of_le hB hC, hc, hc2, hs, hi.mono hC⟩

theorem Cols.up {w w' : World} {v : Value} {cs : List Col} (h : Cols w w.heap.size v cs) (hb : Below w.heap.size w w') : Cols w' w'.heap.size v cs := (h.below hb (Nat.le_refl _)).mono hb.size

/-- How much is left behind n more. -/
def lft (n : Nat) (left : Int) : Int := if left - n < 0 then -1 else left - n

def wC (c : Col) : Nat := c.1.size + c.2.length
def sumC (cs : List Col) : Nat := (cs.map wC).sum
/-- The size of columns. -/
def totC (cs : List Col) : Nat := cs.length + sumC cs

theorem sumC_take (cs : List Col) (k : Nat) (hk : k < cs.length) : sumC (cs.take (k + 1)) = sumC (cs.take k) + wC cs[k] := by
  unfold sumC
  rw [List.take_succ_eq_append_getElem hk, List.map_append, List.sum_append]
  simp

theorem sumC_le (cs : List Col) (k : Nat) : sumC (cs.take k) ≤ sumC cs := by
  have h : sumC cs = sumC (cs.take k) + sumC (cs.drop k) := by
    unfold sumC
    conv => lhs; rw [← List.take_append_drop k cs]
    rw [List.map_append, List.sum_append]
  omega

theorem wC_le (cs : List Col) (k : Nat) (hk : k < cs.length) : wC cs[k] ≤ sumC cs := by
  have := sumC_take cs k hk
  have := sumC_le cs (k + 1)
  omega

set_option maxHeartbeats 1000000 in
theorem szColumn_any (n : ByteArray) (l : List Int) (u : Value) (left : Int) (w : World) (B : Nat) (hs : n.size ≤ 9223372036854775807) (hv : Ints w B u l) (hB : B ≤ w.heap.size) (h1 : -1 ≤ left) (h2 : left ≤ 1048576) :
    Calls Tryd.prog 34 #[.agg #[.string n, u], .int .i64 left] w (RetI1 w (lft (n.size + l.length) left)) := by
  obtain ⟨y, hy⟩ : ∃ y, y = lft (n.size + l.length) left := ⟨_, rfl⟩
  rw [← hy]
  unfold lft at hy
  by_cases h : left - n.size < 0
  · have hz := hide (show y = -1 by rw [hy, if_pos (by omega)])
    clear hy
    go_enter Tryd.func34, Tryd.ntmps34
    go_wp2_with fail
    go_ret
    exact ⟨by rw [hz.out]; rfl, (Below.refl _ _).alloc (Nat.le_refl _) _⟩
  · obtain ⟨z, hz⟩ : ∃ z, z = szI l (left - n.size) := ⟨_, rfl⟩
    have hz0 := hz
    unfold szI at hz0
    have hyz : y = z := by rw [hy, hz0]; split <;> split <;> omega
    have HZ := hide hz
    clear hy hz
    by_cases h3 : z < 0
    · have hm := hide (show y = -1 by rw [hyz]; split at hz0 <;> omega)
      clear hyz hz0
      go_enter Tryd.func34, Tryd.ntmps34
      go_wp2_with fail
      go_at_call 57
      refine (szIntS_any _ l _ _ B (hv.below ((Below.refl _ _).alloc (Nat.le_refl _) _) hB) (by omega) (by omega)).mono ?_
      rintro e wa ⟨rfl, rfl⟩
      rw [← HZ.out]
      go_wp2_with fail
      go_ret
      exact ⟨by rw [hm.out]; rfl, (Below.refl _ _).alloc (Nat.le_refl _) _⟩
    · have HYZ := hide hyz
      clear hyz hz0
      go_enter Tryd.func34, Tryd.ntmps34
      go_wp2_with fail
      go_at_call 57
      refine (szIntS_any _ l _ _ B (hv.below ((Below.refl _ _).alloc (Nat.le_refl _) _) hB) (by omega) (by omega)).mono ?_
      rintro e wa ⟨rfl, rfl⟩
      rw [← HZ.out]
      go_wp2_with fail
      go_ret
      exact ⟨by rw [HYZ.out]; rfl, (Below.refl _ _).alloc (Nat.le_refl _) _⟩

set_option maxHeartbeats 1000000 in
theorem szColumnS_any (v : Value) (cs : List Col) (left : Int) (w : World) (B : Nat) (hv : Cols w B v cs) (hB : B ≤ w.heap.size) (h1 : -1 ≤ left) (h2 : left ≤ 1048576) :
    Calls Tryd.prog 14 #[v, .int .i64 left] w (RetI1 w (lft (totC cs) left)) := by
  have hv0 := hide hv
  obtain ⟨a, cap, rfl, hlen, hcell⟩ := hv
  have HC := hide hcell
  clear hcell
  obtain ⟨y, hy⟩ : ∃ y, y = lft (totC cs) left := ⟨_, rfl⟩
  have HY := hide hy
  rw [← hy]
  clear hy
  by_cases h : left - cs.length < 0
  · have hz := hide (show y = -1 by rw [HY.out]; unfold lft totC; rw [if_pos (by omega)])
    go_enter Tryd.func14, Tryd.ntmps14
    go_wp2_with fail
    go_ret
    exact ⟨by rw [hz.out]; rfl, Below.refl _ _⟩
  · go_enter Tryd.func14, Tryd.ntmps14
    go_wp2_with fail
    go_loopw [1, 5] (fun x i wr => ∃ (k : Nat) (z : Int), k ≤ cs.length ∧ i = .int .i64 k ∧ x = .int .i64 z ∧ z = left - cs.length - sumC (cs.take k) ∧ 0 ≤ z ∧ Below w.heap.size w wr) (fun _ i _ => cs.length - (intOf i).toNat)
    case atStart => exact ⟨0, _, by omega, rfl, rfl, by simp [sumC], by omega, Below.refl _ _⟩
    case round =>
      obtain ⟨k, z, hk, rfl, rfl, hz, hz0, hb⟩ := hrel
      by_cases hlt : k < cs.length
      · obtain ⟨b, o, u, rfl, hbB, hc, hc2, hn, hi⟩ := HC.out k hlt
        obtain ⟨c, hcc⟩ : ∃ c, c = cs[k] := ⟨_, rfl⟩
        have hst := sumC_take cs k hlt
        have hle := sumC_le cs (k + 1)
        have HY2 := hide (show y = lft (totC cs) left from HY.out)
        rw [← hcc] at hc hn hi hst
        obtain ⟨n, l⟩ := c
        simp only [wC] at hst
        simp only at hc hn hi
        have hc' : wr.cell? ⟨b, o + k * 2, none⟩ = some (.string n) := by rw [hb.cell (p := ⟨b, o + k * 2, none⟩) (Nat.lt_of_lt_of_le hbB hB)]; exact hc
        have hc2' : wr.cell? ⟨b, o + k * 2 + 1, none⟩ = some u := by rw [hb.cell (p := ⟨b, o + k * 2 + 1, none⟩) (Nat.lt_of_lt_of_le hbB hB)]; exact hc2
        have hi' := hi.below hb hB
        clear hc hc2 hi hcc
        obtain ⟨t, ht⟩ : ∃ t, t = lft (n.size + l.length) z := ⟨_, rfl⟩
        have ht0 := ht
        unfold lft at ht0
        have HT := hide ht
        clear ht
        by_cases htn : t < 0
        · have hfin := hide (show y = -1 by rw [HY.out]; unfold lft totC; rw [if_pos (by split at ht0 <;> omega)])
          have hzr : z ≤ 1048576 := by omega
          clear ht0 hst hle hz
          go_wp2_with fail
          go_at_call 34
          refine (szColumn_any n l u z _ B hn hi' (Nat.le_trans hB hb.size) (by omega) (by omega)).mono ?_
          rintro e wa ⟨rfl, hba⟩
          rw [← HT.out]
          go_wp2_with fail
          go_ret
          exact ⟨by rw [hfin.out]; rfl, hb.trans (hba.mono hb.size)⟩
        · have hte : t = z - (n.size + l.length : Nat) := by split at ht0 <;> omega
          have hz' : t = left - cs.length - sumC (cs.take (k + 1)) := by omega
          have HZ := hide hz'
          have hrng : t ≤ 1048576 := by omega
          have hzr : z ≤ 1048576 := by omega
          clear ht0 hst hle hz' hz hte
          go_wp2_with fail
          go_at_call 34
          refine (szColumn_any n l u z _ B hn hi' (Nat.le_trans hB hb.size) (by omega) (by omega)).mono ?_
          rintro e wa ⟨rfl, hba⟩
          rw [← HT.out]
          go_wp2_with fail
          go_roundw
          case rel => exact ⟨k + 1, t, by omega, by go_num, rfl, HZ.out, by omega, hb.trans (hba.mono hb.size)⟩
          case measure => simp [intOf]; omega
      · have hke : k = cs.length := by omega
        subst hke
        have hfin := hide (show y = z by
          rw [List.take_of_length_le (Nat.le_refl _)] at hz
          rw [HY.out]; unfold lft totC; split <;> omega)
        go_wp2_with fail
        go_ret
        exact ⟨by rw [hfin.out]; rfl, hb⟩

/-- v is a table that reads as cs. -/
def Tbl (w : World) (B : Nat) (v : Value) (cs : List Col) : Prop := ∃ u, v = .agg #[u] ∧ Cols w B u cs

theorem Tbl.below {w w' : World} {B C : Nat} {v : Value} {cs : List Col} (h : Tbl w B v cs) (hb : Below C w w') (hC : B ≤ C) : Tbl w' B v cs := by
  obtain ⟨u, e, hc⟩ := h
  exact ⟨u, e, hc.below hb hC⟩

theorem Tbl.mono {w : World} {B C : Nat} {v : Value} {cs : List Col} (h : Tbl w B v cs) (hC : B ≤ C) : Tbl w C v cs := by
  obtain ⟨u, e, hc⟩ := h
  exact ⟨u, e, hc.mono hC⟩

theorem Tbl.up {w w' : World} {v : Value} {cs : List Col} (h : Tbl w w.heap.size v cs) (hb : Below w.heap.size w w') : Tbl w' w'.heap.size v cs := (h.below hb (Nat.le_refl _)).mono hb.size

set_option maxHeartbeats 1000000 in
theorem szTable_any (v : Value) (cs : List Col) (left : Int) (w : World) (B : Nat) (hv : Tbl w B v cs) (hB : B ≤ w.heap.size) (h1 : -1 ≤ left) (h2 : left ≤ 1048576) :
    Calls Tryd.prog 5 #[v, .int .i64 left] w (RetI1 w (lft (totC cs) left)) := by
  obtain ⟨u, rfl, hu⟩ := hv
  have HU := hide hu
  obtain ⟨a, cap, rfl, hlen, hcell⟩ := hu
  clear hcell
  obtain ⟨y, hy⟩ : ∃ y, y = lft (totC cs) left := ⟨_, rfl⟩
  have HY := hide hy
  have hy0 := hy
  unfold lft at hy0
  rw [← hy]
  clear hy
  by_cases h : y < 0
  · have hy1 := hide (show y = -1 by split at hy0 <;> omega)
    clear hy0
    go_enter Tryd.func5, Tryd.ntmps5
    go_wp2_with fail
    go_at_call 14
    refine (szColumnS_any _ cs _ _ B (HU.out.below ((Below.refl _ _).alloc (Nat.le_refl _) _) hB) (Nat.le_trans hB ((Below.refl w.heap.size w).alloc (Nat.le_refl _) _).size) (by omega) (by omega)).mono ?_
    rintro e wa ⟨rfl, hba⟩
    rw [← HY.out]
    go_wp2_with fail
    go_ret
    exact ⟨by rw [hy1.out]; rfl, ((Below.refl _ _).alloc (Nat.le_refl _) _).trans (hba.mono ((Below.refl w.heap.size w).alloc (Nat.le_refl _) _).size)⟩
  · have hy1 : y ≤ 1048576 := by split at hy0 <;> omega
    clear hy0
    go_enter Tryd.func5, Tryd.ntmps5
    go_wp2_with fail
    go_at_call 14
    refine (szColumnS_any _ cs _ _ B (HU.out.below ((Below.refl _ _).alloc (Nat.le_refl _) _) hB) (Nat.le_trans hB ((Below.refl w.heap.size w).alloc (Nat.le_refl _) _).size) (by omega) (by omega)).mono ?_
    rintro e wa ⟨rfl, hba⟩
    rw [← HY.out]
    go_wp2_with fail
    go_ret
    exact ⟨rfl, ((Below.refl _ _).alloc (Nat.le_refl _) _).trans (hba.mono ((Below.refl w.heap.size w).alloc (Nat.le_refl _) _).size)⟩

end Go.Proofs.YtiianddblanffaaDoor
