/- The laws' toColumn, toColumnS, toTable: what they make is owned by the call. -/
import Derived.Test.YtiianddblanffaaDoorColEq
namespace Go.Proofs.YtiianddblanffaaDoor
open Go.RowKit Go.ChangeShapes
set_option linter.unusedSimpArgs false
set_option linter.unusedVariables false
set_option maxRecDepth 100000

/-- A column is returned whose values are the call's own; nothing that was there has turned. -/
def RetCol (w : World) (n : ByteArray) (l : List Int) (e : Ending) (w' : World) : Prop := ∃ u, e = .returned (.agg #[.string n, u]) ∧ Is w' w.heap.size 3 u l ∧ Below w.heap.size w w'

theorem alloc_size (w : World) (o : Obj) : (w.alloc o).heap.size = w.heap.size + 1 := by unfold World.alloc; exact Array.size_push _

theorem cell_new (w : World) (c : Array Value) (t : TypeId) (j : Nat) : (w.alloc (.cells c t)).cell? ⟨w.heap.size, j, none⟩ = c[j]? := cell_of_row _ _ j c t (0, 0) (heap_alloc_new w _)

theorem froz_new (w : World) (c : Array Value) (t : TypeId) (j : Nat) : (w.alloc (.cells c t)).frozen? ⟨w.heap.size, j, none⟩ = false := frozen_of_row _ _ j c t (heap_alloc_new w _)

set_option maxHeartbeats 1000000 in
theorem toColumn_own (n : ByteArray) (l : List Int) (u : Value) (w : World) (B : Nat) (hu : Ints w B u l) (hB : B ≤ w.heap.size) (hl : l.length ≤ 1048576) :
    Calls Tryd.prog 38 #[.agg #[.string n, u]] w (RetCol w n l) := by
  go_enter Tryd.func38, Tryd.ntmps38
  go_wp2_with fail
  have a1 := (Below.refl w.heap.size w).alloc (Nat.le_refl _) (.cells #[.string n, u] 71)
  have a2 := a1.alloc a1.size (.cells #[.string ⟨#[]⟩, .slice none 0 0] 42)
  have a3 := a2.alloc a2.size (.cells #[.string n, .slice none 0 0] 42)
  go_at_call 58
  refine (toIntS_own u l _ B (hu.below a3 hB) (Nat.le_trans hB a3.size) hl).mono ?_
  rintro e wa ⟨v, rfl, hown, hba⟩
  have c0' := cell_new ((w.alloc (.cells #[.string n, u] 71)).alloc (.cells #[.string ⟨#[]⟩, .slice none 0 0] 42)) #[.string n, .slice none 0 0] 42 0
  have c1' := cell_new ((w.alloc (.cells #[.string n, u] 71)).alloc (.cells #[.string ⟨#[]⟩, .slice none 0 0] 42)) #[.string n, .slice none 0 0] 42 1
  have f1' := froz_new ((w.alloc (.cells #[.string n, u] 71)).alloc (.cells #[.string ⟨#[]⟩, .slice none 0 0] 42)) #[.string n, .slice none 0 0] 42 1
  rw [alloc_size, alloc_size] at c0' c1' f1'
  rw [alloc_size, alloc_size, alloc_size] at hba hown
  have c0 : wa.cell? ⟨w.heap.size + 1 + 1, 0, none⟩ = some (.string n) := by
    rw [hba.cell (p := ⟨w.heap.size + 1 + 1, 0, none⟩) (by show w.heap.size + 1 + 1 < _; omega)]; exact c0'
  have c1 : wa.cell? ⟨w.heap.size + 1 + 1, 1, none⟩ = some (.slice none 0 0) := by
    rw [hba.cell (p := ⟨w.heap.size + 1 + 1, 1, none⟩) (by show w.heap.size + 1 + 1 < _; omega)]; exact c1'
  have f0 : wa.frozen? ⟨w.heap.size + 1 + 1, 1, none⟩ = false := by
    rw [hba.frozen (p := ⟨w.heap.size + 1 + 1, 1, none⟩) (by show w.heap.size + 1 + 1 < _; omega)]; exact f1'
  have g0' := cell_new (w.alloc (.cells #[.string n, u] 71)) #[.string ⟨#[]⟩, .slice none 0 0] 42 0
  have g1' := cell_new (w.alloc (.cells #[.string n, u] 71)) #[.string ⟨#[]⟩, .slice none 0 0] 42 1
  have e0' := froz_new (w.alloc (.cells #[.string n, u] 71)) #[.string ⟨#[]⟩, .slice none 0 0] 42 0
  have e1' := froz_new (w.alloc (.cells #[.string n, u] 71)) #[.string ⟨#[]⟩, .slice none 0 0] 42 1
  rw [alloc_size] at g0' g1' e0' e1'
  have low : ∀ (p : Addr), p.block = w.heap.size + 1 → wa.cell? p = ((w.alloc (.cells #[.string n, u] 71)).alloc (.cells #[.string ⟨#[]⟩, .slice none 0 0] 42)).cell? p ∧ wa.frozen? p = ((w.alloc (.cells #[.string n, u] 71)).alloc (.cells #[.string ⟨#[]⟩, .slice none 0 0] 42)).frozen? p := by
    intro p hp
    have b1 := (Below.refl ((w.alloc (.cells #[.string n, u] 71)).alloc (.cells #[.string ⟨#[]⟩, .slice none 0 0] 42)).heap.size _).alloc (Nat.le_refl _) (.cells #[.string n, .slice none 0 0] 42)
    rw [hba.cell (by omega), hba.frozen (by omega)]
    exact ⟨b1.cell (by rw [alloc_size, alloc_size]; omega), b1.frozen (by rw [alloc_size, alloc_size]; omega)⟩
  have g0 : wa.cell? ⟨w.heap.size + 1, 0, none⟩ = some (.string ⟨#[]⟩) := (low _ rfl).1.trans g0'
  have g1 : wa.cell? ⟨w.heap.size + 1, 1, none⟩ = some (.slice none 0 0) := (low _ rfl).1.trans g1'
  have e0 : wa.frozen? ⟨w.heap.size + 1, 0, none⟩ = false := (low _ rfl).2.trans e0'
  have e1 : wa.frozen? ⟨w.heap.size + 1, 1, none⟩ = false := (low _ rfl).2.trans e1'
  clear c0' c1' f1' g0' g1' e0' e1' low
  have hform : ∃ a k cap, v = .slice a k cap := by
    rcases hown.2 with ⟨h, _⟩ | ⟨g, cap, cur, h, _⟩
    · exact ⟨_, _, _, h⟩
    · exact ⟨_, _, _, h⟩
  obtain ⟨a, k, cap, rfl⟩ := hform
  have HO := hide hown
  have HB := hide hba
  have HA := hide a3
  clear a1 a2 a3 hown hba
  go_wp2_with fail
  have o1 := ownsRow_setCell_below HO.out (a := ⟨w.heap.size + 1 + 1, 1, none⟩) (by show w.heap.size + 1 + 1 < _; omega) (.slice a k cap)
  have o2 := ownsRow_setCell_below o1 (a := ⟨w.heap.size + 1, 0, none⟩) (by show w.heap.size + 1 < _; omega) (.string n)
  have o3 := ownsRow_setCell_below o2 (a := ⟨w.heap.size + 1, 1, none⟩) (by show w.heap.size + 1 < _; omega) (.slice a k cap)
  have b0 := HA.out.trans (HB.out.mono (by omega))
  exact bodyPost_ret (v := .agg #[.string n, .slice a k cap]) (by simp [results, Tryd.results38, go_sem, g0, g1]) rfl ⟨_, rfl, (show Is _ _ _ _ _ from o3).lower (by omega), ((b0.setCell (p := ⟨w.heap.size + 1 + 1, 1, none⟩) (by show _ ≤ w.heap.size + 1 + 1; omega) _).setCell (p := ⟨w.heap.size + 1, 0, none⟩) (by show _ ≤ w.heap.size + 1; omega) _).setCell (p := ⟨w.heap.size + 1, 1, none⟩) (by show _ ≤ w.heap.size + 1; omega) _⟩

theorem infoC : (Tryd.prog.info? 42).map (fun i => (i.zero, i.size, i.bytes)) = some (some (.agg #[.string ⟨#[]⟩, .slice none 0 0]), 2, 40) := by kernel_rfl

/-- v owns the columns cs: the row and each column's values. -/
def OCols (w : World) (base : Nat) (v : Value) (cs : List Col) : Prop :=
  ∃ g cap xs, v = .slice (some ⟨g, 0, none⟩) cs.length cap ∧ w.ownsRow base 42 2 v cs.length xs ∧ ∀ j (h : j < cs.length), ∃ u, xs[j * 2]? = some (.string cs[j].1) ∧ xs[j * 2 + 1]? = some u ∧ Is w base 3 u cs[j].2

theorem owns_below {w w' : World} {base : Nat} {e : TypeId} {z n : Nat} {v : Value} {xs : List Value} (h : w.ownsRow base e z v n xs) (hb : Below w.heap.size w w') : w'.ownsRow base e z v n xs := by
  refine ⟨h.1, ?_⟩
  rcases h.2 with h2 | ⟨g, cap, cur, hv, hg, hh, r⟩
  · exact .inl h2
  · exact .inr ⟨g, cap, cur, hv, hg, by rw [hb.block g (Array.getElem?_eq_some_iff.1 hh).1]; exact hh, r⟩

theorem OCols.below {w w' : World} {base : Nat} {v : Value} {cs : List Col} (h : OCols w base v cs) (hb : Below w.heap.size w w') : OCols w' base v cs := by
  obtain ⟨g, cap, xs, hv, ho, hc⟩ := h
  exact ⟨g, cap, xs, hv, owns_below ho hb, fun j hj => by obtain ⟨u, h1, h2, h3⟩ := hc j hj; exact ⟨u, h1, h2, h3.below hb⟩⟩

theorem OCols.cols {w : World} {base B : Nat} {v : Value} {cs : List Col} (h : OCols w base v cs) (hB : w.heap.size ≤ B) (hl : cs.length ≤ 9223372036854775807) (hn : ∀ c ∈ cs, c.1.size ≤ 9223372036854775807 ∧ c.2.length ≤ 9223372036854775807 ∧ ∀ x ∈ c.2, I64 x) : Cols w B v cs := by
  obtain ⟨g, cap, xs, rfl, ho, hc⟩ := h
  refine ⟨_, _, rfl, hl, fun j hj => ?_⟩
  obtain ⟨u, h1, h2, h3⟩ := hc j hj
  obtain ⟨q1, q2, q3⟩ := hn _ (List.getElem_mem hj)
  refine ⟨g, 0, u, rfl, ?_, ?_, ?_, q1, h3.ints hB q2 q3⟩
  · rcases ho.2 with ⟨h', _⟩ | ⟨g', cap', cur, h', hb, hg, _⟩
    · simp at h'
    · simp only [Value.slice.injEq, Option.some.injEq, Addr.mk.injEq, and_true, true_and] at h'
      obtain ⟨rfl, rfl⟩ := h'
      exact Nat.lt_of_lt_of_le (Array.getElem?_eq_some_iff.1 hg).1 hB
  · rw [Nat.zero_add, World.ownsRow.cellAt ho (j * 2) (by omega)]; exact h1
  · rw [Nat.zero_add, World.ownsRow.cellAt ho (j * 2 + 1) (by omega)]; exact h2

/-- New columns of the call's own are returned; nothing that was there has turned. -/
def RetCols (w : World) (cs : List Col) (e : Ending) (w' : World) : Prop := ∃ v, e = .returned v ∧ OCols w' w.heap.size v cs ∧ Below w.heap.size w w'

set_option maxHeartbeats 1000000 in
theorem toColumnS_own (v : Value) (cs : List Col) (w : World) (B : Nat) (hv : Cols w B v cs) (hB : B ≤ w.heap.size) (hl : cs.length ≤ 1048576) (hs : ∀ c ∈ cs, c.2.length ≤ 1048576) :
    Calls Tryd.prog 18 #[v] w (RetCols w cs) := by
  obtain ⟨a, cap, rfl, hlen, hcell⟩ := hv
  have HC := hide hcell
  have HS := hide hs
  clear hcell hs
  obtain ⟨i0, hi0, hz0, hz1, hz2⟩ := info_parts infoC
  have HI := hide hi0
  have HZ := hide hz0
  have HZ1 := hide hz1
  have HZ2 := hide hz2
  clear hi0 hz0 hz1 hz2
  go_enter Tryd.func18, Tryd.ntmps18
  go_wp2_with (first | (at_make; refine wpList_make_full _ rfl _ _ 27 rfl w.heap.size 42 i0 _ 2 Tryd.underlying27 HI.out HZ.out HZ1.out .i64 .i64 _ _ cs.length rfl rfl rfl rfl (by rw [HZ2.out]; omega) (by unfold maxLen; omega) (Nat.le_refl _) ?_; intro w1 hown1 hgrow1))
  have hb1 := (Below.refl w.heap.size w).grown hgrow1 (Nat.le_refl _) (fun k hk => by cases hk)
  have hs1 : w.heap.size < w1.heap.size := (World.ownsRow.lt hown1 w.heap.size (by simp [Value.ownBlock])).2
  go_loopw [4] (fun i wr => ∃ (k : Nat) (xs : List Value), k ≤ cs.length ∧ i = .int .i64 k ∧ wr.ownsRow w.heap.size 42 2 (.slice (some ⟨w.heap.size, 0, none⟩) cs.length cs.length) cs.length xs ∧ Hid (∀ j (_ : j < k) (h : j < cs.length), ∃ u, xs[j * 2]? = some (.string cs[j].1) ∧ xs[j * 2 + 1]? = some u ∧ Is wr (w.heap.size + 1) 3 u cs[j].2) ∧ Below w.heap.size w wr ∧ Hid (w.heap.size < wr.heap.size)) (fun i _ => cs.length - (intOf i).toNat)
  case atStart => exact ⟨0, _, by omega, rfl, hown1, fun j hj => by omega, hb1, hs1⟩
  case round =>
    clear hown1 hb1 hgrow1 hs1
    obtain ⟨k, xs, hk, rfl, hown, hpre, hb, hsz⟩ := hrel
    by_cases hlt : k < cs.length
    · obtain ⟨b, o, u, rfl, hbB, hc, hc2, hn, hi⟩ := HC.out k hlt
      have hsl := HS.out _ (List.getElem_mem hlt)
      obtain ⟨p, hp⟩ : ∃ p, p = cs[k] := ⟨_, rfl⟩
      rw [← hp] at hc hn hi hsl
      obtain ⟨n, l⟩ := p
      simp only at hc hn hi hsl
      have d1 : wr.cell? ⟨b, o + k * 2, none⟩ = some (.string n) := by rw [hb.cell (p := ⟨b, o + k * 2, none⟩) (Nat.lt_of_lt_of_le hbB hB)]; exact hc
      have d2 : wr.cell? ⟨b, o + k * 2 + 1, none⟩ = some u := by rw [hb.cell (p := ⟨b, o + k * 2 + 1, none⟩) (Nat.lt_of_lt_of_le hbB hB)]; exact hc2
      have e1 := hi.below hb hB
      have HP := hide hp
      clear hc hc2 hi hp
      go_wp2_with fail
      go_at_call 38
      refine (toColumn_own n l u _ B e1 (Nat.le_trans hB hb.size) hsl).mono ?_
      rintro e wa ⟨x, rfl, hown2, hba⟩
      have hown3 := owns_below hown hba
      have hxl : xs.length = cs.length * 2 := hown.1
      have c0 : wa.cell? ⟨w.heap.size, k * 2, none⟩ = some (xs[k * 2]'(by omega)) := by
        rw [World.ownsRow.cellAt hown3 (k * 2) (by omega)]; exact List.getElem?_eq_getElem _
      have c1 : wa.cell? ⟨w.heap.size, k * 2 + 1, none⟩ = some (xs[k * 2 + 1]'(by omega)) := by
        rw [World.ownsRow.cellAt hown3 (k * 2 + 1) (by omega)]; exact List.getElem?_eq_getElem _
      have f0 := World.ownsRow.frozenAt hown3 (k * 2)
      have f1 := World.ownsRow.frozenAt hown3 (k * 2 + 1)
      obtain ⟨y0, hy0⟩ : ∃ y, y = xs[k * 2]'(by omega) := ⟨_, rfl⟩
      obtain ⟨y1, hy1⟩ : ∃ y, y = xs[k * 2 + 1]'(by omega) := ⟨_, rfl⟩
      rw [← hy0] at c0
      rw [← hy1] at c1
      clear hy0 hy1
      have hform : ∃ a k cap, x = .slice a k cap := by
        rcases hown2.2 with ⟨h, _⟩ | ⟨g, cap, cur, h, _⟩
        · exact ⟨_, _, _, h⟩
        · exact ⟨_, _, _, h⟩
      obtain ⟨ax, kx, cx, rfl⟩ := hform
      have HO2 := hide hown2
      have HO3 := hide hown3
      have HBA := hide hba
      have HXL := hide hxl
      clear hown hown2 hown3 hba hxl
      go_wp2_with fail
      go_roundw
      case rel =>
        have s1 := (World.ownsRow.stored HO3.out (k * 2) (.string n)).1
        have s2 := (World.ownsRow.stored s1 (k * 2 + 1) (.slice ax kx cx)).1
        have hz := hsz.out
        have b1 := hb.trans (HBA.out.mono hb.size)
        have b2 := (b1.setCell (p := ⟨w.heap.size, k * 2, none⟩) (Nat.le_refl _) (.string n)).setCell (p := ⟨w.heap.size, k * 2 + 1, none⟩) (Nat.le_refl _) (.slice ax kx cx)
        have b3 := (HBA.out.mono (Nat.zero_le _)).setCell (p := ⟨w.heap.size, k * 2, none⟩) (Nat.zero_le _) (.string n) |>.setCell (p := ⟨w.heap.size, k * 2 + 1, none⟩) (Nat.zero_le _) (.slice ax kx cx)
        refine ⟨k + 1, _, by omega, by go_num, s2, ?_, b2, Nat.lt_of_lt_of_le hz b3.size⟩
        intro j hj hjl
        have key : ∀ (u : Value) (l : List Int), Is wa (w.heap.size + 1) 3 u l → Is ((wa.setCell ⟨w.heap.size, k * 2, none⟩ (.string n)).setCell ⟨w.heap.size, k * 2 + 1, none⟩ (.slice ax kx cx)) (w.heap.size + 1) 3 u l :=
          fun u l h => ownsRow_setCell_below (ownsRow_setCell_below h (a := ⟨w.heap.size, k * 2, none⟩) (by show w.heap.size < _; omega) _) (a := ⟨w.heap.size, k * 2 + 1, none⟩) (by show w.heap.size < _; omega) _
        have hx := HXL.out
        by_cases hjk : j = k
        · subst hjk
          refine ⟨.slice ax kx cx, ?_, ?_, ?_⟩
          · rw [List.getElem?_set_ne (by omega), List.getElem?_set_self (by omega), ← HP.out]
          · rw [List.getElem?_set_self (by simp; omega)]
          · rw [← HP.out]; exact key _ _ (HO2.out.lower (by omega))
        · obtain ⟨u', h1, h2, h3⟩ := hpre.out j (by omega) hjl
          refine ⟨u', ?_, ?_, key _ _ (h3.below HBA.out)⟩
          · rw [List.getElem?_set_ne (by omega), List.getElem?_set_ne (by omega)]; exact h1
          · rw [List.getElem?_set_ne (by omega), List.getElem?_set_ne (by omega)]; exact h2
      case measure => simp [intOf]; omega
    · have hke : k = cs.length := by omega
      subst hke
      have HO := hide hown
      clear hown
      go_wp2_with fail
      go_ret
      exact ⟨_, rfl, ⟨_, _, xs, rfl, HO.out, fun j hj => by obtain ⟨u, h1, h2, h3⟩ := hpre.out j hj hj; exact ⟨u, h1, h2, h3.lower (by omega)⟩⟩, hb⟩

/-- v is a table that owns the columns cs. -/
def OTbl (w : World) (base : Nat) (v : Value) (cs : List Col) : Prop := ∃ u, v = .agg #[u] ∧ OCols w base u cs

theorem OTbl.below {w w' : World} {base : Nat} {v : Value} {cs : List Col} (h : OTbl w base v cs) (hb : Below w.heap.size w w') : OTbl w' base v cs := by
  obtain ⟨u, e, h⟩ := h
  exact ⟨u, e, h.below hb⟩

theorem OCols.set {w : World} {base : Nat} {v : Value} {cs : List Col} (h : OCols w base v cs) {a : Addr} (ha : a.block < base) (x : Value) : OCols (w.setCell a x) base v cs := by
  obtain ⟨g, cap, xs, hv, ho, hc⟩ := h
  exact ⟨g, cap, xs, hv, ownsRow_setCell_below ho ha x, fun j hj => by obtain ⟨u, h1, h2, h3⟩ := hc j hj; exact ⟨u, h1, h2, ownsRow_setCell_below h3 ha x⟩⟩

theorem OCols.lower {w : World} {base B : Nat} {v : Value} {cs : List Col} (h : OCols w base v cs) (hb : B ≤ base) : OCols w B v cs := by
  obtain ⟨g, cap, xs, hv, ho, hc⟩ := h
  refine ⟨g, cap, xs, hv, ⟨ho.1, ho.2.elim .inl (fun ⟨g, cap, cur, hv, hg, r⟩ => .inr ⟨g, cap, cur, hv, Nat.le_trans hb hg, r⟩)⟩, fun j hj => by obtain ⟨u, h1, h2, h3⟩ := hc j hj; exact ⟨u, h1, h2, h3.lower hb⟩⟩

/-- A new table of the call's own is returned; nothing that was there has turned. -/
def RetTbl (w : World) (cs : List Col) (e : Ending) (w' : World) : Prop := ∃ v, e = .returned v ∧ OTbl w' w.heap.size v cs ∧ Below w.heap.size w w'

set_option maxHeartbeats 1000000 in
theorem toTable_own (v : Value) (cs : List Col) (w : World) (B : Nat) (hv : Tbl w B v cs) (hB : B ≤ w.heap.size) (hl : cs.length ≤ 1048576) (hs : ∀ c ∈ cs, c.2.length ≤ 1048576) :
    Calls Tryd.prog 7 #[v] w (RetTbl w cs) := by
  obtain ⟨u, rfl, hu⟩ := hv
  have a1 := (Below.refl w.heap.size w).alloc (Nat.le_refl _) (.cells #[u] 24)
  have a2 := a1.alloc a1.size (.cells #[.slice none 0 0] 29)
  have a3 := a2.alloc a2.size (.cells #[.slice none 0 0] 29)
  have hu3 := hide (hu.below a3 hB)
  have HA := hide a3
  have HBS := hide (Nat.le_trans hB a3.size)
  obtain ⟨ua, ucap, rfl, -, -⟩ := hu
  clear a1 a2 a3
  go_enter Tryd.func7, Tryd.ntmps7
  go_wp2_with fail
  go_at_call 18
  refine (toColumnS_own _ cs _ B hu3.out HBS.out hl hs).mono ?_
  rintro e wa ⟨v, rfl, hown, hba⟩
  have c1' := cell_new ((w.alloc (.cells #[.slice ua cs.length ucap] 24)).alloc (.cells #[.slice none 0 0] 29)) #[.slice none 0 0] 29 0
  have f1' := froz_new ((w.alloc (.cells #[.slice ua cs.length ucap] 24)).alloc (.cells #[.slice none 0 0] 29)) #[.slice none 0 0] 29 0
  have g0' := cell_new (w.alloc (.cells #[.slice ua cs.length ucap] 24)) #[.slice none 0 0] 29 0
  have e0' := froz_new (w.alloc (.cells #[.slice ua cs.length ucap] 24)) #[.slice none 0 0] 29 0
  have b1 := (Below.refl ((w.alloc (.cells #[.slice ua cs.length ucap] 24)).alloc (.cells #[.slice none 0 0] 29)).heap.size _).alloc (Nat.le_refl _) (.cells #[.slice none 0 0] 29)
  have low : ∀ (p : Addr), p.block = w.heap.size + 1 → wa.cell? p = ((w.alloc (.cells #[.slice ua cs.length ucap] 24)).alloc (.cells #[.slice none 0 0] 29)).cell? p ∧ wa.frozen? p = ((w.alloc (.cells #[.slice ua cs.length ucap] 24)).alloc (.cells #[.slice none 0 0] 29)).frozen? p := by
    intro p hp
    rw [hba.cell (by rw [alloc_size, alloc_size, alloc_size]; omega), hba.frozen (by rw [alloc_size, alloc_size, alloc_size]; omega)]
    exact ⟨b1.cell (by rw [alloc_size, alloc_size]; omega), b1.frozen (by rw [alloc_size, alloc_size]; omega)⟩
  rw [alloc_size, alloc_size] at c1' f1'
  rw [alloc_size] at g0' e0'
  rw [alloc_size, alloc_size, alloc_size] at hba hown
  have c1 : wa.cell? ⟨w.heap.size + 1 + 1, 0, none⟩ = some (.slice none 0 0) := by
    rw [hba.cell (p := ⟨w.heap.size + 1 + 1, 0, none⟩) (by show w.heap.size + 1 + 1 < _; omega)]; exact c1'
  have f1 : wa.frozen? ⟨w.heap.size + 1 + 1, 0, none⟩ = false := by
    rw [hba.frozen (p := ⟨w.heap.size + 1 + 1, 0, none⟩) (by show w.heap.size + 1 + 1 < _; omega)]; exact f1'
  have g0 : wa.cell? ⟨w.heap.size + 1, 0, none⟩ = some (.slice none 0 0) := (low _ rfl).1.trans g0'
  have e0 : wa.frozen? ⟨w.heap.size + 1, 0, none⟩ = false := (low _ rfl).2.trans e0'
  clear c1' f1' g0' e0' low b1
  have hown0 := hown
  obtain ⟨g, cap, xs, rfl, -, -⟩ := hown0
  have HO := hide hown
  have HB := hide hba
  clear hown hba
  go_wp2_with fail
  have o1 := HO.out.set (a := ⟨w.heap.size + 1 + 1, 0, none⟩) (by show w.heap.size + 1 + 1 < _; omega) (.slice (some ⟨g, 0, none⟩) cs.length cap)
  have o2 := o1.set (a := ⟨w.heap.size + 1, 0, none⟩) (by show w.heap.size + 1 < _; omega) (.slice (some ⟨g, 0, none⟩) cs.length cap)
  have b0 := HA.out.trans (HB.out.mono (by omega))
  exact bodyPost_ret (v := .agg #[.slice (some ⟨g, 0, none⟩) cs.length cap]) (by simp [results, Tryd.results7, go_sem, g0]) rfl ⟨_, rfl, ⟨_, rfl, o2.lower (by omega)⟩, (b0.setCell (p := ⟨w.heap.size + 1 + 1, 0, none⟩) (by show _ ≤ w.heap.size + 1 + 1; omega) _).setCell (p := ⟨w.heap.size + 1, 0, none⟩) (by show _ ≤ w.heap.size + 1; omega) _⟩

end Go.Proofs.YtiianddblanffaaDoor
