/- What RowCount returns: of the reference and of the program (promise 2). -/
import Derived.Test.YtgeegbbcjdlkbaaGreatDoorTblI
import Derived.Test.YtgeegbbcjdlkbaaGreatDoorTblLaw
namespace Go.Proofs.YtgeegbbcjdlkbaaGreatDoor
open Go.RowKit Go.ChangeShapes
set_option linter.unusedSimpArgs false
set_option linter.unusedVariables false
set_option maxRecDepth 100000

/-- The number of rows of a table, 0 if it is none. -/
noncomputable def rowsC (cs : List Col) : Int := if isT cs = true then ((cs.headD (ByteArray.empty, [])).2.length : Int) else 0

theorem isT_ok {cs : List Col} (h : isT cs = true) : IsT cs := Classical.byContradiction fun hn => by
  rw [isT_no hn] at h
  cases h

theorem isT_len {cs : List Col} (h : isT cs = true) : 1 ≤ cs.length ∧ cs.length ≤ 4 := (isT_ok h).1

set_option maxHeartbeats 1000000 in
theorem sRows_any (v : Value) (cs : List Col) (w : World) (B : Nat) (hv : Tbl w B v cs) (hB : B ≤ w.heap.size) :
    Calls Tryz.prog 25 #[v] w (RetI1 w (rowsC cs)) := by
  have HT := hide hv
  obtain ⟨a, cap, rfl⟩ := hv.form
  clear hv
  have HB1 := hide (Box.new w (.slice a cs.length cap) 26)
  obtain ⟨z, hz⟩ : ∃ z, z = rowsC cs := ⟨_, rfl⟩
  obtain ⟨t, ht⟩ : ∃ t, t = isT cs := ⟨_, rfl⟩
  rw [← hz]
  cases t
  · have hfin := hide (show z = 0 by rw [hz]; unfold rowsC; rw [← ht]; rfl)
    have HTT := hide ht
    clear hz ht
    go_enter Tryz.func25, Tryz.ntmps25
    go_wp2_with fail
    obtain ⟨w1, hw1⟩ : ∃ w1, w1 = w.alloc (.cells #[.slice a cs.length cap] 26) := ⟨_, rfl⟩
    rw [← hw1] at HB1 ⊢
    clear hw1
    go_at_call 12
    refine (sTable_any _ cs w1 B (HT.out.below HB1.out.1 hB) (Nat.le_trans hB HB1.out.1.size)).mono ?_
    rintro e w2 ⟨rfl, hb2⟩
    rw [← HTT.out]
    have B2 := hide (HB1.out.up hb2)
    clear hb2
    go_wp2_with fail
    go_ret
    exact ⟨by rw [hfin.out]; rfl, B2.out.1⟩
  · have hl := isT_len ht.symm
    have T1 := HT.out
    obtain ⟨u, he, hu⟩ := T1
    simp only [Value.agg.injEq] at he
    obtain ⟨rfl⟩ : Value.slice a cs.length cap = u := by simpa using he
    obtain ⟨a', cap', he', hlen, hcell⟩ := hu
    obtain ⟨rfl, rfl⟩ : a = a' ∧ cap = cap' := by simpa using he'
    obtain ⟨b, o, u, rfl, hbB, hc, hc2, hn, hi⟩ := hcell 0 (by omega)
    obtain ⟨q, hq⟩ : ∃ q, q = cs[0]'(by omega) := ⟨_, rfl⟩
    rw [← hq] at hi
    obtain ⟨n0, l0⟩ := q
    simp only at hi
    obtain ⟨a4, c4, rfl, hl4, -, -⟩ := hi
    have hfin := hide (show z = l0.length by
      rw [hz]; unfold rowsC; rw [← ht]
      match cs, hl, hq with
      | c :: r, _, hq => simp at hq; subst hq; simp)
    have HC2 := hide hc2
    have HTT := hide ht
    clear hz ht hcell hc hc2 hn hq he he'
    go_enter Tryz.func25, Tryz.ntmps25
    go_wp2_with fail
    obtain ⟨w1, hw1⟩ : ∃ w1, w1 = w.alloc (.cells #[.slice (some ⟨b, o, none⟩) cs.length cap] 26) := ⟨_, rfl⟩
    rw [← hw1] at HB1 ⊢
    clear hw1
    go_at_call 12
    refine (sTable_any _ cs w1 B (HT.out.below HB1.out.1 hB) (Nat.le_trans hB HB1.out.1.size)).mono ?_
    rintro e w2 ⟨rfl, hb2⟩
    rw [← HTT.out]
    have B2 := hide (HB1.out.up hb2)
    have b2 := B2.out.1
    have t2 := B2.out.2.1
    have d3 : w2.cell? ⟨b, o + 1, none⟩ = some (.slice a4 l0.length c4) := by
      rw [b2.cell (p := ⟨b, o + 1, none⟩) (Nat.lt_of_lt_of_le hbB hB)]; simpa using HC2.out
    clear hb2 b2
    go_wp2_with fail
    go_ret
    exact ⟨by rw [hfin.out]; rfl, B2.out.1⟩

set_option maxHeartbeats 1000000 in
theorem iRows_any (v : Value) (cs : List Col) (w : World) (B : Nat) (hv : Tbl w B v cs) (hB : B ≤ w.heap.size) :
    Calls Tryz.prog 24 #[v] w (RetI1 w (rowsC cs)) := by
  have HT := hide hv
  obtain ⟨a, cap, rfl⟩ := hv.form
  clear hv
  have HB1 := hide (Box.new w (.slice a cs.length cap) 26)
  obtain ⟨z, hz⟩ : ∃ z, z = rowsC cs := ⟨_, rfl⟩
  obtain ⟨t, ht⟩ : ∃ t, t = isT cs := ⟨_, rfl⟩
  rw [← hz]
  cases t
  · have hfin := hide (show z = 0 by rw [hz]; unfold rowsC; rw [← ht]; rfl)
    have HTT := hide ht
    clear hz ht
    go_enter Tryz.func24, Tryz.ntmps24
    go_wp2_with fail
    obtain ⟨w1, hw1⟩ : ∃ w1, w1 = w.alloc (.cells #[.slice a cs.length cap] 26) := ⟨_, rfl⟩
    rw [← hw1] at HB1 ⊢
    clear hw1
    go_at_call 30
    refine (iTable_any _ cs w1 B (HT.out.below HB1.out.1 hB) (Nat.le_trans hB HB1.out.1.size)).mono ?_
    rintro e w2 ⟨rfl, hb2⟩
    rw [← HTT.out]
    have B2 := hide (HB1.out.up hb2)
    clear hb2
    go_wp2_with fail
    go_ret
    exact ⟨by rw [hfin.out]; rfl, B2.out.1⟩
  · have hl := isT_len ht.symm
    have T1 := HT.out
    obtain ⟨u, he, hu⟩ := T1
    simp only [Value.agg.injEq] at he
    obtain ⟨rfl⟩ : Value.slice a cs.length cap = u := by simpa using he
    obtain ⟨a', cap', he', hlen, hcell⟩ := hu
    obtain ⟨rfl, rfl⟩ : a = a' ∧ cap = cap' := by simpa using he'
    obtain ⟨b, o, u, rfl, hbB, hc, hc2, hn, hi⟩ := hcell 0 (by omega)
    obtain ⟨q, hq⟩ : ∃ q, q = cs[0]'(by omega) := ⟨_, rfl⟩
    rw [← hq] at hi
    obtain ⟨n0, l0⟩ := q
    simp only at hi
    obtain ⟨a4, c4, rfl, hl4, -, -⟩ := hi
    have hfin := hide (show z = l0.length by
      rw [hz]; unfold rowsC; rw [← ht]
      match cs, hl, hq with
      | c :: r, _, hq => simp at hq; subst hq; simp)
    have HC2 := hide hc2
    have HTT := hide ht
    clear hz ht hcell hc hc2 hn hq he he'
    go_enter Tryz.func24, Tryz.ntmps24
    go_wp2_with fail
    obtain ⟨w1, hw1⟩ : ∃ w1, w1 = w.alloc (.cells #[.slice (some ⟨b, o, none⟩) cs.length cap] 26) := ⟨_, rfl⟩
    rw [← hw1] at HB1 ⊢
    clear hw1
    go_at_call 30
    refine (iTable_any _ cs w1 B (HT.out.below HB1.out.1 hB) (Nat.le_trans hB HB1.out.1.size)).mono ?_
    rintro e w2 ⟨rfl, hb2⟩
    rw [← HTT.out]
    have B2 := hide (HB1.out.up hb2)
    have b2 := B2.out.1
    have t2 := B2.out.2.1
    have d3 : w2.cell? ⟨b, o + 1, none⟩ = some (.slice a4 l0.length c4) := by
      rw [b2.cell (p := ⟨b, o + 1, none⟩) (Nat.lt_of_lt_of_le hbB hB)]; simpa using HC2.out
    clear hb2 b2
    go_wp2_with fail
    go_ret
    exact ⟨by rw [hfin.out]; rfl, B2.out.1⟩

end Go.Proofs.YtgeegbbcjdlkbaaGreatDoor
