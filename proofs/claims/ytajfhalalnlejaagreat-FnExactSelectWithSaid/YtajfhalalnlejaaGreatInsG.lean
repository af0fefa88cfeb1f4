/- slices.Insert of one pivot into pivots of the call's own: no room; at the end (promise 3). -/
import Derived.Test.YtajfhalalnlejaaGreatInsR
namespace Go.Proofs.YtajfhalalnlejaaGreat
open Go.RowKit Go.ChangeShapes
set_option linter.unusedSimpArgs false
set_option linter.unusedVariables false
set_option maxRecDepth 100000

theorem pvVs_drop (ps : List Pv) (i : Nat) : pvVs (ps.drop i) = (pvVs ps).drop (i * 2) := by
  have := congrArg pvVs (List.take_append_drop i ps)
  rw [pvVs_append, pvVs_take] at this
  have h2 := List.take_append_drop (i * 2) (pvVs ps)
  exact List.append_cancel_left (this.trans h2.symm)

set_option maxHeartbeats 4000000 in
theorem ins_grow (g c i vb vc : Nat) (x y : Int) (ps : List Pv) (lo hi : Nat) (w : World) (h : Owp w (.slice (some ⟨g, 0, none⟩) ps.length c) ps lo hi) (hi' : i < ps.length) (hc : c < ps.length + 1) (hv : w.heap[vb]? = some (.cells #[.int .i64 x, .int .i64 y] 133 (0, 0))) (hl : ps.length ≤ 1048576) :
    Calls Tryz.prog 153 #[.slice (some ⟨g, 0, none⟩) ps.length c, .int .i64 i, .slice (some ⟨vb, 0, none⟩) 1 vc] w (RetIns w (insAt ps i (x, y)) lo hi) := by
  have hg := h.lt g rfl
  rcases h.own.2 with ⟨hv0, hn⟩ | ⟨g', cap, cur, hv0, hlo, hgr, hnc, hcm, hcs, htk⟩
  · cases hv0
  simp only [Value.slice.injEq, Option.some.injEq, Addr.mk.injEq, and_true, true_and] at hv0
  obtain ⟨rfl, rfl⟩ := hv0
  obtain rfl : c = ps.length := by omega
  have hgw : g < w.heap.size := (Array.getElem?_eq_some_iff.1 hgr).1
  have hvw : vb < w.heap.size := (Array.getElem?_eq_some_iff.1 hv).1
  obtain ⟨i0, hi0, hi1, hi2, hi3⟩ := info_parts infoP
  have hsz2 : (Tryz.prog.info? 133).map (·.size) = some 2 := by rw [hi0]; simp [hi2]
  have hcel : ∀ j v, (pvVs ps)[j]? = some v → w.cell? ⟨g, j, none⟩ = some v := by
    intro j u hj
    rw [cell_of_row w g j cur 133 (0, 0) hgr]
    have hjl := (List.getElem?_eq_some_iff.1 hj).1
    rw [pvVs_length] at hjl
    rw [← htk, List.getElem?_take, if_pos (by omega)] at hj
    simpa using hj
  have hold : (Builtin.firstCells i0.size i (.slice (some ⟨g, 0, none⟩) i ps.length)).run Tryz.prog w.drew = .ok (pvVs (ps.take i)).toArray w.drew := by
    rw [hi2]
    exact run_firstCells_some w.drew 2 i ⟨g, 0, none⟩ i ps.length (pvVs (ps.take i)) (by rw [pvVs_length, List.length_take]; omega) (fun j u hj => by
      rw [addr_add, Nat.zero_add]
      have hjl := (List.getElem?_eq_some_iff.1 hj).1
      rw [pvVs_length, List.length_take] at hjl
      rw [pvVs_take, List.getElem?_take, if_pos (by omega)] at hj
      exact hcel j u hj)
  obtain ⟨G, hG⟩ : ∃ G, G = grownCap w (ps.length + 1) ps.length 133 := ⟨_, rfl⟩
  have hGn : ps.length + 1 ≤ G := by rw [hG]; exact grownCap_ge w _ _ _
  have hGm : G ≤ maxLen := by rw [hG]; exact grownCap_le_maxLen w (ps.length + 1) ps.length _ (by unfold maxLen; omega)
  obtain ⟨ROW, hROW⟩ : ∃ ROW : Array Value, ROW = (pvVs (ps.take i)).toArray ++ Builtin.zeroCells (Value.agg #[.int .i64 0, .int .i64 0]).cells (ps.length + 1 - i) ++ Builtin.zeroCells (Value.agg #[.int .i64 0, .int .i64 0]).cells (G - (ps.length + 1)) := ⟨_, rfl⟩
  obtain ⟨W1, hW1⟩ : ∃ W1, W1 = w.drew.alloc (.cells ROW 133) := ⟨_, rfl⟩
  have hrz : ∀ ty, (Builtin.append_ #[31, 3] ty #[.slice (some ⟨g, 0, none⟩) i ps.length, .int .i64 ((ps.length : Int) + 1 - (i : Int))]).run Tryz.prog w = .ok (.slice (some ⟨w.heap.size, 0, none⟩) (ps.length + 1) G) W1 := fun ty => by
    have hk : (ps.length : Int) + 1 - (i : Int) = ((ps.length + 1 - i : Nat) : Int) := by omega
    have hik : i + (ps.length + 1 - i) = ps.length + 1 := by omega
    have h := Lib.run_append_grow_zeros w 31 3 ty 133 i0 _ .i64 .i64 Tryz.underlying31 Tryz.underlying3 hi0 hi1 (some ⟨g, 0, none⟩) i ps.length (pvVs (ps.take i)) hold (ps.length + 1 - i) (by omega) (by omega) (by omega) (by omega) (by rw [hi3]; omega) (by rw [hi3, hik]; exact growslice_fits (by omega) (by omega))
    rw [hik, ← hG, ← hROW, ← hW1] at h
    rw [hk]
    exact h
  have hRS : ROW.size = G * 2 := by
    rw [hROW]
    simp [Builtin.zeroCells, Value.cells, pvVs_length]
    omega
  have hRL : ROW.toList.length = G * 2 := by rw [Array.length_toList]; exact hRS
  have hRT : ROW.toList.take (i * 2) = pvVs (ps.take i) := by
    rw [hROW]
    simp only [Array.toList_append, List.append_assoc]
    exact List.take_left' (by rw [pvVs_length, List.length_take]; omega)
  have hg1 : W1.heap[w.heap.size]? = some (.cells ROW.toList.toArray 133 (0, 0)) := by rw [Array.toArray_toList, hW1]; exact heap_alloc_new w.drew _
  have ho1 : ∀ b, b < w.heap.size → W1.heap[b]? = w.heap[b]? := fun b hb => by rw [hW1]; exact Below.heap_alloc w.drew _ _ hb
  have hb1 : Below w.heap.size w W1 := by rw [hW1]; exact (Below.refl w.heap.size w).drew.alloc (Nat.le_refl _) _
  have hs1 : W1.heap.size = w.heap.size + 1 := by rw [hW1]; simp
  have hD : (pvVs (ps.drop i)).length = (ps.length - i) * 2 := by rw [pvVs_length, List.length_drop]
  obtain ⟨w2, hrun2, hg2, hb2, ho2⟩ := run_copyN (P := Tryz.prog) W1 31 31 3 133 2 w.heap.size (i * 2) (ps.length + 1 - i) (G - i) ⟨vb, 0, none⟩ 1 vc ROW.toList 133 [.int .i64 x, .int .i64 y] Tryz.underlying31 hsz2 hg1
    (by rw [show Nat.min 1 (ps.length + 1 - i) = 1 by simp only [Nat.min_def]; split <;> omega]; rfl)
    (by intro j u hj
        have hh : W1.heap[vb]? = some (.cells #[.int .i64 x, .int .i64 y] 133 (0, 0)) := (ho1 vb hvw).trans hv
        rw [addr_add, cell_of_row W1 vb (0 + j) _ _ (0, 0) hh, Nat.zero_add]
        simpa using hj)
    (by rw [hRL]; simp; omega) (by intro u hu; simp at hu; rcases hu with rfl | rfl <;> rfl)
  have hsl : (splice ROW.toList (i * 2) [Value.int .i64 x, .int .i64 y]).length = G * 2 := by rw [length_splice _ _ _ (by rw [hRL]; simp; omega), hRL]
  have hh2 : ∀ b, b < w.heap.size → w2.heap[b]? = w.heap[b]? := fun b hb => (ho2 b (by omega)).trans (ho1 b hb)
  have HSRC := hide (show ∀ j v, (pvVs (ps.drop i))[j]? = some v → w2.drew.cell? ((⟨g, i * 2, none⟩ : Addr).add j) = some v by
    intro j u hj
    have hh : w2.drew.heap[g]? = some (.cells cur 133 (0, 0)) := (hh2 g hgw).trans hgr
    rw [addr_add, cell_of_row w2.drew g (i * 2 + j) cur 133 (0, 0) hh, ← cell_of_row w g (i * 2 + j) cur 133 (0, 0) hgr]
    rw [pvVs_drop, List.getElem?_drop] at hj
    exact hcel _ u hj)
  have HFIT := hide (show (i + 1) * 2 + (pvVs (ps.drop i)).length ≤ (splice ROW.toList (i * 2) [Value.int .i64 x, .int .i64 y]).length by omega)
  have HG2 := hide (show w2.drew.heap[w.heap.size]? = some (.cells (splice ROW.toList (i * 2) [Value.int .i64 x, .int .i64 y]).toArray 133 (0, 0)) from hg2)
  have HSP := hide (splice_new ROW.toList (pvVs (ps.drop i)) (.int .i64 x) (.int .i64 y) i ps.length hD (by omega) (by rw [hRL]; omega))
  have HTK := hide hRT
  have HSL := hide hsl
  have HDL := hide hD
  have HSZ := hide hsz2
  have HB2 := hide (show Below w.heap.size w w2.drew from (hb1.trans hb2).drew)
  have HS2 := hide (show w.heap.size < w2.heap.size by have := hb2.size; omega)
  have HH := hide h
  have HGM := hide hGm
  clear hG hROW hW1 hRS hRL hRT hg1 ho1 hb1 hs1 hD hg2 hb2 ho2 hsl hh2 hcel hold hsz2 hi0 hi1 hi2 hi3 hgr hcs htk hcm hv
  have b1 : (0 : Int) ≤ (i : Int) := by omega
  have b2 : (i : Int) ≤ (ps.length : Int) := by omega
  have b3 : ((i : Int) == (ps.length : Int)) = false := by simp; omega
  have b3' : ¬ ((i : Int) = (ps.length : Int)) := by omega
  have b4 : decide ((ps.length : Int) + 1 > (ps.length : Int)) = true := by simp; omega
  have b4' : decide ((ps.length : Int) < (ps.length : Int) + 1) = true := by simp; omega
  have b5 : ¬ (ps.length = i) := by omega
  have b6 : ¬ (G = i) := by omega
  have b7 : ¬ (G = i + 1) := by omega
  have b8 : (i : Int) + 1 ≤ (ps.length : Int) + 1 := by omega
  have b9 : (i : Int) ≤ (ps.length : Int) + 1 := by omega
  have hw1 : IntKind.i64.wrap ((i : Int) + 1) = (i : Int) + 1 := by rw [IntKind.wrap_i64]; omega
  have hb1 : (0 : Int) ≤ (i : Int) + 1 := by omega
  have htn : ((i : Int) + 1).toNat = i + 1 := by omega
  go_enter Tryz.func153, Tryz.ntmps153
  go_wp2_with (first | (at_builtin; refine Lib.wpList_append_run _ rfl _ _ _ _ rfl _ _ rfl rfl _ _ (hrz _) ?_) | (simp only [hrun2]))
  go_region_law (refine step_copyN rfl _ _ 31 31 rfl 133 2 Tryz.underlying31 HSZ.out w.heap.size ((i + 1) * 2) (ps.length + 1 - (i + 1)) (G - (i + 1)) ⟨g, i * 2, none⟩ (ps.length - i) (ps.length - i) (by simp [Act.eval, Act.put]) (by simp [Act.eval, Act.put]) (splice ROW.toList (i * 2) [.int .i64 x, .int .i64 y]) 133 HG2.out (pvVs (ps.drop i)) (by rw [HDL.out]; simp only [Nat.min_def]; split <;> omega) HSRC.out HFIT.out (pvVs_cell _) ?_; intro w3 hg3 hb3 ho3)
  have HB3 := hide (HB2.out.trans hb3)
  have HS3 := hide (Nat.lt_of_lt_of_le HS2.out hb3.size)
  clear hb3 ho3
  go_wp2_with fail
  go_ret
  refine ⟨_, rfl, .inr ⟨⟨pvVs_length _, .inr ⟨w.heap.size, G, (splice (splice ROW.toList (i * 2) [.int .i64 x, .int .i64 y]) ((i + 1) * 2) (pvVs (ps.drop i))).toArray, by rw [insAt_length]; rfl, Nat.le_refl _, hg3.out, by rw [insAt_length]; omega, HGM.out, ?_, ?_⟩⟩, fun g' h' => by cases h'; exact HS3.out, HB3.out.size, Nat.le_refl _⟩, ⟨HB3.out.mono (by have := HH.out.le; have := HH.out.top; omega), fun b _ hlt => HB3.out.block b hlt⟩⟩
  · rw [List.size_toArray, length_splice _ _ _ HFIT.out, HSL.out]
  · rw [insAt_length, HSP.out, HTK.out, insAt_vs]

set_option maxHeartbeats 4000000 in
theorem ins_end (a : Option Addr) (c vb vc : Nat) (x y : Int) (ps : List Pv) (lo hi : Nat) (w : World) (h : Owp w (.slice a ps.length c) ps lo hi) (hv : w.heap[vb]? = some (.cells #[.int .i64 x, .int .i64 y] 133 (0, 0))) (hl : ps.length ≤ 1048576) :
    Calls Tryz.prog 153 #[.slice a ps.length c, .int .i64 ps.length, .slice (some ⟨vb, 0, none⟩) 1 vc] w (RetIns w (insAt ps ps.length (x, y)) lo hi) := by
  obtain ⟨i0, hi0, hi1, hi2, hi3⟩ := info_parts infoP
  have hlow : lo ≤ w.heap.size := Nat.le_trans h.le h.top
  obtain ⟨v', w', hr, ho, hgw, -, hbl⟩ := run_append_own_at (P := Tryz.prog) (w := w) lo 31 31 133 i0 _ 2 16 Tryz.underlying31 hi0 hi1 hi2 hi3 rfl (by decide) _ ps.length (pvVs ps) h.own ⟨vb, 0, none⟩ 1 vc [.int .i64 x, .int .i64 y] rfl
    (by intro j u hj
        rw [addr_add, cell_of_row w vb (0 + j) _ _ (0, 0) hv, Nat.zero_add]
        simpa using hj)
    (by intro u hu; simp at hu; rcases hu with rfl | rfl <;> rfl) (by unfold maxLen; omega) (by omega) hlow
  have hins : insAt ps ps.length (x, y) = ps ++ [(x, y)] := by simp [insAt]
  have hown : Op w' lo v' (ps ++ [(x, y)]) := by
    unfold Op
    rw [pvVs_append, List.length_append]
    exact ho
  have hsg : Seg lo hi w w' := ⟨(Below.refl lo w).grown hgw hlow (fun k hk => (World.ownsRow.lt h.own k hk).1), fun b hb hlt => hgw.block b hlt (fun e => by have := h.lt b e.symm; omega)⟩
  have HR : Hid (RetIns w (insAt ps ps.length (x, y)) lo hi (.returned v') w') := by
    rw [hins]
    refine ⟨v', rfl, ?_, hsg⟩
    rcases hbl with e | e
    · exact .inl ⟨hown, fun g hg => h.lt g (by rw [← e]; exact hg), h.le, Nat.le_trans h.top hsg.below.size⟩
    · refine .inr ⟨owns_raise hown e, fun g hg => (World.ownsRow.lt hown g hg).2, hsg.below.size, Nat.le_refl _⟩
  have hr : (Builtin.append_ #[31, 31] 31 #[.slice a ps.length c, .slice (some ⟨vb, 0, none⟩) 1 vc]).run Tryz.prog w = .ok v' w' := hr
  have hcap := h.cap
  obtain ⟨ca, cn, cc, hce, hcl, -⟩ := hcap
  simp only [Value.slice.injEq] at hce
  obtain ⟨rfl, rfl, rfl⟩ := hce
  clear hi0 hi1 hi2 hi3 ho hgw hbl hins hown hsg h hv
  have b1 : (ps.length : Int) ≤ (c : Int) := by omega
  by_cases hcc : c = ps.length
  · subst hcc
    go_enter Tryz.func153, Tryz.ntmps153
    go_wp2_with (at_builtin; refine Lib.wpList_append_run _ rfl _ _ _ _ rfl _ _ rfl rfl _ _ hr ?_)
    go_ret
    exact HR.out
  · go_enter Tryz.func153, Tryz.ntmps153
    go_wp2_with (at_builtin; refine Lib.wpList_append_run _ rfl _ _ _ _ rfl _ _ rfl rfl _ _ hr ?_)
    go_ret
    exact HR.out

/-- slices.Insert of one pivot. -/
theorem ins_any (a : Option Addr) (c i vb vc : Nat) (x y : Int) (ps : List Pv) (lo hi : Nat) (w : World) (h : Owp w (.slice a ps.length c) ps lo hi) (hi' : i ≤ ps.length) (hv : w.heap[vb]? = some (.cells #[.int .i64 x, .int .i64 y] 133 (0, 0))) (hvb : hi ≤ vb) (hl : ps.length ≤ 1048576) :
    Calls Tryz.prog 153 #[.slice a ps.length c, .int .i64 i, .slice (some ⟨vb, 0, none⟩) 1 vc] w (RetIns w (insAt ps i (x, y)) lo hi) := by
  by_cases he : i = ps.length
  · subst he
    exact ins_end a c vb vc x y ps lo hi w h hv hl
  · obtain ⟨g, rfl⟩ : ∃ g, a = some ⟨g, 0, none⟩ := by
      rcases h.own.2 with ⟨hv0, hn⟩ | ⟨g, cap, cur, hv0, _⟩
      · omega
      · simp only [Value.slice.injEq] at hv0
        exact ⟨g, hv0.1⟩
    by_cases hc : ps.length + 1 ≤ c
    · exact ins_room g c i vb vc x y ps lo hi w h (by omega) hc hv hvb hl
    · exact ins_grow g c i vb vc x y ps lo hi w h (by omega) (by omega) hv hl

end Go.Proofs.YtajfhalalnlejaaGreat
