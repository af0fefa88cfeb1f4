/- Several texts in one: InsG, AdI, Exch, Have, ApI, ApJ, Jump, PtI, PtJ, CrI. -/
import Derived.Test.YtkhhlifnbelckaaInsR
import Derived.Test.YtkhhlifnbelckaaAdC
import Derived.Test.YtkhhlifnbelckaaCkQ
import Derived.BigQuiet
import Derived.Test.YtkhhlifnbelckaaSwp
import Derived.BigRegion
import Derived.Test.YtkhhlifnbelckaaSw
import Derived.Test.YtkhhlifnbelckaaApD
import Derived.Test.YtkhhlifnbelckaaCpI
import Derived.Test.YtkhhlifnbelckaaKit
import Derived.WalkMore
import Derived.ScopeJumps
import Derived.Test.YtkhhlifnbelckaaPtS
import Derived.Test.YtkhhlifnbelckaaCb
/- slices.Insert of one pivot into pivots of the call's own: no room; at the end (promise 3). -/
namespace Go.Proofs.Ytkhhlifnbelckaa
open Go.RowKit Go.ChangeShapes
set_option linter.unusedSimpArgs false
set_option linter.unusedVariables false
set_option maxRecDepth 100000

theorem pvVs_drop (ps : List Pv) (i : Nat) : pvVs (ps.drop i) = (pvVs ps).drop (i * 2) := by
  have := congrArg pvVs (List.take_append_drop i ps)
  rw [pvVs_append, pvVs_take] at this
  have h2 := List.take_append_drop (i * 2) (pvVs ps)
  exact List.append_cancel_left (this.trans h2.symm)

set_option maxHeartbeats 4000000 in
theorem ins_grow (g c i vb vc : Nat) (x y : Int) (ps : List Pv) (lo hi : Nat) (w : World) (h : Owp w (.slice (some ⟨g, 0, none⟩) ps.length c) ps lo hi) (hi' : i < ps.length) (hc : c < ps.length + 1) (hv : w.heap[vb]? = some (.cells #[.int .i64 x, .int .i64 y] 91 (0, 0))) (hl : ps.length ≤ 1048576) :
    Calls Try.prog 100 #[.slice (some ⟨g, 0, none⟩) ps.length c, .int .i64 i, .slice (some ⟨vb, 0, none⟩) 1 vc] w (RetIns w (insAt ps i (x, y)) lo hi) := by
  have hg := h.lt g rfl
  rcases h.own.2 with ⟨hv0, hn⟩ | ⟨g', cap, cur, hv0, hlo, hgr, hnc, hcm, hcs, htk⟩
  · cases hv0
  simp only [Value.slice.injEq, Option.some.injEq, Addr.mk.injEq, and_true, true_and] at hv0
  obtain ⟨rfl, rfl⟩ := hv0
  obtain rfl : c = ps.length := by omega
  have hgw : g < w.heap.size := (Array.getElem?_eq_some_iff.1 hgr).1
  have hvw : vb < w.heap.size := (Array.getElem?_eq_some_iff.1 hv).1
  obtain ⟨i0, hi0, hi1, hi2, hi3⟩ := info_parts infoP
  have hsz2 : (Try.prog.info? 91).map (·.size) = some 2 := by rw [hi0]; simp [hi2]
  have hcel : ∀ j v, (pvVs ps)[j]? = some v → w.cell? ⟨g, j, none⟩ = some v := by
    intro j u hj
    rw [cell_of_row w g j cur 91 (0, 0) hgr]
    have hjl := (List.getElem?_eq_some_iff.1 hj).1
    rw [pvVs_length] at hjl
    rw [← htk, List.getElem?_take, if_pos (by omega)] at hj
    simpa using hj
  have hold : (Builtin.firstCells i0.size i (.slice (some ⟨g, 0, none⟩) i ps.length)).run Try.prog w.drew = .ok (pvVs (ps.take i)).toArray w.drew := by
    rw [hi2]
    exact run_firstCells_some w.drew 2 i ⟨g, 0, none⟩ i ps.length (pvVs (ps.take i)) (by rw [pvVs_length, List.length_take]; omega) (fun j u hj => by
      rw [addr_add, Nat.zero_add]
      have hjl := (List.getElem?_eq_some_iff.1 hj).1
      rw [pvVs_length, List.length_take] at hjl
      rw [pvVs_take, List.getElem?_take, if_pos (by omega)] at hj
      exact hcel j u hj)
  obtain ⟨G, hG⟩ : ∃ G, G = grownCap w (ps.length + 1) ps.length 91 := ⟨_, rfl⟩
  have hGn : ps.length + 1 ≤ G := by rw [hG]; exact grownCap_ge w _ _ _
  have hGm : G ≤ maxLen := by rw [hG]; exact grownCap_le_maxLen w (ps.length + 1) ps.length _ (by unfold maxLen; omega)
  obtain ⟨ROW, hROW⟩ : ∃ ROW : Array Value, ROW = (pvVs (ps.take i)).toArray ++ Builtin.zeroCells (Value.agg #[.int .i64 0, .int .i64 0]).cells (ps.length + 1 - i) ++ Builtin.zeroCells (Value.agg #[.int .i64 0, .int .i64 0]).cells (G - (ps.length + 1)) := ⟨_, rfl⟩
  obtain ⟨W1, hW1⟩ : ∃ W1, W1 = w.drew.alloc (.cells ROW 91) := ⟨_, rfl⟩
  have hrz : ∀ ty, (Builtin.append_ #[25, 3] ty #[.slice (some ⟨g, 0, none⟩) i ps.length, .int .i64 ((ps.length : Int) + 1 - (i : Int))]).run Try.prog w = .ok (.slice (some ⟨w.heap.size, 0, none⟩) (ps.length + 1) G) W1 := fun ty => by
    have hk : (ps.length : Int) + 1 - (i : Int) = ((ps.length + 1 - i : Nat) : Int) := by omega
    have hik : i + (ps.length + 1 - i) = ps.length + 1 := by omega
    have h := Lib.run_append_grow_zeros w 25 3 ty 91 i0 _ .i64 .i64 Try.underlying25 Try.underlying3 hi0 hi1 (some ⟨g, 0, none⟩) i ps.length (pvVs (ps.take i)) hold (ps.length + 1 - i) (by omega) (by omega) (by omega) (by omega) (by rw [hi3]; omega) (by rw [hi3, hik]; exact growslice_fits (by omega) (by omega))
    rw [hik, ← hG, ← hROW, ← hW1] at h
    rw [hk]
    exact h
  have hRS : ROW.size = G * 2 := by
    rw [hROW]
    simp [Builtin.zeroCells, Value.cells, pvVs_length]
    omega
  have hRL : ROW.toList.length = G * 2 := by rw [Array.length_toList]; exact hRS
  have hRT : ROW.toList.take (i * 2) = pvVs (ps.take i) := by
    rw [hROW]
    simp only [Array.toList_append, List.append_assoc]
    exact List.take_left' (by rw [pvVs_length, List.length_take]; omega)
  have hg1 : W1.heap[w.heap.size]? = some (.cells ROW.toList.toArray 91 (0, 0)) := by rw [Array.toArray_toList, hW1]; exact heap_alloc_new w.drew _
  have ho1 : ∀ b, b < w.heap.size → W1.heap[b]? = w.heap[b]? := fun b hb => by rw [hW1]; exact Below.heap_alloc w.drew _ _ hb
  have hb1 : Below w.heap.size w W1 := by rw [hW1]; exact (Below.refl w.heap.size w).drew.alloc (Nat.le_refl _) _
  have hs1 : W1.heap.size = w.heap.size + 1 := by rw [hW1]; simp
  have hD : (pvVs (ps.drop i)).length = (ps.length - i) * 2 := by rw [pvVs_length, List.length_drop]
  obtain ⟨w2, hrun2, hg2, hb2, ho2⟩ := run_copyN (P := Try.prog) W1 25 25 3 91 2 w.heap.size (i * 2) (ps.length + 1 - i) (G - i) ⟨vb, 0, none⟩ 1 vc ROW.toList 91 [.int .i64 x, .int .i64 y] Try.underlying25 hsz2 hg1
    (by rw [show Nat.min 1 (ps.length + 1 - i) = 1 by simp only [Nat.min_def]; split <;> omega]; rfl)
    (by intro j u hj
        have hh : W1.heap[vb]? = some (.cells #[.int .i64 x, .int .i64 y] 91 (0, 0)) := (ho1 vb hvw).trans hv
        rw [addr_add, cell_of_row W1 vb (0 + j) _ _ (0, 0) hh, Nat.zero_add]
        simpa using hj)
    (by rw [hRL]; simp; omega) (by intro u hu; simp at hu; rcases hu with rfl | rfl <;> rfl)
  have hsl : (splice ROW.toList (i * 2) [Value.int .i64 x, .int .i64 y]).length = G * 2 := by rw [length_splice _ _ _ (by rw [hRL]; simp; omega), hRL]
  have hh2 : ∀ b, b < w.heap.size → w2.heap[b]? = w.heap[b]? := fun b hb => (ho2 b (by omega)).trans (ho1 b hb)
  have HSRC := hide (show ∀ j v, (pvVs (ps.drop i))[j]? = some v → w2.drew.cell? ((⟨g, i * 2, none⟩ : Addr).add j) = some v by
    intro j u hj
    have hh : w2.drew.heap[g]? = some (.cells cur 91 (0, 0)) := (hh2 g hgw).trans hgr
    rw [addr_add, cell_of_row w2.drew g (i * 2 + j) cur 91 (0, 0) hh, ← cell_of_row w g (i * 2 + j) cur 91 (0, 0) hgr]
    rw [pvVs_drop, List.getElem?_drop] at hj
    exact hcel _ u hj)
  have HFIT := hide (show (i + 1) * 2 + (pvVs (ps.drop i)).length ≤ (splice ROW.toList (i * 2) [Value.int .i64 x, .int .i64 y]).length by omega)
  have HG2 := hide (show w2.drew.heap[w.heap.size]? = some (.cells (splice ROW.toList (i * 2) [Value.int .i64 x, .int .i64 y]).toArray 91 (0, 0)) from hg2)
  have HSP := hide (splice_new ROW.toList (pvVs (ps.drop i)) (.int .i64 x) (.int .i64 y) i ps.length hD (by omega) (by rw [hRL]; omega))
  have HTK := hide hRT
  have HSL := hide hsl
  have HDL := hide hD
  have HSZ := hide hsz2
  have HB2 := hide (show Below w.heap.size w w2.drew from (hb1.trans hb2).drew)
  have HS2 := hide (show w.heap.size < w2.heap.size by have := hb2.size; omega)
  have HH := hide h
  have HGM := hide hGm
  clear hG hROW hW1 hRS hRL hRT hg1 ho1 hb1 hs1 hD hg2 hb2 ho2 hsl hh2 hcel hold hsz2 hi0 hi1 hi2 hi3 hgr hcs htk hcm hv
  have b1 : (0 : Int) ≤ (i : Int) := by omega
  have b2 : (i : Int) ≤ (ps.length : Int) := by omega
  have b3 : ((i : Int) == (ps.length : Int)) = false := by simp; omega
  have b3' : ¬ ((i : Int) = (ps.length : Int)) := by omega
  have b4 : decide ((ps.length : Int) + 1 > (ps.length : Int)) = true := by simp; omega
  have b4' : decide ((ps.length : Int) < (ps.length : Int) + 1) = true := by simp; omega
  have b5 : ¬ (ps.length = i) := by omega
  have b6 : ¬ (G = i) := by omega
  have b7 : ¬ (G = i + 1) := by omega
  have b8 : (i : Int) + 1 ≤ (ps.length : Int) + 1 := by omega
  have b9 : (i : Int) ≤ (ps.length : Int) + 1 := by omega
  have hw1 : IntKind.i64.wrap ((i : Int) + 1) = (i : Int) + 1 := by rw [IntKind.wrap_i64]; omega
  have hb1 : (0 : Int) ≤ (i : Int) + 1 := by omega
  have htn : ((i : Int) + 1).toNat = i + 1 := by omega
  go_enter Try.func100, Try.ntmps100
  go_wp2_with (first | (at_builtin; refine Lib.wpList_append_run _ rfl _ _ _ _ rfl _ _ rfl rfl _ _ (hrz _) ?_) | (simp only [hrun2]))
  go_region_law (refine step_copyN rfl _ _ 25 25 rfl 91 2 Try.underlying25 HSZ.out w.heap.size ((i + 1) * 2) (ps.length + 1 - (i + 1)) (G - (i + 1)) ⟨g, i * 2, none⟩ (ps.length - i) (ps.length - i) (by simp [Act.eval, Act.put]) (by simp [Act.eval, Act.put]) (splice ROW.toList (i * 2) [.int .i64 x, .int .i64 y]) 91 HG2.out (pvVs (ps.drop i)) (by rw [HDL.out]; simp only [Nat.min_def]; split <;> omega) HSRC.out HFIT.out (pvVs_cell _) ?_; intro w3 hg3 hb3 ho3)
  have HB3 := hide (HB2.out.trans hb3)
  have HS3 := hide (Nat.lt_of_lt_of_le HS2.out hb3.size)
  clear hb3 ho3
  go_wp2_with fail
  go_ret
  refine ⟨_, rfl, .inr ⟨⟨pvVs_length _, .inr ⟨w.heap.size, G, (splice (splice ROW.toList (i * 2) [.int .i64 x, .int .i64 y]) ((i + 1) * 2) (pvVs (ps.drop i))).toArray, by rw [insAt_length]; rfl, Nat.le_refl _, hg3.out, by rw [insAt_length]; omega, HGM.out, ?_, ?_⟩⟩, fun g' h' => by cases h'; exact HS3.out, HB3.out.size, Nat.le_refl _⟩, ⟨HB3.out.mono (by have := HH.out.le; have := HH.out.top; omega), fun b _ hlt => HB3.out.block b hlt⟩⟩
  · rw [List.size_toArray, length_splice _ _ _ HFIT.out, HSL.out]
  · rw [insAt_length, HSP.out, HTK.out, insAt_vs]

set_option maxHeartbeats 4000000 in
theorem ins_end (a : Option Addr) (c vb vc : Nat) (x y : Int) (ps : List Pv) (lo hi : Nat) (w : World) (h : Owp w (.slice a ps.length c) ps lo hi) (hv : w.heap[vb]? = some (.cells #[.int .i64 x, .int .i64 y] 91 (0, 0))) (hl : ps.length ≤ 1048576) :
    Calls Try.prog 100 #[.slice a ps.length c, .int .i64 ps.length, .slice (some ⟨vb, 0, none⟩) 1 vc] w (RetIns w (insAt ps ps.length (x, y)) lo hi) := by
  obtain ⟨i0, hi0, hi1, hi2, hi3⟩ := info_parts infoP
  have hlow : lo ≤ w.heap.size := Nat.le_trans h.le h.top
  obtain ⟨v', w', hr, ho, hgw, -, hbl⟩ := run_append_own_at (P := Try.prog) (w := w) lo 25 25 91 i0 _ 2 16 Try.underlying25 hi0 hi1 hi2 hi3 rfl (by decide) _ ps.length (pvVs ps) h.own ⟨vb, 0, none⟩ 1 vc [.int .i64 x, .int .i64 y] rfl
    (by intro j u hj
        rw [addr_add, cell_of_row w vb (0 + j) _ _ (0, 0) hv, Nat.zero_add]
        simpa using hj)
    (by intro u hu; simp at hu; rcases hu with rfl | rfl <;> rfl) (by unfold maxLen; omega) (by omega) hlow
  have hins : insAt ps ps.length (x, y) = ps ++ [(x, y)] := by simp [insAt]
  have hown : Op w' lo v' (ps ++ [(x, y)]) := by
    unfold Op
    rw [pvVs_append, List.length_append]
    exact ho
  have hsg : Seg lo hi w w' := ⟨(Below.refl lo w).grown hgw hlow (fun k hk => (World.ownsRow.lt h.own k hk).1), fun b hb hlt => hgw.block b hlt (fun e => by have := h.lt b e.symm; omega)⟩
  have HR : Hid (RetIns w (insAt ps ps.length (x, y)) lo hi (.returned v') w') := by
    rw [hins]
    refine ⟨v', rfl, ?_, hsg⟩
    rcases hbl with e | e
    · exact .inl ⟨hown, fun g hg => h.lt g (by rw [← e]; exact hg), h.le, Nat.le_trans h.top hsg.below.size⟩
    · refine .inr ⟨owns_raise hown e, fun g hg => (World.ownsRow.lt hown g hg).2, hsg.below.size, Nat.le_refl _⟩
  have hr : (Builtin.append_ #[25, 25] 25 #[.slice a ps.length c, .slice (some ⟨vb, 0, none⟩) 1 vc]).run Try.prog w = .ok v' w' := hr
  have hcap := h.cap
  obtain ⟨ca, cn, cc, hce, hcl, -⟩ := hcap
  simp only [Value.slice.injEq] at hce
  obtain ⟨rfl, rfl, rfl⟩ := hce
  clear hi0 hi1 hi2 hi3 ho hgw hbl hins hown hsg h hv
  have b1 : (ps.length : Int) ≤ (c : Int) := by omega
  by_cases hcc : c = ps.length
  · subst hcc
    go_enter Try.func100, Try.ntmps100
    go_wp2_with (at_builtin; refine Lib.wpList_append_run _ rfl _ _ _ _ rfl _ _ rfl rfl _ _ hr ?_)
    go_ret
    exact HR.out
  · go_enter Try.func100, Try.ntmps100
    go_wp2_with (at_builtin; refine Lib.wpList_append_run _ rfl _ _ _ _ rfl _ _ rfl rfl _ _ hr ?_)
    go_ret
    exact HR.out

/-- slices.Insert of one pivot. -/
theorem ins_any (a : Option Addr) (c i vb vc : Nat) (x y : Int) (ps : List Pv) (lo hi : Nat) (w : World) (h : Owp w (.slice a ps.length c) ps lo hi) (hi' : i ≤ ps.length) (hv : w.heap[vb]? = some (.cells #[.int .i64 x, .int .i64 y] 91 (0, 0))) (hvb : hi ≤ vb) (hl : ps.length ≤ 1048576) :
    Calls Try.prog 100 #[.slice a ps.length c, .int .i64 i, .slice (some ⟨vb, 0, none⟩) 1 vc] w (RetIns w (insAt ps i (x, y)) lo hi) := by
  by_cases he : i = ps.length
  · subst he
    exact ins_end a c vb vc x y ps lo hi w h hv hl
  · obtain ⟨g, rfl⟩ : ∃ g, a = some ⟨g, 0, none⟩ := by
      rcases h.own.2 with ⟨hv0, hn⟩ | ⟨g, cap, cur, hv0, _⟩
      · omega
      · simp only [Value.slice.injEq] at hv0
        exact ⟨g, hv0.1⟩
    by_cases hc : ps.length + 1 ≤ c
    · exact ins_room g c i vb vc x y ps lo hi w h (by omega) hc hv hvb hl
    · exact ins_grow g c i vb vc x y ps lo hi w h (by omega) (by omega) hv hl

end Go.Proofs.Ytkhhlifnbelckaa

/- What AddPivot of the program returns (promise 3). Written by gen_adi.py. -/
namespace Go.Proofs.Ytkhhlifnbelckaa
open Go.RowKit Go.ChangeShapes
set_option linter.unusedSimpArgs false
set_option linter.unusedVariables false
set_option maxRecDepth 100000

set_option maxHeartbeats 8000000 in
theorem iAdd_any (v : Value) (l r : List Int) (ps : List Pv) (pv pa : Int) (w : World) (B : Nat) (hv : Ck w B v l r ps) (hwf : I64 pv ∧ I64 pa) (hB : B ≤ w.heap.size) (hl : l.length ≤ 1048576) (hr : r.length ≤ 1048576) (hp : ps.length ≤ 1048576) :
    Calls Try.prog 60 #[v, .agg #[.int .i64 pv, .int .i64 pa]] w (RetOCB w l r (adP l r ps (pv, pa)) (adOk l r ps (pv, pa))) := by
  obtain ⟨a1, c1, a2, c2, a3, c3, rfl, i1, i2, i3⟩ := hv.form
  obtain ⟨wl, wr, wpl, wp⟩ := hv.wf
  obtain ⟨_, _, e3, -, -, hcell⟩ := i3
  simp only [Value.slice.injEq] at e3
  obtain ⟨rfl, -, rfl⟩ := e3
  have HCC := hide hcell
  have V := hide hv
  clear hv i1 i2 hcell
  obtain ⟨t, ht⟩ : ∃ t, t = adOk l r ps (pv, pa) := ⟨_, rfl⟩
  obtain ⟨PP, hPP⟩ : ∃ PP, PP = adP l r ps (pv, pa) := ⟨_, rfl⟩
  obtain ⟨NN, hNN⟩ : ∃ NN, NN = adIn ps (pv, pa) := ⟨_, rfl⟩
  have HT := hide (show t = isCk l r NN by rw [ht, hNN]; rfl)
  have HP := hide (show PP = if t = true then NN else ps by rw [hPP, ht, hNN]; rfl)
  have HNL := hide (show NN.length = ps.length + 1 by rw [hNN]; exact adIn_length _ _)
  have HNW := hide (show ∀ q ∈ NN, I64 q.1 ∧ I64 q.2 by rw [hNN]; exact adIn_wf wp hwf)
  rw [← ht, ← hPP]
  obtain ⟨b, hb⟩ : ∃ b, b = behind ps pv := ⟨_, rfl⟩
  have HNN := hide (show insAt ps b (pv, pa) = NN by rw [hb, hNN]; rfl)
  have hble := behind_le ps pv
  have HB1 := hide (fun (k : Nat) (hk : k < ps.length) => behind_before ps pv k hk)
  have HB2 := hide (behind_at ps pv)
  rw [← hb] at hble
  have HBE := hide hb
  have HWL := hide wl
  have HWR := hide wr
  clear ht hPP hNN hb wl wr wpl wp
  have C0 := hide (fun (W : World) (h : Below w.heap.size w W) => iCopy_any _ l r ps W B (V.out.below h hB) (Nat.le_trans hB h.size) hl hr hp)
  have CI := hide (fun (W : World) (x y z : Value) (lo hi p1 q1 p2 q2 p3 q3 : Nat) (h : OC W x y z l r NN lo hi p1 q1 p2 q2 p3 q3) => show Calls Try.prog 19 #[.agg #[x, y, z]] W (RetB1 W t) by rw [HT.out]; exact iIsCk_any _ l r NN W W.heap.size (h.ck HWL.out HWR.out (by rw [HNL.out]; omega) HNW.out) (Nat.le_refl _))
  have X := hide (Kn.three w #[.slice a1 l.length c1, .slice a2 r.length c2, .slice a3 ps.length c3] #[.int .i64 pv, .int .i64 pa] #[.slice none 0 0, .slice none 0 0, .slice none 0 0] 27 91 27)
  obtain ⟨w1, hw1⟩ : ∃ w1, w1 = ((w.alloc (.cells #[.slice a1 l.length c1, .slice a2 r.length c2, .slice a3 ps.length c3] 27)).alloc (.cells #[.int .i64 pv, .int .i64 pa] 91)).alloc (.cells #[.slice none 0 0, .slice none 0 0, .slice none 0 0] 27) := ⟨_, rfl⟩
  have hz1 := hide (show w1.heap.size = w.heap.size + 1 + 1 + 1 by rw [hw1]; simp)
  rw [← hw1] at X
  go_enter Try.func60, Try.ntmps60
  go_wp2_with fail
  rw [← hw1]
  clear hw1
  go_loopw [6] (fun u wr => ∃ (k : Nat), k ≤ b ∧ u = .int .i64 k ∧ Hid (Kn w wr [(w.heap.size, #[.slice a1 l.length c1, .slice a2 r.length c2, .slice a3 ps.length c3], 27), (w.heap.size + 1, #[.int .i64 pv, .int .i64 pa], 91), (w.heap.size + 1 + 1, #[.slice none 0 0, .slice none 0 0, .slice none 0 0], 27)]) ∧ Hid (w1.heap.size ≤ wr.heap.size)) (fun u _ => ps.length + 1 - (intOf u).toNat)
  case atStart => exact ⟨0, by omega, rfl, X.out, Nat.le_refl _⟩
  case round =>
    clear X
    obtain ⟨k, hk, rfl, K, S0⟩ := hrel
    have d0 : wr.cell? ⟨w.heap.size, 0, none⟩ = some (.slice a1 l.length c1) := K.out.cell 0 0 rfl rfl
    have d1 : wr.cell? ⟨w.heap.size, 1, none⟩ = some (.slice a2 r.length c2) := K.out.cell 0 1 rfl rfl
    have d2 : wr.cell? ⟨w.heap.size, 2, none⟩ = some (.slice a3 ps.length c3) := K.out.cell 0 2 rfl rfl
    have f0 : wr.cell? ⟨w.heap.size + 1, 0, none⟩ = some (.int .i64 pv) := K.out.cell 1 0 rfl rfl
    have f1 : wr.cell? ⟨w.heap.size + 1, 1, none⟩ = some (.int .i64 pa) := K.out.cell 1 1 rfl rfl
    by_cases hlt : k < b
    · have hkn : k < ps.length := by omega
      obtain ⟨b1, o1, rfl, hb1, hc1, hc2⟩ := HCC.out k hkn
      obtain ⟨x, hx⟩ : ∃ x, x = ps[k].1 := ⟨_, rfl⟩
      rw [← hx] at hc1
      have hxv : x ≤ pv := by rw [hx]; exact HB1.out k hkn (by rw [← HBE.out]; exact hlt)
      have e1 : wr.cell? ⟨b1, o1 + k * 2, none⟩ = some (.int .i64 x) := by rw [K.out.below.cell (p := ⟨b1, o1 + k * 2, none⟩) (Nat.lt_of_lt_of_le hb1 hB)]; exact hc1
      have t1 : decide (k < ps.length) = true := by simp; omega
      have t2 : decide (x ≤ pv) = true := by simp; omega
      have t3 : (k : Int) < (ps.length : Int) := by omega
      have S1 := hide S0.out
      clear hc1 hc2 hb1 hx
      go_wp2_with fail
      go_quiet (fail)
      go_wp2_with fail
      go_roundw
      case rel => exact ⟨k + 1, by omega, by go_num, K.out.drewN _, S1.out⟩
      case measure => simp [intOf]; omega
    · obtain rfl : k = b := by omega
      have hq : (k < ps.length ∧ ∃ x b1 o1, a3 = some ⟨b1, o1, none⟩ ∧ wr.cell? ⟨b1, o1 + k * 2, none⟩ = some (.int .i64 x) ∧ pv < x) ∨ k = ps.length := by
        by_cases hkn : k < ps.length
        · refine .inl ⟨hkn, ?_⟩
          obtain ⟨b1, o1, ha, hb1, hc1, -⟩ := HCC.out k hkn
          refine ⟨ps[k].1, b1, o1, ha, by rw [K.out.below.cell (p := ⟨b1, o1 + k * 2, none⟩) (Nat.lt_of_lt_of_le hb1 hB)]; exact hc1, ?_⟩
          have := HB2.out (by rw [← HBE.out]; exact hkn)
          simp only [← HBE.out] at this
          exact this
        · exact .inr (by omega)
      rcases hq with ⟨hkn, x, b1, o1, rfl, e1, hxv⟩ | hkn
      · have t1 : decide (k < ps.length) = true := by simp; omega
        have t2 : decide (x ≤ pv) = false := by simp; omega
        have t3 : (k : Int) < (ps.length : Int) := by omega
        go_wp2_with fail
        go_quiet (fail)
        go_wp2_with fail
        clear e1 t1 t2 t3 hxv hkn
        go_at_call 57
        have K0 := hide (K.out.drewN nq)
        have hS0 : w1.heap.size ≤ (wr.drewN nq).heap.size := S0.out
        refine (C0.out _ K0.out.below).mono ?_
        rintro e w2 ⟨x, y, z, lo, hi, n1, h1, n2, h2, n3, h3, rfl, q1, q2, O, hb⟩
        obtain ⟨x1, k1, rfl⟩ := O.x.form
        obtain ⟨x2, k2, rfl⟩ := O.y.form
        obtain ⟨x3, k3, rfl⟩ := O.z.own.form
        have Q1 := hide (show w.heap.size + 1 + 1 + 1 ≤ lo by have := hz1.out; omega)
        have X2 := hide (K0.out.up hb)
        have X3 := hide (X2.out.alloc #[.slice x1 l.length k1, .slice x2 r.length k2, .slice x3 ps.length k3] 27)
        have O3 := hide (O.below (below1 w2 (.cells #[.slice x1 l.length k1, .slice x2 r.length k2, .slice x3 ps.length k3] 27)))
        obtain ⟨m, hm⟩ : ∃ m, m = w2.heap.size := ⟨_, rfl⟩
        obtain ⟨w3, hw3⟩ : ∃ w3, w3 = w2.alloc (.cells #[.slice x1 l.length k1, .slice x2 r.length k2, .slice x3 ps.length k3] 27) := ⟨_, rfl⟩
        have S3 := hide (show w3.heap.size = m + 1 by rw [hw3, hm]; simp)
        rw [← hw3] at X3 O3
        rw [← hm] at X3 q2
        have Q2 := hide q2
        simp only [List.cons_append, List.nil_append] at X3
        have X4 := hide (X3.out.alloc #[.int .i64 pv, .int .i64 pa] 91)
        have O4 := hide (O3.out.below (below1 w3 (.cells #[.int .i64 pv, .int .i64 pa] 91)))
        obtain ⟨w4, hw4⟩ : ∃ w4, w4 = w3.alloc (.cells #[.int .i64 pv, .int .i64 pa] 91) := ⟨_, rfl⟩
        have S4 := hide (show w4.heap.size = m + 2 by rw [hw4]; have := S3.out; simp; omega)
        have b2 : w3.cell? ⟨m, 2, none⟩ = some (.slice x3 ps.length k3) := X3.out.cell 3 2 rfl rfl
        have p0 : w3.cell? ⟨w.heap.size + 1, 0, none⟩ = some (.int .i64 pv) := X3.out.cell 1 0 rfl rfl
        have p1 : w3.cell? ⟨w.heap.size + 1, 1, none⟩ = some (.int .i64 pa) := X3.out.cell 1 1 rfl rfl
        rw [← hw4] at X4 O4
        rw [S3.out] at X4
        simp only [List.cons_append, List.nil_append] at X4
        rw [hw3] at b2 p0 p1
        rw [hm] at b2
        clear O hb X2 X3 O3 q1 q2 d0 d1 d2 f0 f1 K K0 S0 hS0
        go_wp2_with fail
        rw [← hw3]
        try rw [← hw4]
        try rw [← hm]
        clear b2 p0 p1 hw3 hw4 hm
        go_at_call 100
        refine (ins_any x3 k3 k (m + 1) 1 pv pa ps n3 h3 w4 O4.out.z hble (X4.out.mem 4 rfl) (by have := O4.out.high; have := Q2.out; omega) hp).mono ?_
        rintro e w5 ⟨z', rfl, hz, s⟩
        obtain ⟨L5a, L5b, L5c⟩ := O4.out.low
        obtain ⟨G5a, G5b, G5c⟩ := O4.out.high
        have hq1 := Q1.out
        have hq2 := Q2.out
        have hs4 := S4.out
        have hle := O4.out.z.le
        have K5 := hide (X4.out.seg s (by omega) (by simp; omega))
        obtain ⟨n3', h3', O5, hd⟩ := O4.out.ins s hz
        rw [HNN.out] at O5
        obtain ⟨y3, j3, rfl⟩ := O5.z.own.form
        have O6 := hide (O5.seg' (Seg.setCell w5 m 2 (.slice y3 NN.length j3)) (by omega) (by omega) (by omega))
        clear L5a L5b L5c G5a G5b G5c hq1 hq2 hs4 hle hd
        have K6 := hide (K5.out.set 3 2 rfl (.slice y3 NN.length j3))
        have b2 : w5.cell? ⟨m, 2, none⟩ = some (.slice x3 ps.length k3) := K5.out.cell 3 2 rfl rfl
        have bf := K5.out.free 3 2 rfl
        obtain ⟨w6, hw6⟩ : ∃ w6, w6 = w5.setCell ⟨m, 2, none⟩ (.slice y3 NN.length j3) := ⟨_, rfl⟩
        rw [← hw6] at O6 K6
        have b0 : w6.cell? ⟨m, 0, none⟩ = some (.slice x1 l.length k1) := K6.out.cell 3 0 rfl rfl
        have b1 : w6.cell? ⟨m, 1, none⟩ = some (.slice x2 r.length k2) := K6.out.cell 3 1 rfl rfl
        have b3 : w6.cell? ⟨m, 2, none⟩ = some (.slice y3 NN.length j3) := K6.out.cell 3 2 rfl rfl
        rw [hw6] at b0 b1 b3
        clear s hz O5 X4 O4 K5
        go_wp2_with fail
        rw [← hw6]
        clear b0 b1 b2 b3 bf hw6
        go_at_call 19
        refine (CI.out _ _ _ _ _ _ _ _ _ _ _ _ O6.out).mono ?_
        rintro e w7 ⟨rfl, hb⟩
        have K7 := hide (K6.out.up hb)
        have O7 := hide (O6.out.below hb)
        clear hb K6 O6
        have g0 : w7.cell? ⟨w.heap.size + 1 + 1, 0, none⟩ = some (.slice none 0 0) := K7.out.cell 2 0 rfl rfl
        have g1 : w7.cell? ⟨w.heap.size + 1 + 1, 1, none⟩ = some (.slice none 0 0) := K7.out.cell 2 1 rfl rfl
        have g2 : w7.cell? ⟨w.heap.size + 1 + 1, 2, none⟩ = some (.slice none 0 0) := K7.out.cell 2 2 rfl rfl
        have f0 := K7.out.free 2 0 rfl
        have f1 := K7.out.free 2 1 rfl
        have f2 := K7.out.free 2 2 rfl
        cases t with
        | true =>
          obtain rfl : PP = NN := by simpa [Hid] using HP
          have b0 : w7.cell? ⟨m, 0, none⟩ = some (.slice x1 l.length k1) := K7.out.cell 3 0 rfl rfl
          have b1 : w7.cell? ⟨m, 1, none⟩ = some (.slice x2 r.length k2) := K7.out.cell 3 1 rfl rfl
          have b3 : w7.cell? ⟨m, 2, none⟩ = some (.slice y3 PP.length j3) := K7.out.cell 3 2 rfl rfl
          go_wp2_with fail
          have Z := ((K7.out.set 2 0 rfl (.slice x1 l.length k1)).set 2 1 rfl (.slice x2 r.length k2)).set 2 2 rfl (.slice y3 PP.length j3)
          have z0 := Z.cell 2 0 rfl rfl
          have z1 := Z.cell 2 1 rfl rfl
          have z2 := Z.cell 2 2 rfl rfl
          have hq1 := Q1.out
          have O8 := O7.out.seg (seg3 _ (w.heap.size + 1 + 1) (.slice x1 l.length k1) (.slice x2 r.length k2) (.slice y3 PP.length j3)) (.inr (by omega))
          exact bodyPost_ret (v := .tuple #[.agg #[.slice x1 l.length k1, .slice x2 r.length k2, .slice y3 PP.length j3], .bool true]) (by simp [results, Try.results60, go_sem, z0, z1, z2]) rfl
            ⟨_, _, _, lo, w5.heap.size, n1, h1, n2, h2, n3', h3', rfl, by omega, O8.top.2, O8, Z.below⟩
        | false =>
          obtain rfl : PP = ps := by simpa [Hid] using HP
          have d0 : w7.cell? ⟨w.heap.size, 0, none⟩ = some (.slice a1 l.length c1) := K7.out.cell 0 0 rfl rfl
          have d1 : w7.cell? ⟨w.heap.size, 1, none⟩ = some (.slice a2 r.length c2) := K7.out.cell 0 1 rfl rfl
          have d2 : w7.cell? ⟨w.heap.size, 2, none⟩ = some (.slice (some ⟨b1, o1, none⟩) PP.length c3) := K7.out.cell 0 2 rfl rfl
          clear g0 g1 g2 f0 f1 f2
          go_wp2_with fail
          go_at_call 57
          refine (C0.out _ K7.out.below).mono ?_
          rintro e w8 ⟨x', y', z', lo', hi', n1', h1', n2', h2', n4, h4, rfl, q1, q2, O8, hb⟩
          obtain ⟨v1, j1, rfl⟩ := O8.x.form
          obtain ⟨v2, j2, rfl⟩ := O8.y.form
          obtain ⟨v3, j4, rfl⟩ := O8.z.own.form
          have K8 := hide (K7.out.up hb)
          have P3 := hide (Nat.le_trans K7.out.below.size q1)
          have P5 := hide (Nat.lt_of_lt_of_le (K7.out.lt 2 rfl) q1)
          have O8 := hide O8
          clear d0 d1 d2 hb q1 q2 K7 O7
          have g0 : w8.cell? ⟨w.heap.size + 1 + 1, 0, none⟩ = some (.slice none 0 0) := K8.out.cell 2 0 rfl rfl
          have g1 : w8.cell? ⟨w.heap.size + 1 + 1, 1, none⟩ = some (.slice none 0 0) := K8.out.cell 2 1 rfl rfl
          have g2 : w8.cell? ⟨w.heap.size + 1 + 1, 2, none⟩ = some (.slice none 0 0) := K8.out.cell 2 2 rfl rfl
          have f0 := K8.out.free 2 0 rfl
          have f1 := K8.out.free 2 1 rfl
          have f2 := K8.out.free 2 2 rfl
          go_wp2_with fail
          have Z := ((K8.out.set 2 0 rfl (.slice v1 l.length j1)).set 2 1 rfl (.slice v2 r.length j2)).set 2 2 rfl (.slice v3 PP.length j4)
          have z0 := Z.cell 2 0 rfl rfl
          have z1 := Z.cell 2 1 rfl rfl
          have z2 := Z.cell 2 2 rfl rfl
          have O9 := O8.out.seg (seg3 _ (w.heap.size + 1 + 1) (.slice v1 l.length j1) (.slice v2 r.length j2) (.slice v3 PP.length j4)) (.inr P5.out)
          exact bodyPost_ret (v := .tuple #[.agg #[.slice v1 l.length j1, .slice v2 r.length j2, .slice v3 PP.length j4], .bool false]) (by simp [results, Try.results60, go_sem, z0, z1, z2]) rfl
            ⟨_, _, _, lo', hi', n1', h1', n2', h2', n4, h4, rfl, P3.out, O9.top.2, O9, Z.below⟩
      · have t1 : decide (k < ps.length) = false := by simp; omega
        go_wp2_with fail
        go_quiet (fail)
        go_wp2_with fail
        clear t1 hkn
        go_at_call 57
        have K0 := hide (K.out.drewN nq)
        have hS0 : w1.heap.size ≤ (wr.drewN nq).heap.size := S0.out
        refine (C0.out _ K0.out.below).mono ?_
        rintro e w2 ⟨x, y, z, lo, hi, n1, h1, n2, h2, n3, h3, rfl, q1, q2, O, hb⟩
        obtain ⟨x1, k1, rfl⟩ := O.x.form
        obtain ⟨x2, k2, rfl⟩ := O.y.form
        obtain ⟨x3, k3, rfl⟩ := O.z.own.form
        have Q1 := hide (show w.heap.size + 1 + 1 + 1 ≤ lo by have := hz1.out; omega)
        have X2 := hide (K0.out.up hb)
        have X3 := hide (X2.out.alloc #[.slice x1 l.length k1, .slice x2 r.length k2, .slice x3 ps.length k3] 27)
        have O3 := hide (O.below (below1 w2 (.cells #[.slice x1 l.length k1, .slice x2 r.length k2, .slice x3 ps.length k3] 27)))
        obtain ⟨m, hm⟩ : ∃ m, m = w2.heap.size := ⟨_, rfl⟩
        obtain ⟨w3, hw3⟩ : ∃ w3, w3 = w2.alloc (.cells #[.slice x1 l.length k1, .slice x2 r.length k2, .slice x3 ps.length k3] 27) := ⟨_, rfl⟩
        have S3 := hide (show w3.heap.size = m + 1 by rw [hw3, hm]; simp)
        rw [← hw3] at X3 O3
        rw [← hm] at X3 q2
        have Q2 := hide q2
        simp only [List.cons_append, List.nil_append] at X3
        have X4 := hide (X3.out.alloc #[.int .i64 pv, .int .i64 pa] 91)
        have O4 := hide (O3.out.below (below1 w3 (.cells #[.int .i64 pv, .int .i64 pa] 91)))
        obtain ⟨w4, hw4⟩ : ∃ w4, w4 = w3.alloc (.cells #[.int .i64 pv, .int .i64 pa] 91) := ⟨_, rfl⟩
        have S4 := hide (show w4.heap.size = m + 2 by rw [hw4]; have := S3.out; simp; omega)
        have b2 : w3.cell? ⟨m, 2, none⟩ = some (.slice x3 ps.length k3) := X3.out.cell 3 2 rfl rfl
        have p0 : w3.cell? ⟨w.heap.size + 1, 0, none⟩ = some (.int .i64 pv) := X3.out.cell 1 0 rfl rfl
        have p1 : w3.cell? ⟨w.heap.size + 1, 1, none⟩ = some (.int .i64 pa) := X3.out.cell 1 1 rfl rfl
        rw [← hw4] at X4 O4
        rw [S3.out] at X4
        simp only [List.cons_append, List.nil_append] at X4
        rw [hw3] at b2 p0 p1
        rw [hm] at b2
        clear O hb X2 X3 O3 q1 q2 d0 d1 d2 f0 f1 K K0 S0 hS0
        go_wp2_with fail
        rw [← hw3]
        try rw [← hw4]
        try rw [← hm]
        clear b2 p0 p1 hw3 hw4 hm
        go_at_call 100
        refine (ins_any x3 k3 k (m + 1) 1 pv pa ps n3 h3 w4 O4.out.z hble (X4.out.mem 4 rfl) (by have := O4.out.high; have := Q2.out; omega) hp).mono ?_
        rintro e w5 ⟨z', rfl, hz, s⟩
        obtain ⟨L5a, L5b, L5c⟩ := O4.out.low
        obtain ⟨G5a, G5b, G5c⟩ := O4.out.high
        have hq1 := Q1.out
        have hq2 := Q2.out
        have hs4 := S4.out
        have hle := O4.out.z.le
        have K5 := hide (X4.out.seg s (by omega) (by simp; omega))
        obtain ⟨n3', h3', O5, hd⟩ := O4.out.ins s hz
        rw [HNN.out] at O5
        obtain ⟨y3, j3, rfl⟩ := O5.z.own.form
        have O6 := hide (O5.seg' (Seg.setCell w5 m 2 (.slice y3 NN.length j3)) (by omega) (by omega) (by omega))
        clear L5a L5b L5c G5a G5b G5c hq1 hq2 hs4 hle hd
        have K6 := hide (K5.out.set 3 2 rfl (.slice y3 NN.length j3))
        have b2 : w5.cell? ⟨m, 2, none⟩ = some (.slice x3 ps.length k3) := K5.out.cell 3 2 rfl rfl
        have bf := K5.out.free 3 2 rfl
        obtain ⟨w6, hw6⟩ : ∃ w6, w6 = w5.setCell ⟨m, 2, none⟩ (.slice y3 NN.length j3) := ⟨_, rfl⟩
        rw [← hw6] at O6 K6
        have b0 : w6.cell? ⟨m, 0, none⟩ = some (.slice x1 l.length k1) := K6.out.cell 3 0 rfl rfl
        have b1 : w6.cell? ⟨m, 1, none⟩ = some (.slice x2 r.length k2) := K6.out.cell 3 1 rfl rfl
        have b3 : w6.cell? ⟨m, 2, none⟩ = some (.slice y3 NN.length j3) := K6.out.cell 3 2 rfl rfl
        rw [hw6] at b0 b1 b3
        clear s hz O5 X4 O4 K5
        go_wp2_with fail
        rw [← hw6]
        clear b0 b1 b2 b3 bf hw6
        go_at_call 19
        refine (CI.out _ _ _ _ _ _ _ _ _ _ _ _ O6.out).mono ?_
        rintro e w7 ⟨rfl, hb⟩
        have K7 := hide (K6.out.up hb)
        have O7 := hide (O6.out.below hb)
        clear hb K6 O6
        have g0 : w7.cell? ⟨w.heap.size + 1 + 1, 0, none⟩ = some (.slice none 0 0) := K7.out.cell 2 0 rfl rfl
        have g1 : w7.cell? ⟨w.heap.size + 1 + 1, 1, none⟩ = some (.slice none 0 0) := K7.out.cell 2 1 rfl rfl
        have g2 : w7.cell? ⟨w.heap.size + 1 + 1, 2, none⟩ = some (.slice none 0 0) := K7.out.cell 2 2 rfl rfl
        have f0 := K7.out.free 2 0 rfl
        have f1 := K7.out.free 2 1 rfl
        have f2 := K7.out.free 2 2 rfl
        cases t with
        | true =>
          obtain rfl : PP = NN := by simpa [Hid] using HP
          have b0 : w7.cell? ⟨m, 0, none⟩ = some (.slice x1 l.length k1) := K7.out.cell 3 0 rfl rfl
          have b1 : w7.cell? ⟨m, 1, none⟩ = some (.slice x2 r.length k2) := K7.out.cell 3 1 rfl rfl
          have b3 : w7.cell? ⟨m, 2, none⟩ = some (.slice y3 PP.length j3) := K7.out.cell 3 2 rfl rfl
          go_wp2_with fail
          have Z := ((K7.out.set 2 0 rfl (.slice x1 l.length k1)).set 2 1 rfl (.slice x2 r.length k2)).set 2 2 rfl (.slice y3 PP.length j3)
          have z0 := Z.cell 2 0 rfl rfl
          have z1 := Z.cell 2 1 rfl rfl
          have z2 := Z.cell 2 2 rfl rfl
          have hq1 := Q1.out
          have O8 := O7.out.seg (seg3 _ (w.heap.size + 1 + 1) (.slice x1 l.length k1) (.slice x2 r.length k2) (.slice y3 PP.length j3)) (.inr (by omega))
          exact bodyPost_ret (v := .tuple #[.agg #[.slice x1 l.length k1, .slice x2 r.length k2, .slice y3 PP.length j3], .bool true]) (by simp [results, Try.results60, go_sem, z0, z1, z2]) rfl
            ⟨_, _, _, lo, w5.heap.size, n1, h1, n2, h2, n3', h3', rfl, by omega, O8.top.2, O8, Z.below⟩
        | false =>
          obtain rfl : PP = ps := by simpa [Hid] using HP
          have d0 : w7.cell? ⟨w.heap.size, 0, none⟩ = some (.slice a1 l.length c1) := K7.out.cell 0 0 rfl rfl
          have d1 : w7.cell? ⟨w.heap.size, 1, none⟩ = some (.slice a2 r.length c2) := K7.out.cell 0 1 rfl rfl
          have d2 : w7.cell? ⟨w.heap.size, 2, none⟩ = some (.slice a3 PP.length c3) := K7.out.cell 0 2 rfl rfl
          clear g0 g1 g2 f0 f1 f2
          go_wp2_with fail
          go_at_call 57
          refine (C0.out _ K7.out.below).mono ?_
          rintro e w8 ⟨x', y', z', lo', hi', n1', h1', n2', h2', n4, h4, rfl, q1, q2, O8, hb⟩
          obtain ⟨v1, j1, rfl⟩ := O8.x.form
          obtain ⟨v2, j2, rfl⟩ := O8.y.form
          obtain ⟨v3, j4, rfl⟩ := O8.z.own.form
          have K8 := hide (K7.out.up hb)
          have P3 := hide (Nat.le_trans K7.out.below.size q1)
          have P5 := hide (Nat.lt_of_lt_of_le (K7.out.lt 2 rfl) q1)
          have O8 := hide O8
          clear d0 d1 d2 hb q1 q2 K7 O7
          have g0 : w8.cell? ⟨w.heap.size + 1 + 1, 0, none⟩ = some (.slice none 0 0) := K8.out.cell 2 0 rfl rfl
          have g1 : w8.cell? ⟨w.heap.size + 1 + 1, 1, none⟩ = some (.slice none 0 0) := K8.out.cell 2 1 rfl rfl
          have g2 : w8.cell? ⟨w.heap.size + 1 + 1, 2, none⟩ = some (.slice none 0 0) := K8.out.cell 2 2 rfl rfl
          have f0 := K8.out.free 2 0 rfl
          have f1 := K8.out.free 2 1 rfl
          have f2 := K8.out.free 2 2 rfl
          go_wp2_with fail
          have Z := ((K8.out.set 2 0 rfl (.slice v1 l.length j1)).set 2 1 rfl (.slice v2 r.length j2)).set 2 2 rfl (.slice v3 PP.length j4)
          have z0 := Z.cell 2 0 rfl rfl
          have z1 := Z.cell 2 1 rfl rfl
          have z2 := Z.cell 2 2 rfl rfl
          have O9 := O8.out.seg (seg3 _ (w.heap.size + 1 + 1) (.slice v1 l.length j1) (.slice v2 r.length j2) (.slice v3 PP.length j4)) (.inr P5.out)
          exact bodyPost_ret (v := .tuple #[.agg #[.slice v1 l.length j1, .slice v2 r.length j2, .slice v3 PP.length j4], .bool false]) (by simp [results, Try.results60, go_sem, z0, z1, z2]) rfl
            ⟨_, _, _, lo', hi', n1', h1', n2', h2', n4, h4, rfl, P3.out, O9.top.2, O9, Z.below⟩

end Go.Proofs.Ytkhhlifnbelckaa

/- exchange of the program: two elements of an owned slice change places (promise 3). -/
namespace Go.Proofs.Ytkhhlifnbelckaa
open Go.RowKit Go.ChangeShapes
set_option linter.unusedSimpArgs false
set_option linter.unusedVariables false
set_option maxRecDepth 100000

set_option maxHeartbeats 4000000 in
theorem iExch_ow (v : Value) (l : List Int) (lo hi i j : Nat) (w : World) (h : Ow w v l lo hi) (hi' : i < l.length) (hj' : j < l.length) :
    Calls Try.prog 99 #[v, .agg #[.int .i64 i, .int .i64 j]] w fun e w' => (∃ u, e = .returned u) ∧ Ow w' v (swapAt l i j) lo hi ∧ Seg lo hi w w' := by
  have X := hide (Kn.one w #[.int .i64 i, .int .i64 j] 120)
  obtain ⟨w1, hw1⟩ : ∃ w1, w1 = w.alloc (.cells #[.int .i64 i, .int .i64 j] 120) := ⟨_, rfl⟩
  rw [← hw1] at X
  have S0 := hide (Seg.of_below (lo := lo) (hi := hi) X.out.below (Nat.le_trans h.le h.top))
  have hT := hide h.top
  have h := h.below X.out.below
  obtain ⟨⟨F, ⟨o, rfl⟩, hF⟩, hle, htop⟩ := h
  obtain ⟨a, cap, rfl⟩ := Is.form o
  have HS := o.2
  rcases HS with ⟨e, hn⟩ | ⟨g, cap', cur, e, -⟩
  · exfalso
    injection e with e1 e2 e3
    omega
  injection e with e1 e2 e3
  subst e1 e3
  have hg := hF g (by simp [Value.ownBlock])
  have O := hide o
  have O1 := hide (O.out.store rfl i (l[j]'hj'))
  have O2 := hide (O1.out.store (by simp) j (l[i]'hi'))
  obtain ⟨ci, fi, gi, -⟩ := O.out.cell i hi'
  obtain ⟨cj, fj, gj, -⟩ := O.out.cell j hj'
  obtain ⟨cj1, fj1, gj1, -⟩ := O1.out.cell j (by simp; exact hj')
  have E1 := hide (show swapAt l i j = (l.set i (l[j]'hj')).set j (l[i]'hi') by simp [swapAt, List.getD, hi', hj'])
  obtain ⟨y2, hy2⟩ : ∃ y2, y2 = (l.set i (l[j]'hj'))[j]'(by simp; exact hj') := ⟨_, rfl⟩
  rw [← hy2] at cj1
  obtain ⟨x, hx⟩ : ∃ x, x = l[i]'hi' := ⟨_, rfl⟩
  obtain ⟨y, hy⟩ : ∃ y, y = l[j]'hj' := ⟨_, rfl⟩
  rw [← hx] at ci E1 O2
  rw [← hy] at cj E1 O1 O2 cj1 fj1
  clear hx hy hy2
  have d0 : w1.cell? ⟨w.heap.size, 0, none⟩ = some (.int .i64 i) := X.out.cell 0 0 rfl rfl
  have d1 : w1.cell? ⟨w.heap.size, 1, none⟩ = some (.int .i64 j) := X.out.cell 0 1 rfl rfl
  have hne : w.heap.size ≠ g := by have := hT.out; omega
  have d2 : (w1.setCell ⟨g, i, none⟩ (.int .i64 y)).cell? ⟨w.heap.size, 0, none⟩ = some (.int .i64 i) := by rw [World.cell?_setCell_other _ _ _ _ (by simp [hne])]; exact d0
  have d3 : (w1.setCell ⟨g, i, none⟩ (.int .i64 y)).cell? ⟨w.heap.size, 1, none⟩ = some (.int .i64 j) := by rw [World.cell?_setCell_other _ _ _ _ (by simp [hne])]; exact d1
  have HF := hide hF
  have hne := hide hne
  clear hF o
  go_enter Try.func99, Try.ntmps99
  go_wp2_with fail
  rw [← hw1]
  clear hw1
  go_region
  all_goals have sg := (Seg.setCell w1 g i (.int .i64 y)).trans (Seg.setCell _ g j (.int .i64 x))
  all_goals refine bodyPost_end (v := .tuple #[]) (by simp [results, Try.results99]) rfl ⟨⟨_, rfl⟩, ?_, ?_⟩
  · rw [E1.out]
    exact ⟨⟨_, ⟨O2.out.below (Below.refl _ _).drew, rfl⟩, HF.out⟩, hle, Nat.le_trans htop sg.below.size⟩
  · have s2 := S0.out.trans (sg.mono hg.1 (by omega))
    exact ⟨s2.below.drew, s2.over⟩

end Go.Proofs.Ytkhhlifnbelckaa

/- havePlaces of the program: whether all places of the swaps lie in a row (promise 3). -/
namespace Go.Proofs.Ytkhhlifnbelckaa
open Go.RowKit Go.ChangeShapes
set_option linter.unusedSimpArgs false
set_option linter.unusedVariables false
set_option maxRecDepth 100000

set_option maxHeartbeats 4000000 in
theorem iHave_any (v : Value) (sw : List Pv) (n : Nat) (w : World) (B : Nat) (hv : Pvs w B v sw) (hB : B ≤ w.heap.size) :
    Calls Try.prog 98 #[v, .int .i64 n] w (RetB1 w (sw.all (swOk n))) := by
  obtain ⟨a, cap, rfl, hlen, hwf, hcell⟩ := hv
  have HC := hide hcell
  have HW := hide hwf
  clear hcell hwf
  obtain ⟨t, ht⟩ : ∃ t, t = sw.all (swOk n) := ⟨_, rfl⟩
  rw [← ht]
  have HT := hide ht
  clear ht
  go_enter Try.func98, Try.ntmps98
  go_wp2
  go_loopw [9] (fun u wr => ∃ (k : Nat), k ≤ sw.length ∧ u = .int .i64 k ∧ Hid ((sw.take k).all (swOk n) = true) ∧ Hid (Below w.heap.size w wr)) (fun u _ => sw.length - (intOf u).toNat)
  case atStart => exact ⟨0, by omega, rfl, by simp [Hid], Below.refl _ _⟩
  case round =>
    obtain ⟨k, hk, rfl, hall, hb⟩ := hrel
    by_cases hlt : k < sw.length
    · have hat := hide (all_take (swOk n) sw k hlt)
      obtain ⟨b1, o1, rfl, hb1, hc1, hc2⟩ := HC.out k hlt
      obtain ⟨x, hx⟩ : ∃ x, x = sw[k].1 := ⟨_, rfl⟩
      obtain ⟨y, hy⟩ : ∃ y, y = sw[k].2 := ⟨_, rfl⟩
      rw [← hx] at hc1
      rw [← hy] at hc2
      have d1 : wr.cell? ⟨b1, o1 + k * 2, none⟩ = some (.int .i64 x) := by rw [hb.out.cell (p := ⟨b1, o1 + k * 2, none⟩) (Nat.lt_of_lt_of_le hb1 hB)]; exact hc1
      have d2 : wr.cell? ⟨b1, o1 + k * 2 + 1, none⟩ = some (.int .i64 y) := by rw [hb.out.cell (p := ⟨b1, o1 + k * 2 + 1, none⟩) (Nat.lt_of_lt_of_le hb1 hB)]; exact hc2
      have HX := hide hx
      have HY := hide hy
      have hq := hide (show (swOk n sw[k]) = (decide (0 ≤ x ∧ x ≤ (n : Int) - 1) && decide (0 ≤ y ∧ y ≤ (n : Int) - 1)) by rw [hx, hy]; rfl)
      clear hc1 hc2 hx hy hb1
      rcases Int.lt_trichotomy x y with hc | hc | hc
      · have o1 : decide (x < y) = true := by simp; omega
        have o2 : decide (x ≤ y) = true := by simp; omega
        by_cases p1 : x < 0
        · have r1 : decide (x < 0) = true := by simp; omega
          have tf : t = false := by
            rw [HT.out]
            exact List.all_eq_false.2 ⟨sw[k], List.getElem_mem hlt, by rw [hq.out]; simp; omega⟩
          subst tf
          go_wp2
          go_ret
          exact ⟨rfl, hb.out.alloc hb.out.size _⟩
        · have r1 : decide (x < 0) = false := by simp; omega
          by_cases p2 : (n : Int) ≤ y
          · have r2 : decide (y ≥ (n : Int)) = true := by simp; omega
            have r3 : decide ((n : Int) ≤ y) = true := by simp; omega
            have tf : t = false := by
              rw [HT.out]
              exact List.all_eq_false.2 ⟨sw[k], List.getElem_mem hlt, by rw [hq.out]; simp; omega⟩
            subst tf
            go_wp2
            go_ret
            exact ⟨rfl, hb.out.alloc hb.out.size _⟩
          · have r2 : decide (y ≥ (n : Int)) = false := by simp; omega
            have r3 : decide ((n : Int) ≤ y) = false := by simp; omega
            have hall2 := hide (show (sw.take (k + 1)).all (swOk n) = true by rw [hat.out, hall.out, hq.out]; simp; omega)
            go_wp2
            go_roundw
            all_goals first
              | exact ⟨k + 1, by omega, by go_num, hall2.out, hb.out.alloc hb.out.size _⟩
              | (simp [intOf]; omega)
      · subst hc
        have o1 : decide (x < x) = false := by simp
        have o2 : decide (x ≤ x) = true := by simp
        by_cases p1 : x < 0
        · have r1 : decide (x < 0) = true := by simp; omega
          have tf : t = false := by
            rw [HT.out]
            exact List.all_eq_false.2 ⟨sw[k], List.getElem_mem hlt, by rw [hq.out]; simp; omega⟩
          subst tf
          go_wp2
          go_ret
          exact ⟨rfl, hb.out.alloc hb.out.size _⟩
        · have r1 : decide (x < 0) = false := by simp; omega
          by_cases p2 : (n : Int) ≤ x
          · have r2 : decide (x ≥ (n : Int)) = true := by simp; omega
            have r3 : decide ((n : Int) ≤ x) = true := by simp; omega
            have tf : t = false := by
              rw [HT.out]
              exact List.all_eq_false.2 ⟨sw[k], List.getElem_mem hlt, by rw [hq.out]; simp; omega⟩
            subst tf
            go_wp2
            go_ret
            exact ⟨rfl, hb.out.alloc hb.out.size _⟩
          · have r2 : decide (x ≥ (n : Int)) = false := by simp; omega
            have r3 : decide ((n : Int) ≤ x) = false := by simp; omega
            have hall2 := hide (show (sw.take (k + 1)).all (swOk n) = true by rw [hat.out, hall.out, hq.out]; simp; omega)
            go_wp2
            go_roundw
            all_goals first
              | exact ⟨k + 1, by omega, by go_num, hall2.out, hb.out.alloc hb.out.size _⟩
              | (simp [intOf]; omega)
      · have o1 : decide (x < y) = false := by simp; omega
        have o2 : decide (x ≤ y) = false := by simp; omega
        by_cases p1 : y < 0
        · have r1 : decide (y < 0) = true := by simp; omega
          have tf : t = false := by
            rw [HT.out]
            exact List.all_eq_false.2 ⟨sw[k], List.getElem_mem hlt, by rw [hq.out]; simp; omega⟩
          subst tf
          go_wp2
          go_ret
          exact ⟨rfl, hb.out.alloc hb.out.size _⟩
        · have r1 : decide (y < 0) = false := by simp; omega
          by_cases p2 : (n : Int) ≤ x
          · have r2 : decide (x ≥ (n : Int)) = true := by simp; omega
            have r3 : decide ((n : Int) ≤ x) = true := by simp; omega
            have tf : t = false := by
              rw [HT.out]
              exact List.all_eq_false.2 ⟨sw[k], List.getElem_mem hlt, by rw [hq.out]; simp; omega⟩
            subst tf
            go_wp2
            go_ret
            exact ⟨rfl, hb.out.alloc hb.out.size _⟩
          · have r2 : decide (x ≥ (n : Int)) = false := by simp; omega
            have r3 : decide ((n : Int) ≤ x) = false := by simp; omega
            have hall2 := hide (show (sw.take (k + 1)).all (swOk n) = true by rw [hat.out, hall.out, hq.out]; simp; omega)
            go_wp2
            go_roundw
            all_goals first
              | exact ⟨k + 1, by omega, by go_num, hall2.out, hb.out.alloc hb.out.size _⟩
              | (simp [intOf]; omega)
    · have hke : k = sw.length := by omega
      subst hke
      have tt : t = true := by rw [HT.out, ← hall.out, List.take_length]
      subst tt
      go_wp2
      go_ret
      exact ⟨rfl, hb.out⟩

end Go.Proofs.Ytkhhlifnbelckaa

/- What ApplySwaps of the program returns (promise 3). -/
namespace Go.Proofs.Ytkhhlifnbelckaa
open Go.RowKit Go.ChangeShapes
set_option linter.unusedSimpArgs false
set_option linter.unusedVariables false
set_option maxRecDepth 100000

set_option maxHeartbeats 4000000 in
theorem iApply_eq (a1 a2 a3 : Option Addr) (c1 c2 c3 : Nat) (sv : Value) (l r : List Int) (ps sw : List Pv) (w : World) (B : Nat) (V : Hid (Ck w B (.agg #[.slice a1 l.length c1, .slice a2 l.length c2, .slice a3 ps.length c3]) l r ps)) (HR : Hid (r.length = l.length)) (hs : Pvs w B sv sw) (hB : B ≤ w.heap.size) (hl : l.length ≤ 1048576) (hp : ps.length ≤ 1048576) (t : Bool) (HT : Hid (t = sw.all (swOk l.length))) (LL RR : List Int) (HLL : Hid (LL = if t = true then swaps l sw else l)) (HRR : Hid (RR = if t = true then swaps r sw else r)) :
    Calls Try.prog 59 #[.agg #[.slice a1 l.length c1, .slice a2 l.length c2, .slice a3 ps.length c3], sv] w (RetOCB w LL RR ps t) := by
  have HC := hide hs
  obtain ⟨ad, cap, rfl, hlen, hwf, hcell⟩ := hs
  have HCC := hide hcell
  clear hcell hwf
  have X := hide (Kn.two w #[.slice a1 l.length c1, .slice a2 l.length c2, .slice a3 ps.length c3] #[.slice none 0 0, .slice none 0 0, .slice none 0 0] 27 27)
  obtain ⟨w1, hw1⟩ : ∃ w1, w1 = (w.alloc (.cells #[.slice a1 l.length c1, .slice a2 l.length c2, .slice a3 ps.length c3] 27)).alloc (.cells #[.slice none 0 0, .slice none 0 0, .slice none 0 0] 27) := ⟨_, rfl⟩
  have hz1 := hide (show w1.heap.size = w.heap.size + 1 + 1 by rw [hw1]; simp)
  rw [← hw1] at X
  have hq0 : ((l.length : Int) != (l.length : Int)) = false := by simp
  have C0 := hide (fun (W : World) (h : Below w.heap.size w W) => iCopy_any _ l r ps W B (V.out.below h hB) (Nat.le_trans hB h.size) hl (by rw [HR.out]; exact hl) hp)
  have CH := hide (fun (W : World) (h : Below w.heap.size w W) => show Calls Try.prog 98 #[.slice ad sw.length cap, .int .i64 l.length] W (RetB1 W t) by rw [HT.out]; exact iHave_any _ sw l.length W B (HC.out.below h hB) (Nat.le_trans hB h.size))
  go_enter Try.func59, Try.ntmps59
  go_wp2_with fail
  rw [← hw1]
  clear hw1
  have c0 : w1.cell? ⟨w.heap.size, 0, none⟩ = some (.slice a1 l.length c1) := X.out.cell 0 0 rfl rfl
  have c1' : w1.cell? ⟨w.heap.size, 1, none⟩ = some (.slice a2 l.length c2) := X.out.cell 0 1 rfl rfl
  have c2' : w1.cell? ⟨w.heap.size, 2, none⟩ = some (.slice a3 ps.length c3) := X.out.cell 0 2 rfl rfl
  go_wp2_with fail
  go_at_call 57
  refine (C0.out _ X.out.below).mono ?_
  rintro e w2 ⟨x, y, z, lo, hi, n1, h1, n2, h2, n3, h3, rfl, q1, q2, O, hb⟩
  obtain ⟨x1, k1, rfl⟩ := O.x.form
  obtain ⟨x2, k2, hx2⟩ := O.y.form
  rw [HR.out] at hx2
  subst hx2
  obtain ⟨x3, k3, rfl⟩ := O.z.own.form
  have X2 := hide (X.out.up hb)
  have X3 := hide (X2.out.alloc #[.slice x1 l.length k1, .slice x2 l.length k2, .slice x3 ps.length k3] 27)
  have O3 := hide (O.below ((Below.refl w2.heap.size w2).alloc (Nat.le_refl _) (.cells #[.slice x1 l.length k1, .slice x2 l.length k2, .slice x3 ps.length k3] 27)))
  clear c0 c1' c2' O hb X X2
  obtain ⟨m, hm⟩ : ∃ m, m = w2.heap.size := ⟨_, rfl⟩
  obtain ⟨w3, hw3⟩ : ∃ w3, w3 = w2.alloc (.cells #[.slice x1 l.length k1, .slice x2 l.length k2, .slice x3 ps.length k3] 27) := ⟨_, rfl⟩
  rw [← hw3] at X3 O3
  rw [← hm] at X3 q2
  simp only [List.cons_append, List.nil_append] at X3
  have b0 : w3.cell? ⟨w.heap.size, 0, none⟩ = some (.slice a1 l.length c1) := X3.out.cell 0 0 rfl rfl
  have b1 : w3.cell? ⟨w.heap.size, 1, none⟩ = some (.slice a2 l.length c2) := X3.out.cell 0 1 rfl rfl
  have Q1 := hide q1
  have Q2 := hide q2
  rw [hw3] at b0 b1
  go_wp2_with fail
  rw [← hw3]
  try rw [← hm]
  clear b0 b1 hw3 hm q1 q2
  go_at_call 98
  refine (CH.out _ X3.out.below).mono ?_
  rintro e w4 ⟨rfl, hb⟩
  have K3 := hide (X3.out.up hb)
  have O3 := hide (O3.out.below hb)
  clear X3 hb
  cases t with
  | false =>
    obtain rfl : LL = l := HLL.out
    obtain rfl : RR = r := HRR.out
    have e0 : w4.cell? ⟨m, 0, none⟩ = some (.slice x1 LL.length k1) := K3.out.cell 2 0 rfl rfl
    have e1 : w4.cell? ⟨m, 1, none⟩ = some (.slice x2 LL.length k2) := K3.out.cell 2 1 rfl rfl
    have e2 : w4.cell? ⟨m, 2, none⟩ = some (.slice x3 ps.length k3) := K3.out.cell 2 2 rfl rfl
    have g0 : w4.cell? ⟨w.heap.size + 1, 0, none⟩ = some (.slice none 0 0) := K3.out.cell 1 0 rfl rfl
    have g1 : w4.cell? ⟨w.heap.size + 1, 1, none⟩ = some (.slice none 0 0) := K3.out.cell 1 1 rfl rfl
    have g2 : w4.cell? ⟨w.heap.size + 1, 2, none⟩ = some (.slice none 0 0) := K3.out.cell 1 2 rfl rfl
    have f0 := K3.out.free 1 0 rfl
    have f1 := K3.out.free 1 1 rfl
    have f2 := K3.out.free 1 2 rfl
    go_wp2_with fail
    have Z := ((K3.out.set 1 0 rfl (.slice x1 LL.length k1)).set 1 1 rfl (.slice x2 LL.length k2)).set 1 2 rfl (.slice x3 ps.length k3)
    have z0 := Z.cell 1 0 rfl rfl
    have z1 := Z.cell 1 1 rfl rfl
    have z2 := Z.cell 1 2 rfl rfl
    have q1 := Q1.out
    have hz := hz1.out
    have O6 := O3.out.seg (seg3 _ (w.heap.size + 1) (.slice x1 LL.length k1) (.slice x2 LL.length k2) (.slice x3 ps.length k3)) (.inr (by omega))
    exact bodyPost_ret (v := .tuple #[.agg #[.slice x1 LL.length k1, .slice x2 LL.length k2, .slice x3 ps.length k3], .bool false]) (by simp [results, Try.results59, go_sem, z0, z1, z2]) rfl
      ⟨_, _, _, lo, hi, n1, h1, n2, h2, n3, h3, rfl, by omega, O6.top.2, O6, Z.below⟩
  | true =>
    have EL : Hid (LL = swaps l sw) := HLL.out
    have ER : Hid (RR = swaps r sw) := HRR.out
    clear HLL HRR
    go_wp2_with fail
    go_loopw [29] (fun u wr => ∃ (k : Nat), k ≤ sw.length ∧ u = .int .i64 k ∧ Hid (Kn w wr [(w.heap.size, #[.slice a1 l.length c1, .slice a2 l.length c2, .slice a3 ps.length c3], 27), (w.heap.size + 1, #[.slice none 0 0, .slice none 0 0, .slice none 0 0], 27), (m, #[.slice x1 l.length k1, .slice x2 l.length k2, .slice x3 ps.length k3], 27)]) ∧ Hid (OC wr (.slice x1 l.length k1) (.slice x2 l.length k2) (.slice x3 ps.length k3) (swaps l (sw.take k)) (swaps r (sw.take k)) ps lo hi n1 h1 n2 h2 n3 h3)) (fun u _ => sw.length - (intOf u).toNat)
    case atStart => exact ⟨0, by omega, rfl, K3.out, by simpa [Hid, swaps] using O3.out⟩
    case round =>
      clear K3 O3
      obtain ⟨k, hk, rfl, K, O⟩ := hrel
      by_cases hlt : k < sw.length
      · have es1 := swaps_take l sw k hlt
        have es2 := swaps_take r sw k hlt
        obtain ⟨b1, o1, rfl, hb1, hc1, hc2⟩ := HCC.out k hlt
        have hok := List.all_eq_true.1 HT.out.symm _ (List.getElem_mem hlt)
        unfold swOk at hok
        simp only [Bool.and_eq_true, decide_eq_true_eq] at hok
        obtain ⟨⟨p1, p2⟩, p3, p4⟩ := hok
        obtain ⟨i, hi⟩ := Int.eq_ofNat_of_zero_le p1
        obtain ⟨j, hj⟩ := Int.eq_ofNat_of_zero_le p3
        rw [hi] at hc1 p2 es1 es2
        rw [hj] at hc2 p4 es1 es2
        rw [Int.toNat_natCast, Int.toNat_natCast] at es1 es2
        have d1 : wr.cell? ⟨b1, o1 + k * 2, none⟩ = some (.int .i64 i) := by rw [K.out.below.cell (p := ⟨b1, o1 + k * 2, none⟩) (Nat.lt_of_lt_of_le hb1 hB)]; exact hc1
        have d2 : wr.cell? ⟨b1, o1 + k * 2 + 1, none⟩ = some (.int .i64 j) := by rw [K.out.below.cell (p := ⟨b1, o1 + k * 2 + 1, none⟩) (Nat.lt_of_lt_of_le hb1 hB)]; exact hc2
        have H1 := hide (show i < (swaps l (sw.take k)).length by rw [swaps_length]; omega)
        have H2 := hide (show j < (swaps l (sw.take k)).length by rw [swaps_length]; omega)
        have H3 := hide (show i < (swaps r (sw.take k)).length by rw [swaps_length, HR.out]; omega)
        have H4 := hide (show j < (swaps r (sw.take k)).length by rw [swaps_length, HR.out]; omega)
        have ES1 := hide es1
        have ES2 := hide es2
        clear hc1 hc2 hb1 p1 p2 p3 p4 hi hj es1 es2
        have hbl := below1 wr (.cells #[.int .i64 i, .int .i64 j] 120)
        have K2 := hide (K.out.alloc #[.int .i64 i, .int .i64 j] 120)
        have O2 := hide (O.out.below hbl)
        clear hbl
        obtain ⟨w5, hw5⟩ : ∃ w5, w5 = wr.alloc (.cells #[.int .i64 i, .int .i64 j] 120) := ⟨_, rfl⟩
        rw [← hw5] at K2 O2
        simp only [List.cons_append, List.nil_append] at K2
        have e0 : w5.cell? ⟨m, 0, none⟩ = some (.slice x1 l.length k1) := K2.out.cell 2 0 rfl rfl
        rw [hw5] at e0
        have N5 := hide (show wr.heap.size < w5.heap.size by rw [hw5]; simp)
        have N6 := hide (Nat.le_trans O.out.top.2 (Nat.le_refl wr.heap.size))
        go_wp2_with fail
        rw [← hw5]
        clear e0 d1 d2
        go_at_call 99
        refine (iExch_ow _ (swaps l (sw.take k)) n1 h1 i j w5 O2.out.x H1.out H2.out).mono ?_
        rintro e' w6 ⟨⟨u, rfl⟩, Ox, s1⟩
        obtain ⟨l1, l2, l3⟩ := O.out.low
        obtain ⟨g1, g2, g3⟩ := O.out.high
        obtain ⟨r1, r2, r3⟩ := O.out.apart
        have hz := hz1.out
        have hq1 := Q1.out
        have hq2 := Q2.out
        have hn6 := N6.out
        have hm := K.out.lt 2 rfl
        have hlo := O.out.x.le
        have K3 := hide (K2.out.seg s1 (by omega) (by intro e he; simp at he; rcases he with rfl | rfl | rfl | rfl <;> simp <;> omega))
        have Oy := hide (O2.out.y.seg s1 (by omega))
        have Oz := hide (O2.out.z.seg s1 (by omega))
        have Ox := hide Ox
        have s1 := hide s1
        have e1 : w6.cell? ⟨m, 1, none⟩ = some (.slice x2 l.length k2) := K3.out.cell 2 1 rfl rfl
        have d1 : w6.cell? ⟨wr.heap.size, 0, none⟩ = some (.int .i64 i) := K3.out.cell 3 0 rfl rfl
        have d2 : w6.cell? ⟨wr.heap.size, 1, none⟩ = some (.int .i64 j) := K3.out.cell 3 1 rfl rfl
        have L := hide (And.intro l1 (And.intro l2 l3))
        have G := hide (And.intro g1 (And.intro g2 g3))
        have A := hide (And.intro r1 (And.intro r2 r3))
        clear l1 l2 l3 g1 g2 g3 r1 r2 r3 hz hq1 hq2 hn6 hm hlo K2 O2 hw5
        go_wp2_with fail
        go_at_call 99
        refine (iExch_ow _ (swaps r (sw.take k)) n2 h2 i j w6 Oy.out H3.out H4.out).mono ?_
        rintro e' w7 ⟨⟨u', rfl⟩, Oy7, s2⟩
        obtain ⟨l1, l2, l3⟩ := L.out
        obtain ⟨g1, g2, g3⟩ := G.out
        obtain ⟨r1, r2, r3⟩ := A.out
        have hz := hz1.out
        have hq1 := Q1.out
        have hq2 := Q2.out
        have hn6 := N6.out
        have hm := K.out.lt 2 rfl
        have hlo := O.out.y.le
        have K4 := hide ((K3.out.seg s2 (by omega) (by intro e he; simp at he; rcases he with rfl | rfl | rfl | rfl <;> simp <;> omega)).sub (M := [(w.heap.size, #[.slice a1 l.length c1, .slice a2 l.length c2, .slice a3 ps.length c3], 27), (w.heap.size + 1, #[.slice none 0 0, .slice none 0 0, .slice none 0 0], 27), (m, #[.slice x1 l.length k1, .slice x2 l.length k2, .slice x3 ps.length k3], 27)]) (List.sublist_append_left _ [_]))
        have Ox7 := hide (Ox.out.seg s2 (by omega))
        have Oz7 := hide (Oz.out.seg s2 (by omega))
        have hsz := hide (Nat.le_trans O.out.top.2 (Nat.le_trans (Nat.le_of_lt N5.out) (Nat.le_trans s1.out.below.size s2.below.size)))
        have Oy7 := hide Oy7
        clear l1 l2 l3 g1 g2 g3 r1 r2 r3 hz hq1 hq2 hn6 hm hlo K3 s2 d1 d2 e1
        go_wp2_with fail
        go_roundw
        case rel =>
          refine ⟨k + 1, by omega, by go_num, K4.out, ?_⟩
          show OC _ _ _ _ _ _ _ _ _ _ _ _ _ _ _
          rw [ES1.out, ES2.out]
          exact ⟨Ox7.out, Oy7.out, Oz7.out, L.out, G.out, A.out, O.out.top.1, hsz.out⟩
        case measure => simp [intOf]; omega
      · have hke : k = sw.length := by omega
        subst hke
        rw [List.take_length] at O
        rw [← EL.out, ← ER.out] at O
        have e0 : wr.cell? ⟨m, 0, none⟩ = some (.slice x1 l.length k1) := K.out.cell 2 0 rfl rfl
        have e1 : wr.cell? ⟨m, 1, none⟩ = some (.slice x2 l.length k2) := K.out.cell 2 1 rfl rfl
        have e2 : wr.cell? ⟨m, 2, none⟩ = some (.slice x3 ps.length k3) := K.out.cell 2 2 rfl rfl
        have g0 : wr.cell? ⟨w.heap.size + 1, 0, none⟩ = some (.slice none 0 0) := K.out.cell 1 0 rfl rfl
        have g1 : wr.cell? ⟨w.heap.size + 1, 1, none⟩ = some (.slice none 0 0) := K.out.cell 1 1 rfl rfl
        have g2 : wr.cell? ⟨w.heap.size + 1, 2, none⟩ = some (.slice none 0 0) := K.out.cell 1 2 rfl rfl
        have f0 := K.out.free 1 0 rfl
        have f1 := K.out.free 1 1 rfl
        have f2 := K.out.free 1 2 rfl
        go_wp2_with fail
        have Z := ((K.out.set 1 0 rfl (.slice x1 l.length k1)).set 1 1 rfl (.slice x2 l.length k2)).set 1 2 rfl (.slice x3 ps.length k3)
        have z0 := Z.cell 1 0 rfl rfl
        have z1 := Z.cell 1 1 rfl rfl
        have z2 := Z.cell 1 2 rfl rfl
        have q1 := Q1.out
        have hz := hz1.out
        have O6 := O.out.seg (seg3 _ (w.heap.size + 1) (.slice x1 l.length k1) (.slice x2 l.length k2) (.slice x3 ps.length k3)) (.inr (by omega))
        exact bodyPost_ret (v := .tuple #[.agg #[.slice x1 l.length k1, .slice x2 l.length k2, .slice x3 ps.length k3], .bool true]) (by simp [results, Try.results59, go_sem, z0, z1, z2]) rfl
          ⟨_, _, _, lo, hi, n1, h1, n2, h2, n3, h3, rfl, by omega, O6.top.2, O6, Z.below⟩

end Go.Proofs.Ytkhhlifnbelckaa

/- What ApplySwaps of the program returns, whole (promise 3). Written by gen_aps.py. -/
namespace Go.Proofs.Ytkhhlifnbelckaa
open Go.RowKit Go.ChangeShapes
set_option linter.unusedSimpArgs false
set_option linter.unusedVariables false
set_option maxRecDepth 100000

set_option maxHeartbeats 4000000 in
theorem iApply_ne (a1 a2 a3 : Option Addr) (c1 c2 c3 : Nat) (sv : Value) (l r : List Int) (ps sw : List Pv) (w : World) (B : Nat) (V : Hid (Ck w B (.agg #[.slice a1 l.length c1, .slice a2 r.length c2, .slice a3 ps.length c3]) l r ps)) (HR : ¬ (r.length = l.length)) (hs : Pvs w B sv sw) (hB : B ≤ w.heap.size) (hl : l.length ≤ 1048576) (hr : r.length ≤ 1048576) (hp : ps.length ≤ 1048576) :
    Calls Try.prog 59 #[.agg #[.slice a1 l.length c1, .slice a2 r.length c2, .slice a3 ps.length c3], sv] w (RetOCB w l r ps false) := by
  obtain ⟨ad, cap, rfl, -⟩ := hs
  have hq0 : ((r.length : Int) != (l.length : Int)) = true := by simp; omega
  have hq1 : (r.length == l.length) = false := by simp; omega
  have hq2 : decide (r.length = l.length) = false := by simp; omega
  clear HR
  have X := hide (Kn.two w #[.slice a1 l.length c1, .slice a2 r.length c2, .slice a3 ps.length c3] #[.slice none 0 0, .slice none 0 0, .slice none 0 0] 27 27)
  obtain ⟨w1, hw1⟩ : ∃ w1, w1 = (w.alloc (.cells #[.slice a1 l.length c1, .slice a2 r.length c2, .slice a3 ps.length c3] 27)).alloc (.cells #[.slice none 0 0, .slice none 0 0, .slice none 0 0] 27) := ⟨_, rfl⟩
  have hz1 := hide (show w1.heap.size = w.heap.size + 1 + 1 by rw [hw1]; simp)
  rw [← hw1] at X
  have C0 := hide (fun (W : World) (h : Below w.heap.size w W) => iCopy_any _ l r ps W B (V.out.below h hB) (Nat.le_trans hB h.size) hl hr hp)
  go_enter Try.func59, Try.ntmps59
  go_wp2_with fail
  rw [← hw1]
  clear hw1
  have c0 : w1.cell? ⟨w.heap.size, 0, none⟩ = some (.slice a1 l.length c1) := X.out.cell 0 0 rfl rfl
  have c1' : w1.cell? ⟨w.heap.size, 1, none⟩ = some (.slice a2 r.length c2) := X.out.cell 0 1 rfl rfl
  have c2' : w1.cell? ⟨w.heap.size, 2, none⟩ = some (.slice a3 ps.length c3) := X.out.cell 0 2 rfl rfl
  go_wp2_with fail
  go_at_call 57
  refine (C0.out _ X.out.below).mono ?_
  rintro e w2 ⟨x, y, z, lo, hi, n1, h1, n2, h2, n3, h3, rfl, q1, q2, O, hb⟩
  obtain ⟨x1, k1, rfl⟩ := O.x.form
  obtain ⟨x2, k2, rfl⟩ := O.y.form
  obtain ⟨x3, k3, rfl⟩ := O.z.own.form
  have X2 := hide (X.out.up hb)
  have X3 := hide (X2.out.alloc #[.slice x1 l.length k1, .slice x2 r.length k2, .slice x3 ps.length k3] 27)
  have O3 := hide (O.below ((Below.refl w2.heap.size w2).alloc (Nat.le_refl _) (.cells #[.slice x1 l.length k1, .slice x2 r.length k2, .slice x3 ps.length k3] 27)))
  clear c0 c1' c2' O hb X X2
  obtain ⟨m, hm⟩ : ∃ m, m = w2.heap.size := ⟨_, rfl⟩
  obtain ⟨w3, hw3⟩ : ∃ w3, w3 = w2.alloc (.cells #[.slice x1 l.length k1, .slice x2 r.length k2, .slice x3 ps.length k3] 27) := ⟨_, rfl⟩
  rw [← hw3] at X3 O3
  rw [← hm] at X3 q2
  simp only [List.cons_append, List.nil_append] at X3
  have b0 : w3.cell? ⟨w.heap.size, 0, none⟩ = some (.slice a1 l.length c1) := X3.out.cell 0 0 rfl rfl
  have b1 : w3.cell? ⟨w.heap.size, 1, none⟩ = some (.slice a2 r.length c2) := X3.out.cell 0 1 rfl rfl
  have g0 : w3.cell? ⟨w.heap.size + 1, 0, none⟩ = some (.slice none 0 0) := X3.out.cell 1 0 rfl rfl
  have g1 : w3.cell? ⟨w.heap.size + 1, 1, none⟩ = some (.slice none 0 0) := X3.out.cell 1 1 rfl rfl
  have g2 : w3.cell? ⟨w.heap.size + 1, 2, none⟩ = some (.slice none 0 0) := X3.out.cell 1 2 rfl rfl
  have f0 := X3.out.free 1 0 rfl
  have f1 := X3.out.free 1 1 rfl
  have f2 := X3.out.free 1 2 rfl
  have Q1 := hide q1
  have Q2 := hide q2
  rw [hw3] at b0 b1 g0 g1 g2 f0 f1 f2
  go_wp2_with fail
  have Z := ((X3.out.set 1 0 rfl (.slice x1 l.length k1)).set 1 1 rfl (.slice x2 r.length k2)).set 1 2 rfl (.slice x3 ps.length k3)
  have q1 := Q1.out
  have hz := hz1.out
  have O6 := O3.out.seg (seg3 _ (w.heap.size + 1) (.slice x1 l.length k1) (.slice x2 r.length k2) (.slice x3 ps.length k3)) (.inr (by omega))
  rw [hw3] at Z O6
  have z0 := Z.cell 1 0 rfl rfl
  have z1 := Z.cell 1 1 rfl rfl
  have z2 := Z.cell 1 2 rfl rfl
  exact bodyPost_ret (v := .tuple #[.agg #[.slice x1 l.length k1, .slice x2 r.length k2, .slice x3 ps.length k3], .bool false]) (by simp [results, Try.results59, go_sem, z0, z1, z2]) rfl
    ⟨_, _, _, lo, hi, n1, h1, n2, h2, n3, h3, rfl, by omega, O6.top.2, O6, Z.below⟩

theorem iApply_any (v sv : Value) (l r : List Int) (ps sw : List Pv) (w : World) (B : Nat) (hv : Ck w B v l r ps) (hs : Pvs w B sv sw) (hB : B ≤ w.heap.size) (hl : l.length ≤ 1048576) (hr : r.length ≤ 1048576) (hp : ps.length ≤ 1048576) :
    Calls Try.prog 59 #[v, sv] w (RetOCB w (apL l r sw) (apR l r sw) ps (canSwap l r sw)) := by
  obtain ⟨a1, c1, a2, c2, a3, c3, rfl, -⟩ := hv.form
  by_cases h : r.length = l.length
  · rw [h] at hv ⊢
    have e : canSwap l r sw = sw.all (swOk l.length) := by unfold canSwap; rw [decide_eq_true h]; rfl
    exact iApply_eq a1 a2 a3 c1 c2 c3 sv l r ps sw w B hv h hs hB hl hp _ e _ _ rfl rfl
  · have e : canSwap l r sw = false := by unfold canSwap; rw [decide_eq_false h]; rfl
    have e1 : apL l r sw = l := by unfold apL; rw [e]; rfl
    have e2 : apR l r sw = r := by unfold apR; rw [e]; rfl
    rw [e, e1, e2]
    exact iApply_ne a1 a2 a3 c1 c2 c3 sv l r ps sw w B hv h hs hB hl hr hp

end Go.Proofs.Ytkhhlifnbelckaa

/- A scope in which the run jumps to two labels, 0 and 1: what holds at every jump, and a measure that every pass lowers. Any program. -/
namespace Go.Proofs.Ytkhhlifnbelckaa
open Go.RowKit

/-- As Q; by a goto to label 0: J; to label 1: K; by any other goto: no way out. -/
def exitJ (J K : Act → World → Prop) (Q : Exit → Act → World → Prop) : Exit → Act → World → Prop
  | .goto l, a, w => (l = 0 ∧ J a w) ∨ (l = 1 ∧ K a w)
  | e, a, w => Q e a w

theorem exitJ_ret (J K : Act → World → Prop) (Q : Exit → Act → World → Prop) (a : Act) (w : World) : exitJ J K Q .ret a w = Q .ret a w := rfl

theorem exitJ_mono {J K J' K' : Act → World → Prop} {Q : Exit → Act → World → Prop} (hJ : ∀ a w, J a w → J' a w) (hK : ∀ a w, K a w → K' a w) (e : Exit) (a : Act) (w : World) (h : exitJ J K Q e a w) : exitJ J' K' Q e a w := by
  cases e with
  | goto l =>
    rcases h with h | h
    · exact .inl ⟨h.1, hJ _ _ h.2⟩
    · exact .inr ⟨h.1, hK _ _ h.2⟩
  | normal => exact h
  | exit id => exact h
  | ret => exact h
  | panic ch => exact h
  | outgrown => exact h

theorem code_mono {P : Program} {c : Code} {a : Act} {w : World} {Q Q' : Exit → Act → World → Prop} (h : ∀ e a w, Q e a w → Q' e a w) (H : c.wp P Q a w) : c.wp P Q' a w := by
  intro b k cs
  obtain ⟨e, a', w', hq, hr⟩ := H b k cs
  exact ⟨e, a', w', h _ _ _ hq, hr⟩

/-- What a pass has to show of its ends: at a goto to 0 and 1 (the measure below n), and at a return. -/
structure Ends (J K : Act → World → Prop) (μ ν : Act → World → Nat) (Q : Exit → Act → World → Prop) (n : Nat) (E : Exit → Act → World → Prop) : Prop where
  zero : ∀ a w, J a w → μ a w < n → E (.goto 0) a w
  one : ∀ a w, K a w → ν a w < n → E (.goto 1) a w
  ret : ∀ a w, Q .ret a w → E .ret a w

theorem wp_scope_two {P : Program} {a : Act} {w : World} {Q : Exit → Act → World → Prop} {c r0 r1 : Code} (J K : Act → World → Prop) (μ ν : Act → World → Nat) (h0 : findLabel c 0 = some (Code.skip.seq r0)) (h1 : findLabel c 1 = some (Code.skip.seq r1))
    (pass1 : ∀ n E, Hid (Ends J K μ ν Q n E) → ∀ a w, K a w → ν a w ≤ n → r1.wp P E a w)
    (pass0 : ∀ n E, Hid (Ends J K μ ν Q n E) → Hid (∀ a w, K a w → ν a w ≤ n → r1.wp P E a w) → ∀ a w, J a w → μ a w ≤ n → r0.wp P E a w)
    (first : ∀ E, (∀ a w, J a w → r0.wp P E a w) → Hid (∀ a w, Q .ret a w → E .ret a w) → c.wp P E a w) : (Code.scope c).wp P Q a w := by
  have en : ∀ n, Ends J K μ ν Q n (exitJ (fun a' w' => J a' w' ∧ μ a' w' < n) (fun a' w' => K a' w' ∧ ν a' w' < n) Q) := fun n =>
    ⟨fun a w h1 h2 => .inl ⟨rfl, h1, h2⟩, fun a w h1 h2 => .inr ⟨rfl, h1, h2⟩, fun a w h => h⟩
  have P1 : ∀ n a w, K a w → ν a w ≤ n → (Code.skip.seq r1).wp P (exitJ (fun a' w' => J a' w' ∧ μ a' w' < n) (fun a' w' => K a' w' ∧ ν a' w' < n) Q) a w :=
    fun n a w h h2 => wp_seq (wp_skip (pass1 n _ (en n) a w h h2))
  have P0 : ∀ n a w, J a w → μ a w ≤ n → (Code.skip.seq r0).wp P (exitJ (fun a' w' => J a' w' ∧ μ a' w' < n) (fun a' w' => K a' w' ∧ ν a' w' < n) Q) a w :=
    fun n a w h h2 => wp_seq (wp_skip (pass0 n _ (en n) (pass1 n _ (en n)) a w h h2))
  intro b k cs
  have g0 : gotoIn 0 (.inScope c :: k) = some (.code (Code.skip.seq r0) :: .inScope c :: k) := by simp [gotoIn, h0]
  have g1 : gotoIn 1 (.inScope c :: k) = some (.code (Code.skip.seq r1) :: .inScope c :: k) := by simp [gotoIn, h1]
  have key : ∀ n, (∀ a w, μ a w = n → J a w → ∃ e a' w', Q e a' w' ∧ Arrives P (lone (b.at a (.code (Code.skip.seq r0) :: .inScope c :: k)) cs w) b k cs e a' w') ∧ (∀ a w, ν a w = n → K a w → ∃ e a' w', Q e a' w' ∧ Arrives P (lone (b.at a (.code (Code.skip.seq r1) :: .inScope c :: k)) cs w) b k cs e a' w') := by
    intro n
    induction n using Nat.strongRecOn with
    | _ n ih =>
      refine ⟨fun a w hn hJ => ?_, fun a w hn hJ => ?_⟩
      · obtain ⟨e, a₁, w₁, hq, harr⟩ := P0 n a w hJ (by omega) b (.inScope c :: k) cs
        cases e with
        | normal => exact ⟨.normal, a₁, w₁, hq, Steps.trans harr (.one step_inScope)⟩
        | exit id => exact ⟨.exit id, a₁, w₁, hq, fun k' hk => harr k' (by simp [exitTo, hk])⟩
        | goto l' =>
          rcases hq with ⟨rfl, hJ', hlt⟩ | ⟨rfl, hJ', hlt⟩
          · obtain ⟨e₂, a₂, w₂, hq₂, harr₂⟩ := (ih _ hlt).1 a₁ w₁ rfl hJ'
            exact ⟨e₂, a₂, w₂, hq₂, .of_steps (harr _ g0) harr₂⟩
          · obtain ⟨e₂, a₂, w₂, hq₂, harr₂⟩ := (ih _ hlt).2 a₁ w₁ rfl hJ'
            exact ⟨e₂, a₂, w₂, hq₂, .of_steps (harr _ g1) harr₂⟩
        | ret => exact ⟨_, a₁, w₁, hq, harr⟩
        | panic ch => exact ⟨_, a₁, w₁, hq, harr⟩
        | outgrown => exact ⟨_, a₁, w₁, hq, harr⟩
      · obtain ⟨e, a₁, w₁, hq, harr⟩ := P1 n a w hJ (by omega) b (.inScope c :: k) cs
        cases e with
        | normal => exact ⟨.normal, a₁, w₁, hq, Steps.trans harr (.one step_inScope)⟩
        | exit id => exact ⟨.exit id, a₁, w₁, hq, fun k' hk => harr k' (by simp [exitTo, hk])⟩
        | goto l' =>
          rcases hq with ⟨rfl, hJ', hlt⟩ | ⟨rfl, hJ', hlt⟩
          · obtain ⟨e₂, a₂, w₂, hq₂, harr₂⟩ := (ih _ hlt).1 a₁ w₁ rfl hJ'
            exact ⟨e₂, a₂, w₂, hq₂, .of_steps (harr _ g0) harr₂⟩
          · obtain ⟨e₂, a₂, w₂, hq₂, harr₂⟩ := (ih _ hlt).2 a₁ w₁ rfl hJ'
            exact ⟨e₂, a₂, w₂, hq₂, .of_steps (harr _ g1) harr₂⟩
        | ret => exact ⟨_, a₁, w₁, hq, harr⟩
        | panic ch => exact ⟨_, a₁, w₁, hq, harr⟩
        | outgrown => exact ⟨_, a₁, w₁, hq, harr⟩
  have F := first (exitJ J K Q) (fun a w h => code_mono (fun e a' w' hq => exitJ_mono (fun _ _ h => h.1) (fun _ _ h => h.1) e a' w' hq) (pass0 _ _ (en _) (pass1 _ _ (en _)) a w h (Nat.le_refl _))) (fun a w h => h)
  obtain ⟨e, a₁, w₁, hq, harr⟩ := F b (.inScope c :: k) cs
  cases e with
  | normal => exact ⟨.normal, a₁, w₁, hq, .head step_scope (Steps.trans harr (.one step_inScope))⟩
  | exit id => exact ⟨.exit id, a₁, w₁, hq, fun k' hk => .head step_scope (harr k' (by simp [exitTo, hk]))⟩
  | goto l' =>
    rcases hq with ⟨rfl, hJ'⟩ | ⟨rfl, hJ'⟩
    · obtain ⟨e₂, a₂, w₂, hq₂, harr₂⟩ := (key _).1 a₁ w₁ rfl hJ'
      exact ⟨e₂, a₂, w₂, hq₂, .of_steps (.head step_scope (harr _ g0)) harr₂⟩
    · obtain ⟨e₂, a₂, w₂, hq₂, harr₂⟩ := (key _).2 a₁ w₁ rfl hJ'
      exact ⟨e₂, a₂, w₂, hq₂, .of_steps (.head step_scope (harr _ g1)) harr₂⟩
  | ret => exact ⟨_, a₁, w₁, hq, .of_steps (.one step_scope) harr⟩
  | panic ch => exact ⟨_, a₁, w₁, hq, .of_steps (.one step_scope) harr⟩
  | outgrown => exact ⟨_, a₁, w₁, hq, .of_steps (.one step_scope) harr⟩

end Go.Proofs.Ytkhhlifnbelckaa

/- What Partition of the program returns: two labels (promise 3). Written by gen_pti.py. -/
namespace Go.Proofs.Ytkhhlifnbelckaa
open Go.RowKit Go.ChangeShapes
set_option linter.unusedSimpArgs false
set_option linter.unusedVariables false
set_option maxRecDepth 100000

theorem part_stay (l : List Int) (p : Int) (f i e : Nat) (h : i < e) (hx : l.getD i 0 < p) : part l p (f + 1) i e = part l p f (i + 1) e := by rw [part_step l p f i e h, if_pos hx]
theorem part_back (l : List Int) (p : Int) (f i q : Nat) (h : i < q + 1) (hx : p ≤ l.getD i 0) (hy : p ≤ l.getD q 0) : part l p (f + 1) i (q + 1) = part l p f i q := by rw [part_step l p f i _ h, if_neg (by omega), Nat.add_sub_cancel, if_pos hy]
theorem part_swap (l : List Int) (p : Int) (f i q : Nat) (h : i < q + 1) (hx : p ≤ l.getD i 0) (hy : ¬ (p ≤ l.getD q 0)) : part l p (f + 1) i (q + 1) = (((i : Int), (q : Int)) :: (part l p f (i + 1) q).1, (part l p f (i + 1) q).2) := by
  rw [part_step l p f i _ h, if_neg (by omega), Nat.add_sub_cancel, if_neg hy]
  simp

/-- At the first label. -/
def AtL (w : World) (l : List Int) (p : Int) (ad : Option Addr) (cap n e : Nat) (R : List Pv × Int) (a' : Act) (w' : World) : Prop := ∃ (f i j : Nat) (x z : Int) (out : List Pv) (sv u4 u5 u6 u7 u8 u9 u13 u14 u15 u16 u17 u18 u19 u20 u21 u22 u23 u24 u25 u26 u27 u28 u29 u30 u31 u32 u33 u34 u35 u36 u37 u38 u39 u40 u41 u42 u43 u44 u45 u46 u47 u48 u49 u50 u51 u52 u53 u54 u55 u56 u57 u58 u59 u60 u61 u62 u63 u64 : Value), a' = { tmps := #[.slice ad l.length cap, .int .i64 n, .int .i64 e, .int .i64 p, u4, u5, u6, u7, u8, u9, sv, .int .i64 x, .int .i64 z, u13, u14, u15, u16, u17, u18, u19, u20, u21, u22, u23, u24, u25, u26, u27, u28, u29, u30, u31, u32, u33, u34, u35, u36, u37, u38, u39, u40, u41, u42, u43, u44, u45, u46, u47, u48, u49, u50, u51, u52, u53, u54, u55, u56, u57, u58, u59, u60, u61, u62, u63, u64], defers := [] } ∧ x = (i : Int) ∧ z = (j : Int) - 1 ∧ j ≤ e ∧ i ≤ e ∧ i ≤ j + 1 ∧ Hid (j - i ≤ f) ∧ Hid (R = (out ++ (part l p f i j).1, ((part l p f i j).2 : Int))) ∧ Hid (OwS w' w.heap.size sv out) ∧ Hid (out.length + j ≤ 2097152) ∧ Hid (Below w.heap.size w w')

/-- At the second label: the element at i is not less. -/
def AtR (w : World) (l : List Int) (p : Int) (ad : Option Addr) (cap n e : Nat) (R : List Pv × Int) (a' : Act) (w' : World) : Prop := ∃ (f i j : Nat) (x z : Int) (out : List Pv) (sv u4 u5 u6 u7 u8 u9 u13 u14 u15 u16 u17 u18 u19 u20 u21 u22 u23 u24 u25 u26 u27 u28 u29 u30 u31 u32 u33 u34 u35 u36 u37 u38 u39 u40 u41 u42 u43 u44 u45 u46 u47 u48 u49 u50 u51 u52 u53 u54 u55 u56 u57 u58 u59 u60 u61 u62 u63 u64 : Value), a' = { tmps := #[.slice ad l.length cap, .int .i64 n, .int .i64 e, .int .i64 p, u4, u5, u6, u7, u8, u9, sv, .int .i64 x, .int .i64 z, u13, u14, u15, u16, u17, u18, u19, u20, u21, u22, u23, u24, u25, u26, u27, u28, u29, u30, u31, u32, u33, u34, u35, u36, u37, u38, u39, u40, u41, u42, u43, u44, u45, u46, u47, u48, u49, u50, u51, u52, u53, u54, u55, u56, u57, u58, u59, u60, u61, u62, u63, u64], defers := [] } ∧ x = (i : Int) ∧ z = (j : Int) - 1 ∧ j ≤ e ∧ i ≤ e ∧ i ≤ j + 1 ∧ Hid (j - i ≤ f) ∧ Hid (R = (out ++ (part l p f i j).1, ((part l p f i j).2 : Int))) ∧ Hid (OwS w' w.heap.size sv out) ∧ Hid (out.length + j ≤ 2097152) ∧ Hid (Below w.heap.size w w') ∧ Hid (p ≤ l.getD i 0) ∧ Hid (i < l.length)

def muL (a' : Act) (_ : World) : Nat := 2 * (intOf (a'.tmps.getD 12 undef) + 2 - intOf (a'.tmps.getD 11 undef)).toNat + 1
def muR (a' : Act) (_ : World) : Nat := 2 * (intOf (a'.tmps.getD 12 undef) + 2 - intOf (a'.tmps.getD 11 undef)).toNat

set_option maxHeartbeats 4000000 in
theorem iPart_in (l : List Int) (n e : Nat) (p : Int) (ad : Option Addr) (cap : Nat) (w : World) (B : Nat) (HC : Hid (∀ j (h : j < l.length), ∃ b o, ad = some ⟨b, o, none⟩ ∧ b < B ∧ w.cell? ⟨b, o + j, none⟩ = some (.int .i64 l[j]))) (hB : B ≤ w.heap.size) (hl : l.length ≤ 1048576) (hne : n ≤ e) (hel : e ≤ l.length) (R : List Pv × Int) (HR : Hid (R = ((part l p (e - n) n e).1, ((part l p (e - n) n e).2 : Int)))) :
    Calls Try.prog 58 #[.slice ad l.length cap, .int .i64 n, .int .i64 e, .int .i64 p] w (RetSI w R) := by
  have t1 : decide ((n : Int) < 0) = false := by simp
  have t2 : decide (e < n) = false := by simp; omega
  have t3 : decide (l.length < e) = false := by simp; omega
  go_enter Try.func58, Try.ntmps58
  go_wp2_with fail
  refine wp_scope_two (AtL w l p ad cap n e R) (AtR w l p ad cap n e R) muL muR rfl rfl ?_ ?_ ?_
  · intro m E hE a' w' hK hm
    obtain ⟨f, i, j, x, z, out, sv, u4, u5, u6, u7, u8, u9, u13, u14, u15, u16, u17, u18, u19, u20, u21, u22, u23, u24, u25, u26, u27, u28, u29, u30, u31, u32, u33, u34, u35, u36, u37, u38, u39, u40, u41, u42, u43, u44, u45, u46, u47, u48, u49, u50, u51, u52, u53, u54, u55, u56, u57, u58, u59, u60, u61, u62, u63, u64, rfl, rfl, hz, hje, hie, hij, hf, hR, O, hol, hb, hx, hil⟩ := hK
    have hm2 := hide (show 2 * (z + 2 - (i : Int)).toNat ≤ m by simpa [muR, intOf] using hm)
    clear hm
    by_cases hlt : i < j
    · obtain ⟨q, rfl⟩ : ∃ q, j = q + 1 := ⟨j - 1, by omega⟩
      obtain rfl : z = (q : Int) := by omega
      obtain ⟨f', rfl⟩ : ∃ f', f = f' + 1 := ⟨f - 1, by have := hf.out; omega⟩
      have hql : q < l.length := by omega
      obtain ⟨b1, o1, rfl, hb1, hc1⟩ := HC.out q hql
      obtain ⟨y, hy⟩ : ∃ y, y = l[q] := ⟨_, rfl⟩
      have hyd := hide (show l.getD q 0 = y by rw [hy, List.getD_eq_getElem?_getD, List.getElem?_eq_getElem hql]; rfl)
      rw [← hy] at hc1
      have d1 : w'.cell? ⟨b1, o1 + q, none⟩ = some (.int .i64 y) := by rw [hb.out.cell (p := ⟨b1, o1 + q, none⟩) (Nat.lt_of_lt_of_le hb1 hB)]; exact hc1
      have s1n : decide (q < i) = false := by simp; omega
      have hfo := hf.out
      clear hb1 hc1 hy hf hz
      by_cases e2 : p ≤ y
      · have hn2 := hide (show R = (out ++ (part l p f' i q).1, ((part l p f' i q).2 : Int)) by rw [hR.out, part_back l p f' i q hlt hx.out (by rw [hyd.out]; exact e2)])
        have t4 : decide (y ≥ p) = true := by simp; omega
        have t5 : decide (p ≤ y) = true := by simp; omega
        have hol2 := hide (show out.length + q ≤ 2097152 by have := hol.out; omega)
        go_wp2_with fail
        go_step3
        refine hE.out.one _ _ ⟨f', i, q, _, _, out, _, _, _, _, _, _, _, _, _, _, _, _, _, _, _, _, _, _, _, _, _, _, _, _, _, _, _, _, _, _, _, _, _, _, _, _, _, _, _, _, _, _, _, _, _, _, _, _, _, _, _, _, _, _, _, _, _, _, _, rfl, rfl, by go_num, by omega, by omega, by omega, by show _ ≤ _; omega, hn2, O.out, hol2.out, hb.out, hx.out, hil.out⟩ ?_
        have := hm2.out
        simp [muR, intOf]; omega
      · have hn2 := hide (show R = ((out ++ [((i : Int), (q : Int))]) ++ (part l p f' (i + 1) q).1, ((part l p f' (i + 1) q).2 : Int)) by rw [hR.out, part_swap l p f' i q hlt hx.out (by rw [hyd.out]; exact e2)]; simp)
        have t4 : decide (y ≥ p) = false := by simp; omega
        have t5 : decide (p ≤ y) = false := by simp; omega
        have hol2 := hide (show (out ++ [((i : Int), (q : Int))]).length + q ≤ 2097152 by have := hol.out; simp; omega)
        have hbs := hide hb.out.size
        obtain ⟨uv, ucap, huf⟩ := O.out.form
        subst huf
        go_wp2_with (first | (at_builtin; refine os_append _ rfl _ _ rfl w.heap.size _ _ O.out rfl _ _ _ _ rfl rfl (by have := hol.out; omega) hbs.out ?_; intro v5 w5 hown5 hb5 hq5) | fail)
        have O := hide hown5
        have hb := hide (hb.out.trans hb5)
        clear hown5 hb5 hq5
        go_step3
        refine hE.out.zero _ _ ⟨f', i + 1, q, _, _, out ++ [((i : Int), (q : Int))], _, _, _, _, _, _, _, _, _, _, _, _, _, _, _, _, _, _, _, _, _, _, _, _, _, _, _, _, _, _, _, _, _, _, _, _, _, _, _, _, _, _, _, _, _, _, _, _, _, _, _, _, _, _, _, _, _, _, _, rfl, by go_num, by go_num, by omega, by omega, by omega, by show _ ≤ _; omega, hn2, O.out, hol2.out, hb.out⟩ ?_
        have := hm2.out
        simp [muL, intOf]; omega
    · have hst := part_stop l p f i j hlt
      have hn2 := hide (show R = (out, (i : Int)) by rw [hR.out, hst]; simp)
      have s1' : decide (z < (i : Int)) = true := by simp; omega
      clear hst
      go_wp2_with fail
      refine hE.out.ret _ _ ?_
      go_ret2
      exact ⟨_, by rw [hn2.out]; rfl, by rw [hn2.out]; exact O.out, hb.out⟩
  · intro m E hE HP a' w' hJ hm
    obtain ⟨f, i, j, x, z, out, sv, u4, u5, u6, u7, u8, u9, u13, u14, u15, u16, u17, u18, u19, u20, u21, u22, u23, u24, u25, u26, u27, u28, u29, u30, u31, u32, u33, u34, u35, u36, u37, u38, u39, u40, u41, u42, u43, u44, u45, u46, u47, u48, u49, u50, u51, u52, u53, u54, u55, u56, u57, u58, u59, u60, u61, u62, u63, u64, rfl, rfl, hz, hje, hie, hij, hf, hR, O, hol, hb⟩ := hJ
    have hm2 := hide (show 2 * (z + 2 - (i : Int)).toNat + 1 ≤ m by simpa [muL, intOf] using hm)
    clear hm
    by_cases hlt : i < j
    · obtain ⟨q, rfl⟩ : ∃ q, j = q + 1 := ⟨j - 1, by omega⟩
      obtain rfl : z = (q : Int) := by omega
      have hil : i < l.length := by omega
      obtain ⟨b1, o1, rfl, hb1, hc1⟩ := HC.out i hil
      obtain ⟨y, hy⟩ : ∃ y, y = l[i] := ⟨_, rfl⟩
      have hyd := hide (show l.getD i 0 = y by rw [hy, List.getD_eq_getElem?_getD, List.getElem?_eq_getElem hil]; rfl)
      rw [← hy] at hc1
      have d1 : w'.cell? ⟨b1, o1 + i, none⟩ = some (.int .i64 y) := by rw [hb.out.cell (p := ⟨b1, o1 + i, none⟩) (Nat.lt_of_lt_of_le hb1 hB)]; exact hc1
      have s1n : decide (q < i) = false := by simp; omega
      clear hb1 hc1 hy hz
      by_cases e2 : y < p
      · obtain ⟨f', rfl⟩ : ∃ f', f = f' + 1 := ⟨f - 1, by have := hf.out; omega⟩
        have hn2 := hide (show R = (out ++ (part l p f' (i + 1) (q + 1)).1, ((part l p f' (i + 1) (q + 1)).2 : Int)) by rw [hR.out, part_stay l p f' i (q + 1) hlt (by rw [hyd.out]; exact e2)])
        have hfo := hf.out
        have t4 : decide (y < p) = true := by simp; omega
        clear hf
        go_wp2_with fail
        go_step3
        refine hE.out.zero _ _ ⟨f', i + 1, q + 1, _, _, out, _, _, _, _, _, _, _, _, _, _, _, _, _, _, _, _, _, _, _, _, _, _, _, _, _, _, _, _, _, _, _, _, _, _, _, _, _, _, _, _, _, _, _, _, _, _, _, _, _, _, _, _, _, _, _, _, _, _, _, rfl, by go_num, by go_num, by omega, by omega, by omega, by show _ ≤ _; omega, hn2, O.out, hol.out, hb.out⟩ ?_
        have := hm2.out
        simp [muL, intOf]; omega
      · have t4 : decide (y < p) = false := by simp; omega
        have hx := hide (show p ≤ l.getD i 0 by rw [hyd.out]; omega)
        go_wp2_with fail
        go_step3
        rename_i hK
        refine hK _ _ (HP.out _ _ ⟨f, i, q + 1, _, _, out, _, _, _, _, _, _, _, _, _, _, _, _, _, _, _, _, _, _, _, _, _, _, _, _, _, _, _, _, _, _, _, _, _, _, _, _, _, _, _, _, _, _, _, _, _, _, _, _, _, _, _, _, _, _, _, _, _, _, _, rfl, rfl, by go_num, hje, hie, hij, hf.out, hR.out, O.out, hol.out, hb.out, hx.out, hil⟩ ?_)
        have := hm2.out
        simp [muR, intOf]; omega
    · have hst := part_stop l p f i j hlt
      have hn2 := hide (show R = (out, (i : Int)) by rw [hR.out, hst]; simp)
      have s1' : decide (z < (i : Int)) = true := by simp; omega
      clear hst
      go_wp2_with fail
      refine hE.out.ret _ _ ?_
      go_ret2
      exact ⟨_, by rw [hn2.out]; rfl, by rw [hn2.out]; exact O.out, hb.out⟩
  · intro E HP HQ
    have HP := hide HP
    go_wp2_with fail
    go_step3
    rename_i hK
    refine hK _ _ (HP.out _ _ ⟨e - n, n, e, _, _, [], _, _, _, _, _, _, _, _, _, _, _, _, _, _, _, _, _, _, _, _, _, _, _, _, _, _, _, _, _, _, _, _, _, _, _, _, _, _, _, _, _, _, _, _, _, _, _, _, _, _, _, _, _, _, _, _, _, _, _, rfl, by go_num, by go_num, by omega, by omega, by omega, Nat.le_refl _, by simpa [Hid] using HR.out, OwS.nil _ _, by simp [Hid]; omega, Below.refl _ _⟩)

end Go.Proofs.Ytkhhlifnbelckaa

/- What Partition of the program returns, whole (promise 3). -/
namespace Go.Proofs.Ytkhhlifnbelckaa
open Go.RowKit Go.ChangeShapes
set_option linter.unusedSimpArgs false
set_option linter.unusedVariables false
set_option maxRecDepth 100000

set_option maxHeartbeats 4000000 in
theorem iPart_no (l : List Int) (a b p : Int) (ad : Option Addr) (cap : Nat) (w : World) (hl : l.length ≤ 1048576) (h1 : ¬ (0 ≤ a ∧ a ≤ b ∧ b ≤ (l.length : Int))) :
    Calls Try.prog 58 #[.slice ad l.length cap, .int .i64 a, .int .i64 b, .int .i64 p] w (RetSI w ([], 0)) := by
  by_cases q1 : a < 0
  · have t1 : decide (a < 0) = true := by simp; omega
    clear h1
    go_enter Try.func58, Try.ntmps58
    go_wp2_with fail
    go_step3
    go_wp2_with fail
    rw [Exit.noGoto_ret]
    go_ret2
    exact ⟨_, rfl, OwS.nil _ _, Below.refl _ _⟩
  · have t1 : decide (a < 0) = false := by simp; omega
    by_cases q2 : b < a
    · have t2 : decide (b < a) = true := by simp; omega
      have t2' : decide (a > b) = true := by simp; omega
      clear h1
      go_enter Try.func58, Try.ntmps58
      go_wp2_with fail
      go_step3
      go_wp2_with fail
      rw [Exit.noGoto_ret]
      go_ret2
      exact ⟨_, rfl, OwS.nil _ _, Below.refl _ _⟩
    · have t2 : decide (b < a) = false := by simp; omega
      have t2' : decide (a > b) = false := by simp; omega
      have t3 : decide ((l.length : Int) < b) = true := by simp; omega
      have t3' : decide (b > (l.length : Int)) = true := by simp; omega
      clear h1
      go_enter Try.func58, Try.ntmps58
      go_wp2_with fail
      go_step3
      go_wp2_with fail
      rw [Exit.noGoto_ret]
      go_ret2
      exact ⟨_, rfl, OwS.nil _ _, Below.refl _ _⟩

theorem iPart_any (v : Value) (l : List Int) (a b p : Int) (w : World) (B : Nat) (hv : Ints w B v l) (hB : B ≤ w.heap.size) (hl : l.length ≤ 1048576) :
    Calls Try.prog 58 #[v, .int .i64 a, .int .i64 b, .int .i64 p] w (RetSI w (partP l a b p)) := by
  obtain ⟨ad, cap, rfl, hlen, -, hcell⟩ := hv
  by_cases h1 : 0 ≤ a ∧ a ≤ b ∧ b ≤ (l.length : Int)
  · obtain ⟨g1, g2, g3⟩ := h1
    obtain ⟨n, rfl⟩ := Int.eq_ofNat_of_zero_le g1
    obtain ⟨e, rfl⟩ := Int.eq_ofNat_of_zero_le (show 0 ≤ b by omega)
    refine iPart_in l n e p ad cap w B hcell hB hl (by omega) (by omega) _ ?_
    show _ = _
    unfold partP
    rw [if_pos ⟨g1, g2, g3⟩]
    simp only [Int.toNat_natCast]
    rw [show ((e : Int) - (n : Int)).toNat = e - n by omega]
  · have : partP l a b p = ([], 0) := by unfold partP; rw [if_neg h1]
    rw [this]
    exact iPart_no l a b p ad cap w hl h1

end Go.Proofs.Ytkhhlifnbelckaa

/- What CrackAt of the program returns (promise 3). Written by gen_cri.py. -/
namespace Go.Proofs.Ytkhhlifnbelckaa
open Go.RowKit Go.ChangeShapes
set_option linter.unusedSimpArgs false
set_option linter.unusedVariables false
set_option maxRecDepth 100000

set_option maxHeartbeats 8000000 in
theorem iCrack_any (u : Value) (l r : List Int) (ps : List Pv) (v : Int) (w : World) (B : Nat) (hv : Ck w B u l r ps) (hB : B ≤ w.heap.size) (hl : l.length ≤ 1048576) (hr : r.length ≤ 1048576) (hp : ps.length ≤ 1048576) (hvw : I64 v) :
    Calls Try.prog 13 #[u, .int .i64 v] w (RetOCSB w (crL l r ps v) (crR l r ps v) (crP l r ps v) (crS l r ps v) (crOk l r ps v)) := by
  obtain ⟨a1, c1, a2, c2, a3, c3, rfl, i1, i2, i3⟩ := hv.form
  obtain ⟨wl, wr, wpl, wp⟩ := hv.wf
  have V := hide hv
  have I1 := hide i1
  clear hv i1 i2 i3
  obtain ⟨t0, ht0⟩ : ∃ t, t = isCk l r ps := ⟨_, rfl⟩
  obtain ⟨bd, hbd⟩ : ∃ t, t = decide (-1000 ≤ v ∧ v ≤ 1000) := ⟨_, rfl⟩
  obtain ⟨fd, hfd⟩ : ∃ p, p = fndP ps v := ⟨_, rfl⟩
  obtain ⟨pc, hpc⟩ : ∃ p, p = pieceP l r ps v := ⟨_, rfl⟩
  obtain ⟨pt, hpt⟩ : ∃ p, p = crPt l r ps v := ⟨_, rfl⟩
  obtain ⟨L1, hL1⟩ : ∃ p, p = apL l r pt.1 := ⟨_, rfl⟩
  obtain ⟨R1, hR1⟩ : ∃ p, p = apR l r pt.1 := ⟨_, rfl⟩
  obtain ⟨P1, hP1⟩ : ∃ p, p = adP L1 R1 ps (v, pt.2) := ⟨_, rfl⟩
  obtain ⟨nl, hnl⟩ : ∃ p, p = crL l r ps v := ⟨_, rfl⟩
  obtain ⟨nr, hnr⟩ : ∃ p, p = crR l r ps v := ⟨_, rfl⟩
  obtain ⟨np, hnp⟩ : ∃ p, p = crP l r ps v := ⟨_, rfl⟩
  obtain ⟨ns, hns⟩ : ∃ p, p = crS l r ps v := ⟨_, rfl⟩
  obtain ⟨ok, hok⟩ : ∃ p, p = crOk l r ps v := ⟨_, rfl⟩
  have HOK := hide (show ok = (t0 && bd) by rw [hok, ht0, hbd]; rfl)
  have HDV := hide (show crDiv l r ps v = ((t0 && bd) && !fd.2) by rw [ht0, hbd, hfd]; rfl)
  have HNL := hide (show nl = if ((t0 && bd) && !fd.2) = true then L1 else l by rw [← HDV.out, hnl, hL1, hpt]; rfl)
  have HNR := hide (show nr = if ((t0 && bd) && !fd.2) = true then R1 else r by rw [← HDV.out, hnr, hR1, hpt]; rfl)
  have HNP := hide (show np = if ((t0 && bd) && !fd.2) = true then P1 else ps by rw [← HDV.out, hnp, hP1, hL1, hR1, hpt]; rfl)
  have HNS := hide (show ns = if ((t0 && bd) && !fd.2) = true then pt.1 else [] by rw [← HDV.out, hns, hpt]; rfl)
  rw [← hnl, ← hnr, ← hnp, ← hns, ← hok]
  have HPT := hide (show pt = partP l pc.1 pc.2 v by rw [hpt, hpc]; rfl)
  have hnum := partP_nums l pc.1 pc.2 v hl
  have hpw := partP_wf l pc.1 pc.2 v hl
  rw [← HPT.out] at hnum hpw
  have HL1 := hide (show L1.length ≤ 1048576 ∧ (∀ x ∈ L1, I64 x) by rw [hL1]; exact ⟨by rw [apL_length]; exact hl, apL_wf wl⟩)
  have HR1 := hide (show R1.length ≤ 1048576 ∧ (∀ x ∈ R1, I64 x) by rw [hR1]; exact ⟨by rw [apR_length]; exact hr, apR_wf wr⟩)
  have HNM := hide hnum
  have HPW := hide hpw
  have HWP := hide wp
  have CK := hide (fun (W : World) (h : Below w.heap.size w W) => show Calls Try.prog 19 #[.agg #[.slice a1 l.length c1, .slice a2 r.length c2, .slice a3 ps.length c3]] W (RetB1 W t0) by rw [ht0]; exact iIsCk_any _ l r ps W B (V.out.below h hB) (Nat.le_trans hB h.size))
  have CF := hide (fun (W : World) (h : Below w.heap.size w W) => show Calls Try.prog 17 #[.agg #[.slice a1 l.length c1, .slice a2 r.length c2, .slice a3 ps.length c3], .int .i64 v] W (RetPB W fd) by rw [hfd]; exact iFindP_any _ l r ps v W B (V.out.below h hB) (Nat.le_trans hB h.size))
  have CC := hide (fun (W : World) (h : Below w.heap.size w W) => iCopy_any _ l r ps W B (V.out.below h hB) (Nat.le_trans hB h.size) hl hr hp)
  have CP := hide (fun (W : World) (h : Below w.heap.size w W) => show Calls Try.prog 16 #[.agg #[.slice a1 l.length c1, .slice a2 r.length c2, .slice a3 ps.length c3], .int .i64 v] W (RetII W pc) by rw [hpc]; exact iPieceOf_any _ l r ps v W B (V.out.below h hB) (Nat.le_trans hB h.size))
  have CT := hide (fun (W : World) (h : Below w.heap.size w W) => show Calls Try.prog 58 #[.slice a1 l.length c1, .int .i64 pc.1, .int .i64 pc.2, .int .i64 v] W (RetSI W pt) by rw [HPT.out]; exact iPart_any _ l pc.1 pc.2 v W B (I1.out.below h hB) (Nat.le_trans hB h.size) hl)
  have CAp := hide (fun (W : World) (sv : Value) (h : Below w.heap.size w W) (h2 : Pvs W W.heap.size sv pt.1) => show Calls Try.prog 59 #[.agg #[.slice a1 l.length c1, .slice a2 r.length c2, .slice a3 ps.length c3], sv] W (RetOCB W L1 R1 ps (canSwap l r pt.1)) by rw [hL1, hR1]; exact iApply_any _ sv l r ps pt.1 W W.heap.size ((V.out.below h hB).mono (Nat.le_trans hB h.size)) h2 (Nat.le_refl _) hl hr hp)
  have CAd := hide (fun (W : World) (x : Value) (h : Ck W W.heap.size x L1 R1 ps) => show Calls Try.prog 60 #[x, .agg #[.int .i64 v, .int .i64 pt.2]] W (RetOCB W L1 R1 P1 (adOk L1 R1 ps (v, pt.2))) by rw [hP1]; exact iAdd_any x L1 R1 ps v pt.2 W W.heap.size h ⟨hvw, ⟨by have := HNM.out; omega, by have := HNM.out; omega⟩⟩ (Nat.le_refl _) HL1.out.1 HR1.out.1 hp)
  have HBD := hide hbd
  clear ht0 hbd hfd hpc hpt hL1 hR1 hP1 hnl hnr hnp hns hok hnum hpw wl wr wpl wp
  obtain ⟨f0, f1⟩ := fd
  obtain ⟨pa, pb⟩ := pc
  obtain ⟨sw, at0⟩ := pt
  simp only at HDV HNL HNR HNP HNS CT CAp CAd HNM HPW CP HPT
  obtain ⟨cs, hcs⟩ : ∃ t, t = canSwap l r sw := ⟨_, rfl⟩
  obtain ⟨ad, had⟩ : ∃ t, t = adOk L1 R1 ps (v, at0) := ⟨_, rfl⟩
  rw [← hcs] at CAp
  rw [← had] at CAd
  clear hcs had
  have X := hide (Kn.two w #[.slice a1 l.length c1, .slice a2 r.length c2, .slice a3 ps.length c3] #[.slice none 0 0, .slice none 0 0, .slice none 0 0] 27 27)
  obtain ⟨w1, hw1⟩ : ∃ w1, w1 = (w.alloc (.cells #[.slice a1 l.length c1, .slice a2 r.length c2, .slice a3 ps.length c3] 27)).alloc (.cells #[.slice none 0 0, .slice none 0 0, .slice none 0 0] 27) := ⟨_, rfl⟩
  have hz1 := hide (show w1.heap.size = w.heap.size + 1 + 1 by rw [hw1]; simp)
  rw [← hw1] at X
  have d0 : w1.cell? ⟨w.heap.size, 0, none⟩ = some (.slice a1 l.length c1) := X.out.cell 0 0 rfl rfl
  have d1 : w1.cell? ⟨w.heap.size, 1, none⟩ = some (.slice a2 r.length c2) := X.out.cell 0 1 rfl rfl
  have d2 : w1.cell? ⟨w.heap.size, 2, none⟩ = some (.slice a3 ps.length c3) := X.out.cell 0 2 rfl rfl
  rw [hw1] at d0 d1 d2
  go_enter Try.func13, Try.ntmps13
  go_wp2_with fail
  rw [← hw1]
  clear hw1 d0 d1 d2
  go_at_call 19
  refine (CK.out _ X.out.below).mono ?_
  rintro e w2 ⟨rfl, hb⟩
  have X := hide (X.out.up hb)
  have N2 := hide (Nat.le_trans (Nat.le_of_eq hz1.out.symm) hb.size)
  clear hb
  cases t0 with
  | false =>
    have d0 : w2.cell? ⟨w.heap.size, 0, none⟩ = some (.slice a1 l.length c1) := X.out.cell 0 0 rfl rfl
    have d1 : w2.cell? ⟨w.heap.size, 1, none⟩ = some (.slice a2 r.length c2) := X.out.cell 0 1 rfl rfl
    have d2 : w2.cell? ⟨w.heap.size, 2, none⟩ = some (.slice a3 ps.length c3) := X.out.cell 0 2 rfl rfl
    go_wp2_with fail
    go_at_call 17
    refine (CF.out _ X.out.below).mono ?_
    rintro e w3 ⟨rfl, hb⟩
    have X := hide (X.out.up hb)
    have N3 := hide (Nat.le_trans N2.out hb.size)
    clear hb d0 d1 d2
    have d0 : w3.cell? ⟨w.heap.size, 0, none⟩ = some (.slice a1 l.length c1) := X.out.cell 0 0 rfl rfl
    have d1 : w3.cell? ⟨w.heap.size, 1, none⟩ = some (.slice a2 r.length c2) := X.out.cell 0 1 rfl rfl
    have d2 : w3.cell? ⟨w.heap.size, 2, none⟩ = some (.slice a3 ps.length c3) := X.out.cell 0 2 rfl rfl
    cases f1 with
    | false =>
      obtain rfl : nl = l := by simpa [Hid] using HNL
      obtain rfl : nr = r := by simpa [Hid] using HNR
      obtain rfl : np = ps := by simpa [Hid] using HNP
      obtain rfl : ns = [] := by simpa [Hid] using HNS
      obtain rfl : ok = false := by simpa [Hid] using HOK
      go_wp2_with fail
      go_at_call 57
      refine (CC.out _ X.out.below).mono ?_
      rintro e w8 ⟨x', y', z', lo', hi', n1', h1', n2', h2', n4, h4, rfl, q1, q2, O8, hb⟩
      obtain ⟨v1, j1, rfl⟩ := O8.x.form
      obtain ⟨v2, j2, rfl⟩ := O8.y.form
      obtain ⟨v3, j4, rfl⟩ := O8.z.own.form
      have K8 := hide (X.out.up hb)
      have P3 := hide (Nat.le_trans X.out.below.size q1)
      have P5 := hide (Nat.lt_of_lt_of_le (X.out.lt 1 rfl) q1)
      have O8 := hide O8
      clear d0 d1 d2 hb q1 q2 X
      have g0 : w8.cell? ⟨w.heap.size + 1, 0, none⟩ = some (.slice none 0 0) := K8.out.cell 1 0 rfl rfl
      have g1 : w8.cell? ⟨w.heap.size + 1, 1, none⟩ = some (.slice none 0 0) := K8.out.cell 1 1 rfl rfl
      have g2 : w8.cell? ⟨w.heap.size + 1, 2, none⟩ = some (.slice none 0 0) := K8.out.cell 1 2 rfl rfl
      have f0' := K8.out.free 1 0 rfl
      have f1' := K8.out.free 1 1 rfl
      have f2' := K8.out.free 1 2 rfl
      go_wp2_with fail
      have Z := ((K8.out.set 1 0 rfl (.slice v1 nl.length j1)).set 1 1 rfl (.slice v2 nr.length j2)).set 1 2 rfl (.slice v3 np.length j4)
      have z0 := Z.cell 1 0 rfl rfl
      have z1 := Z.cell 1 1 rfl rfl
      have z2 := Z.cell 1 2 rfl rfl
      have O9 := O8.out.seg (seg3 _ (w.heap.size + 1) (.slice v1 nl.length j1) (.slice v2 nr.length j2) (.slice v3 np.length j4)) (.inr P5.out)
      exact bodyPost_ret (v := .tuple #[.agg #[.slice v1 nl.length j1, .slice v2 nr.length j2, .slice v3 np.length j4], .slice none 0 0, .bool false]) (by simp [results, Try.results13, go_sem, z0, z1, z2]) rfl
        ⟨_, _, _, _, lo', hi', n1', h1', n2', h2', n4, h4, _, _, rfl, ⟨P3.out, Z.below.size⟩, ⟨O9.top.2, Nat.le_refl _⟩, O9, Osw.nil (Nat.le_refl _), .inl O9.top.2, Z.below⟩
    | true =>
      obtain rfl : nl = l := by simpa [Hid] using HNL
      obtain rfl : nr = r := by simpa [Hid] using HNR
      obtain rfl : np = ps := by simpa [Hid] using HNP
      obtain rfl : ns = [] := by simpa [Hid] using HNS
      obtain rfl : ok = false := by simpa [Hid] using HOK
      go_wp2_with fail
      go_at_call 57
      refine (CC.out _ X.out.below).mono ?_
      rintro e w8 ⟨x', y', z', lo', hi', n1', h1', n2', h2', n4, h4, rfl, q1, q2, O8, hb⟩
      obtain ⟨v1, j1, rfl⟩ := O8.x.form
      obtain ⟨v2, j2, rfl⟩ := O8.y.form
      obtain ⟨v3, j4, rfl⟩ := O8.z.own.form
      have K8 := hide (X.out.up hb)
      have P3 := hide (Nat.le_trans X.out.below.size q1)
      have P5 := hide (Nat.lt_of_lt_of_le (X.out.lt 1 rfl) q1)
      have O8 := hide O8
      clear d0 d1 d2 hb q1 q2 X
      have g0 : w8.cell? ⟨w.heap.size + 1, 0, none⟩ = some (.slice none 0 0) := K8.out.cell 1 0 rfl rfl
      have g1 : w8.cell? ⟨w.heap.size + 1, 1, none⟩ = some (.slice none 0 0) := K8.out.cell 1 1 rfl rfl
      have g2 : w8.cell? ⟨w.heap.size + 1, 2, none⟩ = some (.slice none 0 0) := K8.out.cell 1 2 rfl rfl
      have f0' := K8.out.free 1 0 rfl
      have f1' := K8.out.free 1 1 rfl
      have f2' := K8.out.free 1 2 rfl
      go_wp2_with fail
      have Z := ((K8.out.set 1 0 rfl (.slice v1 nl.length j1)).set 1 1 rfl (.slice v2 nr.length j2)).set 1 2 rfl (.slice v3 np.length j4)
      have z0 := Z.cell 1 0 rfl rfl
      have z1 := Z.cell 1 1 rfl rfl
      have z2 := Z.cell 1 2 rfl rfl
      have O9 := O8.out.seg (seg3 _ (w.heap.size + 1) (.slice v1 nl.length j1) (.slice v2 nr.length j2) (.slice v3 np.length j4)) (.inr P5.out)
      exact bodyPost_ret (v := .tuple #[.agg #[.slice v1 nl.length j1, .slice v2 nr.length j2, .slice v3 np.length j4], .slice none 0 0, .bool false]) (by simp [results, Try.results13, go_sem, z0, z1, z2]) rfl
        ⟨_, _, _, _, lo', hi', n1', h1', n2', h2', n4, h4, _, _, rfl, ⟨P3.out, Z.below.size⟩, ⟨O9.top.2, Nat.le_refl _⟩, O9, Osw.nil (Nat.le_refl _), .inl O9.top.2, Z.below⟩
  | true =>
    cases bd with
    | false =>
      have d0 : w2.cell? ⟨w.heap.size, 0, none⟩ = some (.slice a1 l.length c1) := X.out.cell 0 0 rfl rfl
      have d1 : w2.cell? ⟨w.heap.size, 1, none⟩ = some (.slice a2 r.length c2) := X.out.cell 0 1 rfl rfl
      have d2 : w2.cell? ⟨w.heap.size, 2, none⟩ = some (.slice a3 ps.length c3) := X.out.cell 0 2 rfl rfl
      have hvb := of_decide_eq_false HBD.out.symm
      have CB := hide (fun (W : World) => bound_no v W (by omega))
      clear hvb
      go_wp2_with fail
      go_at_call 56
      refine (CB.out _).mono ?_
      rintro e wq ⟨rfl, rfl⟩
      go_wp2_with fail
      go_at_call 17
      refine (CF.out _ X.out.below).mono ?_
      rintro e w3 ⟨rfl, hb⟩
      have X := hide (X.out.up hb)
      have N3 := hide (Nat.le_trans N2.out hb.size)
      clear hb d0 d1 d2
      have d0 : w3.cell? ⟨w.heap.size, 0, none⟩ = some (.slice a1 l.length c1) := X.out.cell 0 0 rfl rfl
      have d1 : w3.cell? ⟨w.heap.size, 1, none⟩ = some (.slice a2 r.length c2) := X.out.cell 0 1 rfl rfl
      have d2 : w3.cell? ⟨w.heap.size, 2, none⟩ = some (.slice a3 ps.length c3) := X.out.cell 0 2 rfl rfl
      cases f1 with
      | false =>
        obtain rfl : nl = l := by simpa [Hid] using HNL
        obtain rfl : nr = r := by simpa [Hid] using HNR
        obtain rfl : np = ps := by simpa [Hid] using HNP
        obtain rfl : ns = [] := by simpa [Hid] using HNS
        obtain rfl : ok = false := by simpa [Hid] using HOK
        go_wp2_with fail
        go_at_call 57
        refine (CC.out _ X.out.below).mono ?_
        rintro e w8 ⟨x', y', z', lo', hi', n1', h1', n2', h2', n4, h4, rfl, q1, q2, O8, hb⟩
        obtain ⟨v1, j1, rfl⟩ := O8.x.form
        obtain ⟨v2, j2, rfl⟩ := O8.y.form
        obtain ⟨v3, j4, rfl⟩ := O8.z.own.form
        have K8 := hide (X.out.up hb)
        have P3 := hide (Nat.le_trans X.out.below.size q1)
        have P5 := hide (Nat.lt_of_lt_of_le (X.out.lt 1 rfl) q1)
        have O8 := hide O8
        clear d0 d1 d2 hb q1 q2 X
        have g0 : w8.cell? ⟨w.heap.size + 1, 0, none⟩ = some (.slice none 0 0) := K8.out.cell 1 0 rfl rfl
        have g1 : w8.cell? ⟨w.heap.size + 1, 1, none⟩ = some (.slice none 0 0) := K8.out.cell 1 1 rfl rfl
        have g2 : w8.cell? ⟨w.heap.size + 1, 2, none⟩ = some (.slice none 0 0) := K8.out.cell 1 2 rfl rfl
        have f0' := K8.out.free 1 0 rfl
        have f1' := K8.out.free 1 1 rfl
        have f2' := K8.out.free 1 2 rfl
        go_wp2_with fail
        have Z := ((K8.out.set 1 0 rfl (.slice v1 nl.length j1)).set 1 1 rfl (.slice v2 nr.length j2)).set 1 2 rfl (.slice v3 np.length j4)
        have z0 := Z.cell 1 0 rfl rfl
        have z1 := Z.cell 1 1 rfl rfl
        have z2 := Z.cell 1 2 rfl rfl
        have O9 := O8.out.seg (seg3 _ (w.heap.size + 1) (.slice v1 nl.length j1) (.slice v2 nr.length j2) (.slice v3 np.length j4)) (.inr P5.out)
        exact bodyPost_ret (v := .tuple #[.agg #[.slice v1 nl.length j1, .slice v2 nr.length j2, .slice v3 np.length j4], .slice none 0 0, .bool false]) (by simp [results, Try.results13, go_sem, z0, z1, z2]) rfl
          ⟨_, _, _, _, lo', hi', n1', h1', n2', h2', n4, h4, _, _, rfl, ⟨P3.out, Z.below.size⟩, ⟨O9.top.2, Nat.le_refl _⟩, O9, Osw.nil (Nat.le_refl _), .inl O9.top.2, Z.below⟩
      | true =>
        obtain rfl : nl = l := by simpa [Hid] using HNL
        obtain rfl : nr = r := by simpa [Hid] using HNR
        obtain rfl : np = ps := by simpa [Hid] using HNP
        obtain rfl : ns = [] := by simpa [Hid] using HNS
        obtain rfl : ok = false := by simpa [Hid] using HOK
        go_wp2_with fail
        go_at_call 57
        refine (CC.out _ X.out.below).mono ?_
        rintro e w8 ⟨x', y', z', lo', hi', n1', h1', n2', h2', n4, h4, rfl, q1, q2, O8, hb⟩
        obtain ⟨v1, j1, rfl⟩ := O8.x.form
        obtain ⟨v2, j2, rfl⟩ := O8.y.form
        obtain ⟨v3, j4, rfl⟩ := O8.z.own.form
        have K8 := hide (X.out.up hb)
        have P3 := hide (Nat.le_trans X.out.below.size q1)
        have P5 := hide (Nat.lt_of_lt_of_le (X.out.lt 1 rfl) q1)
        have O8 := hide O8
        clear d0 d1 d2 hb q1 q2 X
        have g0 : w8.cell? ⟨w.heap.size + 1, 0, none⟩ = some (.slice none 0 0) := K8.out.cell 1 0 rfl rfl
        have g1 : w8.cell? ⟨w.heap.size + 1, 1, none⟩ = some (.slice none 0 0) := K8.out.cell 1 1 rfl rfl
        have g2 : w8.cell? ⟨w.heap.size + 1, 2, none⟩ = some (.slice none 0 0) := K8.out.cell 1 2 rfl rfl
        have f0' := K8.out.free 1 0 rfl
        have f1' := K8.out.free 1 1 rfl
        have f2' := K8.out.free 1 2 rfl
        go_wp2_with fail
        have Z := ((K8.out.set 1 0 rfl (.slice v1 nl.length j1)).set 1 1 rfl (.slice v2 nr.length j2)).set 1 2 rfl (.slice v3 np.length j4)
        have z0 := Z.cell 1 0 rfl rfl
        have z1 := Z.cell 1 1 rfl rfl
        have z2 := Z.cell 1 2 rfl rfl
        have O9 := O8.out.seg (seg3 _ (w.heap.size + 1) (.slice v1 nl.length j1) (.slice v2 nr.length j2) (.slice v3 np.length j4)) (.inr P5.out)
        exact bodyPost_ret (v := .tuple #[.agg #[.slice v1 nl.length j1, .slice v2 nr.length j2, .slice v3 np.length j4], .slice none 0 0, .bool false]) (by simp [results, Try.results13, go_sem, z0, z1, z2]) rfl
          ⟨_, _, _, _, lo', hi', n1', h1', n2', h2', n4, h4, _, _, rfl, ⟨P3.out, Z.below.size⟩, ⟨O9.top.2, Nat.le_refl _⟩, O9, Osw.nil (Nat.le_refl _), .inl O9.top.2, Z.below⟩
    | true =>
      have d0 : w2.cell? ⟨w.heap.size, 0, none⟩ = some (.slice a1 l.length c1) := X.out.cell 0 0 rfl rfl
      have d1 : w2.cell? ⟨w.heap.size, 1, none⟩ = some (.slice a2 r.length c2) := X.out.cell 0 1 rfl rfl
      have d2 : w2.cell? ⟨w.heap.size, 2, none⟩ = some (.slice a3 ps.length c3) := X.out.cell 0 2 rfl rfl
      have hvb := of_decide_eq_true HBD.out.symm
      have CB := hide (fun (W : World) => bound_yes v W hvb.1 hvb.2)
      clear hvb
      go_wp2_with fail
      go_at_call 56
      refine (CB.out _).mono ?_
      rintro e wq ⟨rfl, rfl⟩
      go_wp2_with fail
      go_at_call 17
      refine (CF.out _ X.out.below).mono ?_
      rintro e w3 ⟨rfl, hb⟩
      have X := hide (X.out.up hb)
      have N3 := hide (Nat.le_trans N2.out hb.size)
      clear hb d0 d1 d2
      have d0 : w3.cell? ⟨w.heap.size, 0, none⟩ = some (.slice a1 l.length c1) := X.out.cell 0 0 rfl rfl
      have d1 : w3.cell? ⟨w.heap.size, 1, none⟩ = some (.slice a2 r.length c2) := X.out.cell 0 1 rfl rfl
      have d2 : w3.cell? ⟨w.heap.size, 2, none⟩ = some (.slice a3 ps.length c3) := X.out.cell 0 2 rfl rfl
      cases f1 with
      | true =>
        obtain rfl : nl = l := by simpa [Hid] using HNL
        obtain rfl : nr = r := by simpa [Hid] using HNR
        obtain rfl : np = ps := by simpa [Hid] using HNP
        obtain rfl : ns = [] := by simpa [Hid] using HNS
        obtain rfl : ok = true := by simpa [Hid] using HOK
        go_wp2_with fail
        go_at_call 57
        refine (CC.out _ X.out.below).mono ?_
        rintro e w8 ⟨x', y', z', lo', hi', n1', h1', n2', h2', n4, h4, rfl, q1, q2, O8, hb⟩
        obtain ⟨v1, j1, rfl⟩ := O8.x.form
        obtain ⟨v2, j2, rfl⟩ := O8.y.form
        obtain ⟨v3, j4, rfl⟩ := O8.z.own.form
        have K8 := hide (X.out.up hb)
        have P3 := hide (Nat.le_trans X.out.below.size q1)
        have P5 := hide (Nat.lt_of_lt_of_le (X.out.lt 1 rfl) q1)
        have O8 := hide O8
        clear d0 d1 d2 hb q1 q2 X
        have g0 : w8.cell? ⟨w.heap.size + 1, 0, none⟩ = some (.slice none 0 0) := K8.out.cell 1 0 rfl rfl
        have g1 : w8.cell? ⟨w.heap.size + 1, 1, none⟩ = some (.slice none 0 0) := K8.out.cell 1 1 rfl rfl
        have g2 : w8.cell? ⟨w.heap.size + 1, 2, none⟩ = some (.slice none 0 0) := K8.out.cell 1 2 rfl rfl
        have f0' := K8.out.free 1 0 rfl
        have f1' := K8.out.free 1 1 rfl
        have f2' := K8.out.free 1 2 rfl
        go_wp2_with fail
        have Z := ((K8.out.set 1 0 rfl (.slice v1 nl.length j1)).set 1 1 rfl (.slice v2 nr.length j2)).set 1 2 rfl (.slice v3 np.length j4)
        have z0 := Z.cell 1 0 rfl rfl
        have z1 := Z.cell 1 1 rfl rfl
        have z2 := Z.cell 1 2 rfl rfl
        have O9 := O8.out.seg (seg3 _ (w.heap.size + 1) (.slice v1 nl.length j1) (.slice v2 nr.length j2) (.slice v3 np.length j4)) (.inr P5.out)
        exact bodyPost_ret (v := .tuple #[.agg #[.slice v1 nl.length j1, .slice v2 nr.length j2, .slice v3 np.length j4], .slice none 0 0, .bool true]) (by simp [results, Try.results13, go_sem, z0, z1, z2]) rfl
          ⟨_, _, _, _, lo', hi', n1', h1', n2', h2', n4, h4, _, _, rfl, ⟨P3.out, Z.below.size⟩, ⟨O9.top.2, Nat.le_refl _⟩, O9, Osw.nil (Nat.le_refl _), .inl O9.top.2, Z.below⟩
      | false =>
        obtain rfl : nl = L1 := by simpa [Hid] using HNL
        obtain rfl : nr = R1 := by simpa [Hid] using HNR
        obtain rfl : np = P1 := by simpa [Hid] using HNP
        obtain rfl : ns = sw := by simpa [Hid] using HNS
        obtain rfl : ok = true := by simpa [Hid] using HOK
        go_wp2_with fail
        go_at_call 16
        refine (CP.out _ X.out.below).mono ?_
        rintro e w4 ⟨rfl, hb⟩
        have X := hide (X.out.up hb)
        have N4 := hide (Nat.le_trans N3.out hb.size)
        clear hb d0 d1 d2
        have d0 : w4.cell? ⟨w.heap.size, 0, none⟩ = some (.slice a1 l.length c1) := X.out.cell 0 0 rfl rfl
        have d1 : w4.cell? ⟨w.heap.size, 1, none⟩ = some (.slice a2 r.length c2) := X.out.cell 0 1 rfl rfl
        have d2 : w4.cell? ⟨w.heap.size, 2, none⟩ = some (.slice a3 ps.length c3) := X.out.cell 0 2 rfl rfl
        go_wp2_with fail
        go_at_call 58
        refine (CT.out _ X.out.below).mono ?_
        rintro e w5 ⟨sv, rfl, OS, hb⟩
        obtain ⟨sg, sk, rfl⟩ := OS.form
        have X := hide (X.out.up hb)
        have OS := hide (Osw.of OS hb.size)
        have N5 := hide hb.size
        clear hb d0 d1 d2
        have d0 : w5.cell? ⟨w.heap.size, 0, none⟩ = some (.slice a1 l.length c1) := X.out.cell 0 0 rfl rfl
        have d1 : w5.cell? ⟨w.heap.size, 1, none⟩ = some (.slice a2 r.length c2) := X.out.cell 0 1 rfl rfl
        have d2 : w5.cell? ⟨w.heap.size, 2, none⟩ = some (.slice a3 ps.length c3) := X.out.cell 0 2 rfl rfl
        go_wp2_with fail
        go_at_call 59
        refine (CAp.out _ _ X.out.below (OS.out.own.pvs (Nat.le_refl _) (by have := HNM.out.2.1; omega) HPW.out)).mono ?_
        rintro e w6 ⟨x, y, z, lo, hi, n1, h1, n2, h2, n3, h3, rfl, q1, q2, O, hb⟩
        obtain ⟨x1, k1, rfl⟩ := O.x.form
        obtain ⟨x2, k2, rfl⟩ := O.y.form
        obtain ⟨x3, k3, rfl⟩ := O.z.own.form
        have X := hide (X.out.up hb)
        have OS := hide (OS.out.below hb)
        have HC := hide (O.ck HL1.out.2 HR1.out.2 (by omega) HWP.out)
        clear d0 d1 d2 O q1 q2
        have hs6 := hide hb.size
        clear hb
        have bl := below1 w6 (.cells #[.slice x1 nl.length k1, .slice x2 nr.length k2, .slice x3 ps.length k3] 27)
        have X := hide (X.out.alloc #[.slice x1 nl.length k1, .slice x2 nr.length k2, .slice x3 ps.length k3] 27)
        have OS := hide (OS.out.below bl)
        have HC := hide (HC.out.up bl)
        clear bl
        obtain ⟨m, hm⟩ : ∃ m, m = w6.heap.size := ⟨_, rfl⟩
        obtain ⟨w7, hw7⟩ : ∃ q, q = w6.alloc (.cells #[.slice x1 nl.length k1, .slice x2 nr.length k2, .slice x3 ps.length k3] 27) := ⟨_, rfl⟩
        have hs7 := hide (show w7.heap.size = m + 1 by rw [hw7, hm]; simp)
        rw [← hw7] at X OS HC
        rw [← hm] at X
        have hs6 := hide (show w5.heap.size ≤ m by rw [hm]; exact hs6.out)
        simp only [List.cons_append, List.nil_append] at X
        go_wp2_with fail
        rw [← hw7]
        try rw [← hm]
        clear hw7 hm
        go_at_call 60
        refine (CAd.out _ _ HC.out).mono ?_
        rintro e w8 ⟨x', y', z', lo, hi, n1, h1, n2, h2, n3, h3, rfl, q1, q2, O, hb⟩
        obtain ⟨v1, j1, rfl⟩ := O.x.form
        obtain ⟨v2, j2, rfl⟩ := O.y.form
        obtain ⟨v3, j3, rfl⟩ := O.z.own.form
        have K8 := hide (X.out.up hb)
        have OS := hide (OS.out.below hb)
        have Q1 := hide (show m + 1 ≤ lo by rw [← hs7.out]; exact q1)
        have O := hide O
        clear hb q1 q2 X HC
        have g0 : w8.cell? ⟨w.heap.size + 1, 0, none⟩ = some (.slice none 0 0) := K8.out.cell 1 0 rfl rfl
        have g1 : w8.cell? ⟨w.heap.size + 1, 1, none⟩ = some (.slice none 0 0) := K8.out.cell 1 1 rfl rfl
        have g2 : w8.cell? ⟨w.heap.size + 1, 2, none⟩ = some (.slice none 0 0) := K8.out.cell 1 2 rfl rfl
        have f0' := K8.out.free 1 0 rfl
        have f1' := K8.out.free 1 1 rfl
        have f2' := K8.out.free 1 2 rfl
        have b0 : w8.cell? ⟨m, 0, none⟩ = some (.slice x1 nl.length k1) := K8.out.cell 2 0 rfl rfl
        have b1 : w8.cell? ⟨m, 1, none⟩ = some (.slice x2 nr.length k2) := K8.out.cell 2 1 rfl rfl
        have b2 : w8.cell? ⟨m, 2, none⟩ = some (.slice x3 ps.length k3) := K8.out.cell 2 2 rfl rfl
        have e0 := K8.out.free 2 0 rfl
        have e1 := K8.out.free 2 1 rfl
        have e2 := K8.out.free 2 2 rfl
        have Z0 := ((K8.out.set 2 0 rfl (.slice v1 nl.length j1)).set 2 1 rfl (.slice v2 nr.length j2)).set 2 2 rfl (.slice v3 np.length j3)
        have Z := ((Z0.set 1 0 rfl (.slice v1 nl.length j1)).set 1 1 rfl (.slice v2 nr.length j2)).set 1 2 rfl (.slice v3 np.length j3)
        have z0 := Z.cell 1 0 rfl rfl
        have z1 := Z.cell 1 1 rfl rfl
        have z2 := Z.cell 1 2 rfl rfl
        have HZ := hide Z
        have hne1 : ¬ (m = w.heap.size + 1) := by have := N4.out; have := N5.out; have := hs6.out; omega
        have hne2 : ¬ (w.heap.size + 1 = m) := by omega
        have Q0 := hide (show w.heap.size + 1 + 1 ≤ lo by have := N4.out; have := N5.out; have := hs6.out; have := Q1.out; omega)
        have Q2 := hide (show w.heap.size + 1 + 1 ≤ w4.heap.size from N4.out)
        have hs56 := hide (show w5.heap.size ≤ m from hs6.out)
        clear Z Z0
        go_wp2_with fail
        have O1 := hide (O.out.seg (seg3 _ m (.slice v1 nl.length j1) (.slice v2 nr.length j2) (.slice v3 np.length j3)) (.inr (by have := Q1.out; omega)))
        have O2 := hide (O1.out.seg (seg3 _ (w.heap.size + 1) (.slice v1 nl.length j1) (.slice v2 nr.length j2) (.slice v3 np.length j3)) (.inr Q0.out))
        have T1 := hide (OS.out.seg (seg3 _ m (.slice v1 nl.length j1) (.slice v2 nr.length j2) (.slice v3 np.length j3)) (.inl hs56.out))
        have T2 := hide (T1.out.seg (seg3 _ (w.heap.size + 1) (.slice v1 nl.length j1) (.slice v2 nr.length j2) (.slice v3 np.length j3)) (.inr Q2.out))
        exact bodyPost_ret (v := .tuple #[.agg #[.slice v1 nl.length j1, .slice v2 nr.length j2, .slice v3 np.length j3], .slice sg ns.length sk, .bool true]) (by simp [results, Try.results13, go_sem, z0, z1, z2]) rfl
          ⟨_, _, _, _, lo, hi, n1, h1, n2, h2, n3, h3, _, _, rfl, ⟨by have := Q0.out; omega, by have := Q2.out; omega⟩, ⟨O2.out.top.2, T2.out.top⟩, O2.out, T2.out, .inr (by have := Q1.out; have := hs56.out; omega), HZ.out.below⟩

end Go.Proofs.Ytkhhlifnbelckaa
