/- slices.Insert of one pivot into pivots of the call's own, where there is room (promise 3). -/
import Derived.Test.YtepkkeclkdlheaaCpy2
import Derived.Test.YtepkkeclkdlheaaCkO
import Derived.Test.YtepkkeclkdlheaaCpy
import Derived.Deep.RegionLaw
namespace Go.Proofs.Ytepkkeclkdlheaa
open Go.RowKit Go.ChangeShapes
set_option linter.unusedSimpArgs false
set_option linter.unusedVariables false
set_option maxRecDepth 100000

/-- The pivots with p at place i. -/
def insAt (ps : List Pv) (i : Nat) (p : Pv) : List Pv := ps.take i ++ p :: ps.drop i

theorem insAt_length (ps : List Pv) (i : Nat) (p : Pv) : (insAt ps i p).length = ps.length + 1 := by simp [insAt]; omega

theorem pvVs_take (ps : List Pv) : ∀ i, pvVs (ps.take i) = (pvVs ps).take (i * 2) := by
  induction ps with
  | nil => intro i; simp [pvVs]
  | cons p ps ih =>
    intro i
    cases i with
    | zero => simp [pvVs]
    | succ i => rw [show (i + 1) * 2 = i * 2 + 1 + 1 by omega]; simp [pvVs, ih i]

theorem insAt_vs (ps : List Pv) (i : Nat) (x y : Int) : pvVs (insAt ps i (x, y)) = pvVs (ps.take i) ++ ([.int .i64 x, .int .i64 y] ++ pvVs (ps.drop i)) := by
  unfold insAt
  rw [pvVs_append]
  simp [pvVs]

/-- A row of pivots is returned: in the stretch that it lay in, or in a new block; only that stretch has turned. -/
def RetIns (w : World) (ps : List Pv) (lo hi : Nat) (e : Ending) (w' : World) : Prop := ∃ v, e = .returned v ∧ (Owp w' v ps lo hi ∨ Owp w' v ps w.heap.size w'.heap.size) ∧ Seg lo hi w w'

set_option maxHeartbeats 4000000 in
theorem ins_room (g c i vb vc : Nat) (x y : Int) (ps : List Pv) (lo hi : Nat) (w : World) (h : Owp w (.slice (some ⟨g, 0, none⟩) ps.length c) ps lo hi) (hi' : i < ps.length) (hc : ps.length + 1 ≤ c) (hv : w.heap[vb]? = some (.cells #[.int .i64 x, .int .i64 y] 147 (0, 0))) (hvb : hi ≤ vb) (hl : ps.length ≤ 1048576) :
    Calls Try.prog 184 #[.slice (some ⟨g, 0, none⟩) ps.length c, .int .i64 i, .slice (some ⟨vb, 0, none⟩) 1 vc] w (RetIns w (insAt ps i (x, y)) lo hi) := by
  have hg := h.lt g rfl
  rcases h.own.2 with ⟨hv0, hn⟩ | ⟨g', cap, cur, hv0, hlo, hgr, hnc, hcm, hcs, htk⟩
  · cases hv0
  simp only [Value.slice.injEq, Option.some.injEq, Addr.mk.injEq, and_true, true_and] at hv0
  obtain ⟨rfl, rfl⟩ := hv0
  have hne : vb ≠ g := by omega
  obtain ⟨i0, hi0, hi1, hi2, hi3⟩ := info_parts infoP
  have hsz2 : (Try.prog.info? 147).map (·.size) = some 2 := by rw [hi0]; simp [hi2]
  have hso : ∀ w, (Go.sizeOf 147).run Try.prog w = .ok 2 w := fun w => by simp [Go.sizeOf, typeInfo, hi0, hi2]
  have hov : ∀ lb cb, (callFunc 196 #[.slice (some ⟨vb, 0, none⟩) 1 vc, .slice (some ⟨g, (i + 1) * 2, none⟩) lb cb]).run Try.prog w = .ok (.value (.bool false)) w := fun lb cb => by
    rw [run_callFunc_extern Try.func196 (by kernel_rfl) (by kernel_rfl) (by kernel_rfl) (e := Extern.SlicesOverlaps.overlaps #[23, 23] #[4]) (by kernel_rfl),
      Lib.run_overlaps_apart w 23 4 147 Try.underlying23 2 hso ⟨vb, 0, none⟩ ⟨g, (i + 1) * 2, none⟩ 1 vc lb cb hne 147 147 2 cur.size (by simp [World.shape?, hv]) (by simp [World.shape?, hgr]) (by omega) (frozen_of_row w vb 0 _ _ hv) (frozen_of_row w vb 2 _ _ hv)]
    rfl
  have hvs0 := pvVs_length ps
  clear hi0 hi1 hi2 hi3
  have b1 : (0 : Int) ≤ (i : Int) := by omega
  have b2 : (i : Int) ≤ (ps.length : Int) := by omega
  have b3 : ¬ ((i : Int) = (ps.length : Int)) := by omega
  have b4 : decide ((ps.length : Int) + 1 > (c : Int)) = false := by simp; omega
  have b5 : ¬ (c = i) := by omega
  have b6 : ¬ (c = i + 1) := by omega
  have b7 : (i : Int) + 1 ≤ (ps.length : Int) + 1 := by omega
  go_enter Try.func184, Try.ntmps184
  have hw1 : IntKind.i64.wrap ((i : Int) + 1) = (i : Int) + 1 := by rw [IntKind.wrap_i64]; omega
  have hb1 : (0 : Int) ≤ (i : Int) + 1 := by omega
  have htn : ((i : Int) + 1).toNat = i + 1 := by omega
  have b9 : (i : Int) ≤ (ps.length : Int) + 1 := by omega
  have b8 : ((i : Int) == (ps.length : Int)) = false := by simp; omega
  have hD : (pvVs (ps.drop i)).length = (ps.length - i) * 2 := by rw [pvVs_length, List.length_drop]
  have hgr' : w.drew.heap[g]? = some (.cells cur.toList.toArray 147 (0, 0)) := by rw [Array.toArray_toList]; exact hgr
  have hcl : cur.toList.length = c * 2 := by simpa using hcs
  have hsrc : ∀ j v, (pvVs (ps.drop i))[j]? = some v → w.drew.cell? ((⟨g, i * 2, none⟩ : Addr).add j) = some v := by
    intro j u hj
    have hjl := (List.getElem?_eq_some_iff.1 hj).1
    rw [addr_add, cell_of_row w.drew g (i * 2 + j) cur 147 (0, 0) hgr]
    have e : pvVs (ps.drop i) = (pvVs ps).drop (i * 2) := by
      have := congrArg pvVs (List.take_append_drop i ps)
      rw [pvVs_append, pvVs_take] at this
      have h2 := List.take_append_drop (i * 2) (pvVs ps)
      exact List.append_cancel_left (this.trans h2.symm)
    rw [e, List.getElem?_drop, ← htk, List.getElem?_take, if_pos (by omega)] at hj
    simpa using hj
  have hfit : (i + 1) * 2 + (pvVs (ps.drop i)).length ≤ cur.toList.length := by omega
  have HSP := hide (splice_in cur.toList (pvVs (ps.drop i)) (.int .i64 x) (.int .i64 y) i ps.length hD (by omega) (by omega))
  have HTK := hide (show cur.toList.take (i * 2) = pvVs (ps.take i) by rw [pvVs_take, ← htk, List.take_take, Nat.min_eq_left (by omega)])
  have HLEN := hide hcl
  have HDL := hide hD
  have HH := hide h
  have HVV := hide hv
  have HFIT := hide hfit
  have HSRC := hide hsrc
  have HGR := hide hgr'
  have HSZ := hide hsz2
  clear hD hcl hfit hsrc hgr' hgr hcs htk h hv hsz2 hso hvs0
  go_wp2_with (simp only [hov])
  go_region_law (refine step_copyN rfl _ _ 23 23 rfl 147 2 Try.underlying23 HSZ.out g ((i + 1) * 2) (ps.length + 1 - (i + 1)) (c - (i + 1)) ⟨g, i * 2, none⟩ (ps.length + 1 - i) (c - i) (by simp [Act.eval, Act.put]) (by simp [Act.eval, Act.put]) cur.toList 147 HGR.out (pvVs (ps.drop i)) (by rw [HDL.out]; simp only [Nat.min_def]; split <;> omega) HSRC.out HFIT.out (pvVs_cell _) ?_; intro w2 hg2 hb2 ho2)
  have HFIT2 := hide (show i * 2 + [Value.int .i64 x, .int .i64 y].length ≤ (splice cur.toList ((i + 1) * 2) (pvVs (ps.drop i))).length by rw [length_splice _ _ _ HFIT.out, HLEN.out]; simp; omega)
  have HSRC2 := hide (show ∀ j v, [Value.int .i64 x, .int .i64 y][j]? = some v → w2.cell? ((⟨vb, 0, none⟩ : Addr).add j) = some v by
    intro j u hj
    have hh : w2.heap[vb]? = some (.cells #[.int .i64 x, .int .i64 y] 147 (0, 0)) := (ho2 vb hne).trans HVV.out
    rw [addr_add, cell_of_row w2 vb (0 + j) _ _ (0, 0) hh, Nat.zero_add]
    simpa using hj)
  have HN2 := hide (show [Value.int .i64 x, .int .i64 y].length = Nat.min 1 (ps.length + 1 - i) * 2 by rw [show Nat.min 1 (ps.length + 1 - i) = 1 by simp only [Nat.min_def]; split <;> omega]; rfl)
  have HC2 := hide (show ∀ v ∈ [Value.int .i64 x, .int .i64 y], v.oneCell' = true by intro u hu; simp at hu; rcases hu with rfl | rfl <;> rfl)
  have HO2 := hide ho2
  have HB2 := hide hb2
  clear ho2 hb2
  obtain ⟨w3, hrun2, hg3, hb3, ho3⟩ := run_copyN (P := Try.prog) w2 23 23 3 147 2 g (i * 2) (ps.length + 1 - i) (c - i) ⟨vb, 0, none⟩ 1 vc (splice cur.toList ((i + 1) * 2) (pvVs (ps.drop i))) 147 [.int .i64 x, .int .i64 y] Try.underlying23 HSZ.out hg2.out HN2.out HSRC2.out HFIT2.out HC2.out
  have hg3 := hide hg3
  have hb3 := hide hb3
  have ho3 := hide ho3
  go_wp2_with (simp only [hrun2])
  go_ret
  have hsg : Seg lo hi w w3 := ⟨((⟨HB2.out.os, HB2.out.tape, HB2.out.output, HB2.out.size, HB2.out.block⟩ : Below g w w2).trans hb3.out).mono hlo, fun b hb hlt => (ho3.out b (by omega)).trans (HO2.out b (by omega))⟩
  refine ⟨_, rfl, .inl ⟨⟨pvVs_length _, .inr ⟨g, c, (splice (splice cur.toList ((i + 1) * 2) (pvVs (ps.drop i))) (i * 2) [.int .i64 x, .int .i64 y]).toArray, by rw [insAt_length]; rfl, hlo, hg3.out, by rw [insAt_length]; omega, hcm, ?_, ?_⟩⟩, fun g' h' => by cases h'; exact hg, HH.out.le, Nat.le_trans HH.out.top hsg.below.size⟩, hsg⟩
  · rw [List.size_toArray, length_splice _ _ _ HFIT2.out, length_splice _ _ _ HFIT.out, HLEN.out]
  · rw [insAt_length, HSP.out, HTK.out, insAt_vs]

end Go.Proofs.Ytepkkeclkdlheaa
