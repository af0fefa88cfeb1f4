/- slices.Reverse of swaps of the call's own (promise 3). -/
import Derived.Test.YtobdghabehbcjaaSw
import Derived.BigRegion
namespace Go.Proofs.Ytobdghabehbcjaa
open Go.RowKit Go.ChangeShapes
set_option linter.unusedSimpArgs false
set_option linter.unusedVariables false
set_option maxRecDepth 100000

/-- The first k and the last k have changed places. -/
def RevAt (sw m : List Pv) (k : Nat) : Prop := m.length = sw.length ∧ ∀ t, t < sw.length → m.getD t (0, 0) = if t < k ∨ sw.length - k ≤ t then sw.getD (sw.length - 1 - t) (0, 0) else sw.getD t (0, 0)

theorem RevAt.start (sw : List Pv) : RevAt sw sw 0 := ⟨rfl, fun t ht => by rw [if_neg (by omega)]⟩

theorem RevAt.step {sw m : List Pv} {k j : Nat} (h : RevAt sw m k) (hj : j + 1 + k = sw.length) (hk : k < j) : RevAt sw ((m.set k (m.getD j (0, 0))).set j (m.getD k (0, 0))) (k + 1) := by
  obtain ⟨hl, h⟩ := h
  refine ⟨by simp [hl], fun t ht => ?_⟩
  have hjm : j < m.length := by omega
  have hkm : k < m.length := by omega
  by_cases h1 : t = j
  · subst h1
    rw [if_pos (by omega)]
    have : ((m.set k (m.getD t (0, 0))).set t (m.getD k (0, 0))).getD t (0, 0) = m.getD k (0, 0) := by simp [List.getD, hjm]
    rw [this, h k (by omega), if_neg (by omega), show sw.length - 1 - t = k by omega]
  · by_cases h2 : t = k
    · subst h2
      rw [if_pos (by omega)]
      have : ((m.set t (m.getD j (0, 0))).set j (m.getD t (0, 0))).getD t (0, 0) = m.getD j (0, 0) := by
        rw [List.getD_eq_getElem?_getD, List.getElem?_set_ne (by omega), List.getElem?_set_self hkm]
        rfl
      rw [this, h j (by omega), if_neg (by omega), show sw.length - 1 - t = j by omega]
    · have : ((m.set k (m.getD j (0, 0))).set j (m.getD k (0, 0))).getD t (0, 0) = m.getD t (0, 0) := by
        rw [List.getD_eq_getElem?_getD, List.getElem?_set_ne (by omega), List.getElem?_set_ne (by omega), List.getD_eq_getElem?_getD]
      rw [this, h t ht]
      by_cases h3 : t < k ∨ sw.length - k ≤ t
      · rw [if_pos h3, if_pos (by omega)]
      · rw [if_neg h3, if_neg (by omega)]

theorem RevAt.done {sw m : List Pv} {k : Nat} (h : RevAt sw m k) (hk : sw.length ≤ 2 * k + 1) : m = sw.reverse := by
  obtain ⟨hl, h⟩ := h
  apply List.ext_getElem (by simp [hl])
  intro t h1 h2
  have h3 := h t (by omega)
  rw [List.getD_eq_getElem?_getD, List.getElem?_eq_getElem h1] at h3
  rw [List.getElem_reverse]
  by_cases h4 : t < k ∨ sw.length - k ≤ t
  · rw [if_pos h4, List.getD_eq_getElem?_getD, List.getElem?_eq_getElem (by omega)] at h3
    simpa using h3
  · rw [if_neg h4, List.getD_eq_getElem?_getD, List.getElem?_eq_getElem (by omega)] at h3
    have e : sw.length - 1 - t = t := by omega
    simp only [e]
    simpa using h3

theorem seg4 (W : World) (b i j k n : Nat) (x y z u : Value) : Seg b (b + 1) W ((((W.setCell ⟨b, i, none⟩ x).setCell ⟨b, j, none⟩ y).setCell ⟨b, k, none⟩ z).setCell ⟨b, n, none⟩ u).drew := by
  have s := (((Seg.setCell W b i x).trans (Seg.setCell _ b j y)).trans (Seg.setCell _ b k z)).trans (Seg.setCell _ b n u)
  exact ⟨s.below.drew, s.over⟩

set_option maxHeartbeats 4000000 in
theorem reverse_s (v : Value) (sw : List Pv) (lo hi : Nat) (w : World) (h : Osw w v sw lo hi) (hl : sw.length ≤ 1048576) :
    Calls Try.prog 54 #[v] w fun e w' => (∃ u, e = .returned u) ∧ Osw w' v sw.reverse lo hi ∧ Seg lo hi w w' := by
  have H := hide h
  obtain ⟨a, cap, rfl⟩ := h.own.form
  clear h
  go_enter Try.func54, Try.ntmps54
  go_wp2
  go_loopw [2, 3] (fun x y wr => ∃ (k : Nat) (z : Int) (m : List Pv), x = .int .i64 k ∧ y = .int .i64 z ∧ z + 1 + k = sw.length ∧ 2 * k ≤ sw.length + 1 ∧ Hid (RevAt sw m k) ∧ Hid (Osw wr (.slice a sw.length cap) m lo hi) ∧ Hid (Seg lo hi w wr)) (fun x y _ => (intOf y + 2 - intOf x).toNat)
  case atStart => exact ⟨0, (sw.length : Int) - 1, sw, rfl, by go_num, by omega, by omega, RevAt.start sw, H.out, Seg.refl _ _ _⟩
  case round =>
    obtain ⟨k, z, m, rfl, rfl, hz, hk2, hm, ho, hw⟩ := hrel
    by_cases hlt : (k : Int) < z
    · obtain ⟨j, rfl⟩ := Int.eq_ofNat_of_zero_le (show 0 ≤ z by omega)
      have hkj : k < j := by omega
      have hjn : j + 1 + k = sw.length := by omega
      have hkm : k < m.length := by rw [hm.out.1]; omega
      have hjm : j < m.length := by rw [hm.out.1]; omega
      obtain ⟨g, rfl⟩ : ∃ g, a = some ⟨g, 0, none⟩ := by
        rcases ho.out.own.2 with ⟨hv, hn⟩ | ⟨g, cap', cur, hv, _⟩
        · omega
        · simp only [Value.slice.injEq] at hv
          exact ⟨g, hv.1⟩
      obtain ⟨p0, p1, e0, e1, hg1, hg2⟩ := OwS.cell ho.out.own k hkm
      obtain ⟨q0, q1, f0, f1, -, -⟩ := OwS.cell ho.out.own j hjm
      have hg3 := ho.out.lt g rfl
      have hst := hide (hm.out.step hjn hkj)
      obtain ⟨x, y, hxy⟩ : ∃ x y, m.getD k (0, 0) = (x, y) := ⟨_, _, rfl⟩
      obtain ⟨x', y', hxy'⟩ : ∃ x y, m.getD j (0, 0) = (x, y) := ⟨_, _, rfl⟩
      have hk1 : m[k] = (x, y) := by rw [← hxy, List.getD_eq_getElem?_getD, List.getElem?_eq_getElem hkm]; rfl
      have hj1 : m[j] = (x', y') := by rw [← hxy', List.getD_eq_getElem?_getD, List.getElem?_eq_getElem hjm]; rfl
      rw [hk1] at p0 p1
      rw [hj1] at q0 q1
      simp only at p0 p1 q0 q1
      have HST : Hid (RevAt sw ((m.set k (x', y')).set j (x, y)) (k + 1)) := by rw [← hxy, ← hxy']; exact hst.out
      have P1 := hide (OwS.put ho.out.own k x' y' hkm)
      have P2 := hide (OwS.put P1.out j x y (by simp; exact hjm))
      clear hst hxy hxy' hk1 hj1
      have ne1 : j * 2 ≠ k * 2 := by omega
      have ne2 : j * 2 ≠ k * 2 + 1 := by omega
      have ne3 : j * 2 + 1 ≠ k * 2 := by omega
      have ne4 : j * 2 + 1 ≠ k * 2 + 1 := by omega
      have r1 : (wr.setCell ⟨g, k * 2, none⟩ (.int .i64 x')).cell? ⟨g, k * 2 + 1, none⟩ = some (.int .i64 y) := by rw [World.cell?_setCell_other _ _ _ _ (by simp)]; exact p1
      have r2 : ((wr.setCell ⟨g, k * 2, none⟩ (.int .i64 x')).setCell ⟨g, k * 2 + 1, none⟩ (.int .i64 y')).cell? ⟨g, j * 2, none⟩ = some (.int .i64 x') := by rw [World.cell?_setCell_other _ _ _ _ (by simp [ne2]), World.cell?_setCell_other _ _ _ _ (by simp [ne1])]; exact q0
      have r3 : (((wr.setCell ⟨g, k * 2, none⟩ (.int .i64 x')).setCell ⟨g, k * 2 + 1, none⟩ (.int .i64 y')).setCell ⟨g, j * 2, none⟩ (.int .i64 x)).cell? ⟨g, j * 2 + 1, none⟩ = some (.int .i64 y') := by rw [World.cell?_setCell_other _ _ _ _ (by simp), World.cell?_setCell_other _ _ _ _ (by simp [ne4]), World.cell?_setCell_other _ _ _ _ (by simp [ne3])]; exact q1
      have t0 : decide (k < j) = true := by simp; omega
      have i1 : (k : Int) < (sw.length : Int) := by omega
      have i2 : (j : Int) < (sw.length : Int) := by omega
      go_wp2_with fail
      go_region
      go_wp2_with fail
      go_roundw
      case rel =>
        have sg := seg4 wr g (k * 2) (k * 2 + 1) (j * 2) (j * 2 + 1) (.int .i64 x') (.int .i64 y') (.int .i64 x) (.int .i64 y)
        exact ⟨k + 1, (j : Int) - 1, (m.set k (x', y')).set j (x, y), by go_num, rfl, by omega, by omega, HST.out, ⟨P2.out.below (Below.refl _ _).drew, ho.out.lt, ho.out.le, Nat.le_trans ho.out.top sg.below.size⟩, hw.out.trans (sg.mono hg1 (by omega))⟩
      case measure => simp [intOf]; omega
    · have hd := hide (hm.out.done (show sw.length ≤ 2 * k + 1 by omega))
      have t0 : decide ((k : Int) < z) = false := by simp; omega
      go_wp2_with fail
      refine bodyPost_end (v := .tuple #[]) (by simp [results, Try.results54]) rfl ⟨⟨_, rfl⟩, by rw [← hd.out]; exact ho.out, hw.out⟩

end Go.Proofs.Ytobdghabehbcjaa
