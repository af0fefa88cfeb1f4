/- havePlaces of the program: whether all places of the swaps lie in a row (promise 3). -/
import Derived.Test.YtobdghabehbcjaaSw
import Derived.Test.YtobdghabehbcjaaApD
namespace Go.Proofs.Ytobdghabehbcjaa
open Go.RowKit Go.ChangeShapes
set_option linter.unusedSimpArgs false
set_option linter.unusedVariables false
set_option maxRecDepth 100000

set_option maxHeartbeats 4000000 in
theorem iHave_any (v : Value) (sw : List Pv) (n : Nat) (w : World) (B : Nat) (hv : Pvs w B v sw) (hB : B ≤ w.heap.size) :
    Calls Try.prog 51 #[v, .int .i64 n] w (RetB1 w (sw.all (swOk n))) := by
  obtain ⟨a, cap, rfl, hlen, hwf, hcell⟩ := hv
  have HC := hide hcell
  have HW := hide hwf
  clear hcell hwf
  obtain ⟨t, ht⟩ : ∃ t, t = sw.all (swOk n) := ⟨_, rfl⟩
  rw [← ht]
  have HT := hide ht
  clear ht
  go_enter Try.func51, Try.ntmps51
  go_wp2
  go_loopw [9] (fun u wr => ∃ (k : Nat), k ≤ sw.length ∧ u = .int .i64 k ∧ Hid ((sw.take k).all (swOk n) = true) ∧ Hid (Below w.heap.size w wr)) (fun u _ => sw.length - (intOf u).toNat)
  case atStart => exact ⟨0, by omega, rfl, by simp [Hid], Below.refl _ _⟩
  case round =>
    obtain ⟨k, hk, rfl, hall, hb⟩ := hrel
    by_cases hlt : k < sw.length
    · have hat := hide (all_take (swOk n) sw k hlt)
      obtain ⟨b1, o1, rfl, hb1, hc1, hc2⟩ := HC.out k hlt
      obtain ⟨x, hx⟩ : ∃ x, x = sw[k].1 := ⟨_, rfl⟩
      obtain ⟨y, hy⟩ : ∃ y, y = sw[k].2 := ⟨_, rfl⟩
      rw [← hx] at hc1
      rw [← hy] at hc2
      have d1 : wr.cell? ⟨b1, o1 + k * 2, none⟩ = some (.int .i64 x) := by rw [hb.out.cell (p := ⟨b1, o1 + k * 2, none⟩) (Nat.lt_of_lt_of_le hb1 hB)]; exact hc1
      have d2 : wr.cell? ⟨b1, o1 + k * 2 + 1, none⟩ = some (.int .i64 y) := by rw [hb.out.cell (p := ⟨b1, o1 + k * 2 + 1, none⟩) (Nat.lt_of_lt_of_le hb1 hB)]; exact hc2
      have HX := hide hx
      have HY := hide hy
      have hq := hide (show (swOk n sw[k]) = (decide (0 ≤ x ∧ x ≤ (n : Int) - 1) && decide (0 ≤ y ∧ y ≤ (n : Int) - 1)) by rw [hx, hy]; rfl)
      clear hc1 hc2 hx hy hb1
      rcases Int.lt_trichotomy x y with hc | hc | hc
      · have o1 : decide (x < y) = true := by simp; omega
        have o2 : decide (x ≤ y) = true := by simp; omega
        by_cases p1 : x < 0
        · have r1 : decide (x < 0) = true := by simp; omega
          have tf : t = false := by
            rw [HT.out]
            exact List.all_eq_false.2 ⟨sw[k], List.getElem_mem hlt, by rw [hq.out]; simp; omega⟩
          subst tf
          go_wp2
          go_ret
          exact ⟨rfl, hb.out.alloc hb.out.size _⟩
        · have r1 : decide (x < 0) = false := by simp; omega
          by_cases p2 : (n : Int) ≤ y
          · have r2 : decide (y ≥ (n : Int)) = true := by simp; omega
            have r3 : decide ((n : Int) ≤ y) = true := by simp; omega
            have tf : t = false := by
              rw [HT.out]
              exact List.all_eq_false.2 ⟨sw[k], List.getElem_mem hlt, by rw [hq.out]; simp; omega⟩
            subst tf
            go_wp2
            go_ret
            exact ⟨rfl, hb.out.alloc hb.out.size _⟩
          · have r2 : decide (y ≥ (n : Int)) = false := by simp; omega
            have r3 : decide ((n : Int) ≤ y) = false := by simp; omega
            have hall2 := hide (show (sw.take (k + 1)).all (swOk n) = true by rw [hat.out, hall.out, hq.out]; simp; omega)
            go_wp2
            go_roundw
            all_goals first
              | exact ⟨k + 1, by omega, by go_num, hall2.out, hb.out.alloc hb.out.size _⟩
              | (simp [intOf]; omega)
      · subst hc
        have o1 : decide (x < x) = false := by simp
        have o2 : decide (x ≤ x) = true := by simp
        by_cases p1 : x < 0
        · have r1 : decide (x < 0) = true := by simp; omega
          have tf : t = false := by
            rw [HT.out]
            exact List.all_eq_false.2 ⟨sw[k], List.getElem_mem hlt, by rw [hq.out]; simp; omega⟩
          subst tf
          go_wp2
          go_ret
          exact ⟨rfl, hb.out.alloc hb.out.size _⟩
        · have r1 : decide (x < 0) = false := by simp; omega
          by_cases p2 : (n : Int) ≤ x
          · have r2 : decide (x ≥ (n : Int)) = true := by simp; omega
            have r3 : decide ((n : Int) ≤ x) = true := by simp; omega
            have tf : t = false := by
              rw [HT.out]
              exact List.all_eq_false.2 ⟨sw[k], List.getElem_mem hlt, by rw [hq.out]; simp; omega⟩
            subst tf
            go_wp2
            go_ret
            exact ⟨rfl, hb.out.alloc hb.out.size _⟩
          · have r2 : decide (x ≥ (n : Int)) = false := by simp; omega
            have r3 : decide ((n : Int) ≤ x) = false := by simp; omega
            have hall2 := hide (show (sw.take (k + 1)).all (swOk n) = true by rw [hat.out, hall.out, hq.out]; simp; omega)
            go_wp2
            go_roundw
            all_goals first
              | exact ⟨k + 1, by omega, by go_num, hall2.out, hb.out.alloc hb.out.size _⟩
              | (simp [intOf]; omega)
      · have o1 : decide (x < y) = false := by simp; omega
        have o2 : decide (x ≤ y) = false := by simp; omega
        by_cases p1 : y < 0
        · have r1 : decide (y < 0) = true := by simp; omega
          have tf : t = false := by
            rw [HT.out]
            exact List.all_eq_false.2 ⟨sw[k], List.getElem_mem hlt, by rw [hq.out]; simp; omega⟩
          subst tf
          go_wp2
          go_ret
          exact ⟨rfl, hb.out.alloc hb.out.size _⟩
        · have r1 : decide (y < 0) = false := by simp; omega
          by_cases p2 : (n : Int) ≤ x
          · have r2 : decide (x ≥ (n : Int)) = true := by simp; omega
            have r3 : decide ((n : Int) ≤ x) = true := by simp; omega
            have tf : t = false := by
              rw [HT.out]
              exact List.all_eq_false.2 ⟨sw[k], List.getElem_mem hlt, by rw [hq.out]; simp; omega⟩
            subst tf
            go_wp2
            go_ret
            exact ⟨rfl, hb.out.alloc hb.out.size _⟩
          · have r2 : decide (x ≥ (n : Int)) = false := by simp; omega
            have r3 : decide ((n : Int) ≤ x) = false := by simp; omega
            have hall2 := hide (show (sw.take (k + 1)).all (swOk n) = true by rw [hat.out, hall.out, hq.out]; simp; omega)
            go_wp2
            go_roundw
            all_goals first
              | exact ⟨k + 1, by omega, by go_num, hall2.out, hb.out.alloc hb.out.size _⟩
              | (simp [intOf]; omega)
    · have hke : k = sw.length := by omega
      subst hke
      have tt : t = true := by rw [HT.out, ← hall.out, List.take_length]
      subst tt
      go_wp2
      go_ret
      exact ⟨rfl, hb.out⟩

end Go.Proofs.Ytobdghabehbcjaa
