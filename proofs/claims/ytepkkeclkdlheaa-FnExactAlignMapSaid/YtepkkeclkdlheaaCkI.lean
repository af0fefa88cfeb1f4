/- What IsCracker of the program returns: the set of rows (promise 3). -/
import Derived.Test.YtepkkeclkdlheaaCkT
namespace Go.Proofs.Ytepkkeclkdlheaa
open Go.RowKit Go.ChangeShapes
set_option linter.unusedSimpArgs false
set_option linter.unusedVariables false
set_option maxRecDepth 100000

theorem add_yes (g : Nat) (j : Nat) (w : World) (hj : j ≤ 999) (hc : w.cell? ⟨g, j, none⟩ = some (.bool false)) (hf : w.frozen? ⟨g, j, none⟩ = false) :
    Calls Try.prog 171 #[.pointer (some ⟨g, 0, none⟩), .int .i64 j] w fun e w' => e = .returned (.bool true) ∧ w.setCell ⟨g, j, none⟩ (.bool true) = w' := by
  go_enter Try.func171, Try.ntmps171
  go_wp2
  go_ret
  exact ⟨rfl, rfl⟩

theorem add_old (g : Nat) (j : Nat) (w : World) (hj : j ≤ 999) (hc : w.cell? ⟨g, j, none⟩ = some (.bool true)) :
    Calls Try.prog 171 #[.pointer (some ⟨g, 0, none⟩), .int .i64 j] w fun e w' => e = .returned (.bool false) ∧ w = w' := by
  go_enter Try.func171, Try.ntmps171
  go_wp2
  go_ret
  exact ⟨rfl, rfl⟩

theorem add_out (g : Nat) (y : Int) (w : World) (hy : y < 0 ∨ 999 < y) :
    Calls Try.prog 171 #[.pointer (some ⟨g, 0, none⟩), .int .i64 y] w fun e w' => e = .returned (.bool false) ∧ w = w' := by
  by_cases h : y < 0
  · go_enter Try.func171, Try.ntmps171
    go_wp2
    go_ret
    exact ⟨rfl, rfl⟩
  · have h2 : decide (y > 999) = true := by simp; omega
    go_enter Try.func171, Try.ntmps171
    go_wp2
    go_ret
    exact ⟨rfl, rfl⟩

theorem zeroRS (w : World) : (zeroValue 188).run Try.prog w = .ok (.agg (Array.replicate 1000 (.bool false))) w := by kernel_rfl

/-- Block g holds a set of rows: those of the list. -/
def Seen (w : World) (g : Nat) (m : List Int) : Prop := ∃ cs, w.heap[g]? = some (.cells cs 188 (0, 0)) ∧ ∀ j : Nat, j ≤ 999 → cs[j]? = some (.bool (decide ((j : Int) ∈ m)))

theorem Seen.new (w : World) : Seen (w.alloc (.cells (Array.replicate 1000 (.bool false)) 188)) w.heap.size [] :=
  ⟨_, heap_alloc_new w _, fun j hj => by rw [Array.getElem?_replicate, if_pos (by omega)]; simp⟩

theorem Seen.cell {w : World} {g : Nat} {m : List Int} (h : Seen w g m) (j : Nat) (hj : j ≤ 999) : w.cell? ⟨g, j, none⟩ = some (.bool (decide ((j : Int) ∈ m))) ∧ w.frozen? ⟨g, j, none⟩ = false := by
  obtain ⟨cs, hg, hc⟩ := h
  exact ⟨by rw [cell_of_row w g j cs _ (0, 0) hg]; exact hc j hj, frozen_of_row w g j cs _ hg⟩

theorem Seen.set {w : World} {g : Nat} {m : List Int} (h : Seen w g m) (i : Nat) (hi : i ≤ 999) : Seen (w.setCell ⟨g, i, none⟩ (.bool true)) g (m ++ [(i : Int)]) := by
  obtain ⟨cs, hg, hc⟩ := h
  refine ⟨_, heap_setCell_same w g i cs _ _ hg, fun j hj => ?_⟩
  have hs : i < cs.size := (Array.getElem?_eq_some_iff.1 (hc i hi)).1
  by_cases e : j = i
  · subst e
    rw [Array.getElem?_setIfInBounds_self_of_lt hs]
    simp
  · rw [Array.getElem?_setIfInBounds_ne (fun h => e h.symm), hc j hj]
    have : ¬ (j : Int) = (i : Int) := by omega
    simp [this]

set_option maxHeartbeats 1000000 in
theorem iDiff_any (v : Value) (r : List Int) (w : World) (B : Nat) (hv : Ints w B v r) (hB : B ≤ w.heap.size) :
    Calls Try.prog 143 #[v] w (RetB1 w (rowsOk r)) := by
  obtain ⟨a, cap, rfl, hlen, -, hcell⟩ := hv
  have HC := hide hcell
  clear hcell
  obtain ⟨b0, hb0⟩ : ∃ b0, b0 = rowsOk r := ⟨_, rfl⟩
  rw [← hb0]
  have HB := hide hb0
  clear hb0
  have S1 := hide (Seen.new w)
  have B1 := hide (below1 w (.cells (Array.replicate 1000 (.bool false)) 188))
  obtain ⟨w1, hw1⟩ : ∃ w1, w1 = w.alloc (.cells (Array.replicate 1000 (.bool false)) 188) := ⟨_, rfl⟩
  rw [← hw1] at S1 B1
  go_enter Try.func143, Try.ntmps143
  go_wp2_with fail
  first
  | (rw [zeroRS]; simp only [Result.andThen]; rw [← hw1])
  | rw [show Try.zeroCells188 = Array.replicate 1000 (Value.bool false) by kernel_rfl, ← hw1]
  clear hw1
  obtain ⟨g, hg⟩ : ∃ g, g = w.heap.size := ⟨_, rfl⟩
  rw [← hg] at S1 ⊢
  have HG := hide (show w.heap.size ≤ g by omega)
  clear hg
  try go_wp2_with fail
  go_loopw [8] (fun i wr => ∃ (k : Nat), k ≤ r.length ∧ i = .int .i64 k ∧ Hid (RwPre r k) ∧ Hid (Seen wr g (r.take k)) ∧ Below w.heap.size w wr) (fun i _ => r.length - (intOf i).toNat)
  case atStart => exact ⟨0, by omega, rfl, fun j hj => by omega, S1.out, B1.out⟩
  case round =>
    clear S1 B1
    obtain ⟨k, hk, rfl, hpre, hs, hb⟩ := hrel
    by_cases hlt : k < r.length
    · obtain ⟨b, o, rfl, hbB, hc⟩ := HC.out k hlt
      obtain ⟨y, hy⟩ : ∃ y, y = r[k] := ⟨_, rfl⟩
      rw [← hy] at hc
      have d1 : wr.cell? ⟨b, o + k, none⟩ = some (.int .i64 y) := by rw [hb.cell (p := ⟨b, o + k, none⟩) (Nat.lt_of_lt_of_le hbB hB)]; exact hc
      have HY := hide hy
      have HBB := hide hb
      clear hy hc hb
      by_cases q1 : 0 ≤ y ∧ y ≤ 999
      · obtain ⟨n, rfl⟩ : ∃ n : Nat, y = n := ⟨y.toNat, by omega⟩
        have hn : n ≤ 999 := by omega
        obtain ⟨s0, s1⟩ := hs.out.cell n hn
        clear q1
        by_cases q2 : (n : Int) ∈ r.take k
        · have hf := hide (show b0 = false by
            rw [HB.out]
            rw [HY.out] at q2
            obtain ⟨j, hj, he⟩ := (mem_take_iff hlt).1 q2
            exact rows_bad hlt (fun h => h.2.2 j hj he))
          rw [decide_eq_true q2] at s0
          have A := hide (fun (W : World) (h : W.cell? ⟨g, n, none⟩ = some (.bool true)) => add_old g n W hn h)
          clear q2
          go_wp2_with fail
          go_at_call 171
          refine (A.out _ s0).mono ?_
          rintro e wa ⟨rfl, rfl⟩
          go_wp2_with fail
          go_ret
          exact ⟨by rw [hf.out]; rfl, HBB.out⟩
        · have hok := hide (rwPre_step hpre.out hlt ⟨by rw [← HY.out]; omega, by rw [← HY.out]; omega, fun j hj he => q2 (by rw [HY.out]; exact (mem_take_iff hlt).2 ⟨j, hj, he⟩)⟩)
          rw [decide_eq_false q2] at s0
          have A := hide (fun (W : World) (h : W.cell? ⟨g, n, none⟩ = some (.bool false)) (h2 : W.frozen? ⟨g, n, none⟩ = false) => add_yes g n W hn h h2)
          clear q2
          go_wp2_with fail
          go_at_call 171
          refine (A.out _ s0 s1).mono ?_
          rintro e wa ⟨rfl, rfl⟩
          go_wp2_with fail
          go_roundw
          case rel =>
            refine ⟨k + 1, by omega, by go_num, hok, ?_, HBB.out.setCell (p := ⟨g, n, none⟩) HG.out _⟩
            have := hs.out.set n hn
            rw [HY.out] at this
            show Seen _ _ _
            rw [List.take_succ_eq_append_getElem hlt]
            exact this
          case measure => simp [intOf]; omega
      · have hf := hide (show b0 = false by
          rw [HB.out]
          exact rows_bad hlt (fun h => q1 (by rw [HY.out]; exact ⟨h.1, h.2.1⟩)))
        have A := hide (fun (W : World) => add_out g y W (by omega))
        clear q1
        go_wp2_with fail
        go_at_call 171
        refine (A.out _).mono ?_
        rintro e wa ⟨rfl, rfl⟩
        go_wp2_with fail
        go_ret
        exact ⟨by rw [hf.out]; rfl, HBB.out⟩
    · have hke : k = r.length := by omega
      subst hke
      have hf := hide (show b0 = true by rw [HB.out]; exact rwPre_all hpre.out)
      go_wp2_with fail
      go_ret
      exact ⟨by rw [hf.out]; rfl, hb⟩

end Go.Proofs.Ytepkkeclkdlheaa
