/- What Partition of the program returns, whole (promise 3). -/
import Derived.Test.YtobdghabehbcjaaPtI
namespace Go.Proofs.Ytobdghabehbcjaa
open Go.RowKit Go.ChangeShapes
set_option linter.unusedSimpArgs false
set_option linter.unusedVariables false
set_option maxRecDepth 100000

set_option maxHeartbeats 4000000 in
theorem iPart_no (l : List Int) (a b p : Int) (ad : Option Addr) (cap : Nat) (w : World) (hl : l.length ≤ 1048576) (h1 : ¬ (0 ≤ a ∧ a ≤ b ∧ b ≤ (l.length : Int))) :
    Calls Try.prog 12 #[.slice ad l.length cap, .int .i64 a, .int .i64 b, .int .i64 p] w (RetSI w ([], 0)) := by
  by_cases q1 : a < 0
  · have t1 : decide (a < 0) = true := by simp; omega
    clear h1
    go_enter Try.func12, Try.ntmps12
    go_wp2_with fail
    go_step3
    go_wp2_with fail
    rw [Exit.noGoto_ret]
    go_ret2
    exact ⟨_, rfl, OwS.nil _ _, Below.refl _ _⟩
  · have t1 : decide (a < 0) = false := by simp; omega
    by_cases q2 : b < a
    · have t2 : decide (b < a) = true := by simp; omega
      have t2' : decide (a > b) = true := by simp; omega
      clear h1
      go_enter Try.func12, Try.ntmps12
      go_wp2_with fail
      go_step3
      go_wp2_with fail
      rw [Exit.noGoto_ret]
      go_ret2
      exact ⟨_, rfl, OwS.nil _ _, Below.refl _ _⟩
    · have t2 : decide (b < a) = false := by simp; omega
      have t2' : decide (a > b) = false := by simp; omega
      have t3 : decide ((l.length : Int) < b) = true := by simp; omega
      have t3' : decide (b > (l.length : Int)) = true := by simp; omega
      clear h1
      go_enter Try.func12, Try.ntmps12
      go_wp2_with fail
      go_step3
      go_wp2_with fail
      rw [Exit.noGoto_ret]
      go_ret2
      exact ⟨_, rfl, OwS.nil _ _, Below.refl _ _⟩

theorem iPart_any (v : Value) (l : List Int) (a b p : Int) (w : World) (B : Nat) (hv : Ints w B v l) (hB : B ≤ w.heap.size) (hl : l.length ≤ 1048576) :
    Calls Try.prog 12 #[v, .int .i64 a, .int .i64 b, .int .i64 p] w (RetSI w (partP l a b p)) := by
  obtain ⟨ad, cap, rfl, hlen, -, hcell⟩ := hv
  by_cases h1 : 0 ≤ a ∧ a ≤ b ∧ b ≤ (l.length : Int)
  · obtain ⟨g1, g2, g3⟩ := h1
    obtain ⟨n, rfl⟩ := Int.eq_ofNat_of_zero_le g1
    obtain ⟨e, rfl⟩ := Int.eq_ofNat_of_zero_le (show 0 ≤ b by omega)
    refine iPart_in l n e p ad cap w B hcell hB hl (by omega) (by omega) _ ?_
    show _ = _
    unfold partP
    rw [if_pos ⟨g1, g2, g3⟩]
    simp only [Int.toNat_natCast]
    rw [show ((e : Int) - (n : Int)).toNat = e - n by omega]
  · have : partP l a b p = ([], 0) := by unfold partP; rw [if_neg h1]
    rw [this]
    exact iPart_no l a b p ad cap w hl h1

end Go.Proofs.Ytobdghabehbcjaa
