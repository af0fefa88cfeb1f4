/- What FindRow returns: of the reference and of the program (promise 7). -/
import Derived.Test.YtajfhalalnlejaaIt
namespace Go.Proofs.Ytajfhalalnlejaa
open Go.RowKit Go.ChangeShapes
set_option linter.unusedSimpArgs false
set_option linter.unusedVariables false
set_option maxRecDepth 100000

set_option maxHeartbeats 1000000 in
theorem sFindRow_any (u : Value) (l r : List Int) (ps : List Pv) (v : Int) (w : World) (B : Nat) (hv : Ck w B u l r ps) (hB : B ≤ w.heap.size) :
    Calls Try.prog 65 #[u, .int .i64 v] w (RetI1 w (rowAt r v)) := by
  obtain ⟨a1, c1, a2, c2, a3, c3, rfl, -, i2, -⟩ := hv.form
  have X := hide (Kn.one w #[.slice a1 l.length c1, .slice a2 r.length c2, .slice a3 ps.length c3] 27)
  obtain ⟨w1, hw1⟩ : ∃ w1, w1 = w.alloc (.cells #[.slice a1 l.length c1, .slice a2 r.length c2, .slice a3 ps.length c3] 27) := ⟨_, rfl⟩
  rw [← hw1] at X
  have I2 := i2.below X.out.below hB
  obtain ⟨a2', c2', he, hlen, -, hcell⟩ := I2
  obtain ⟨rfl, rfl⟩ : a2 = a2' ∧ c2 = c2' := by
    simp only [Value.slice.injEq] at he
    exact ⟨he.1, he.2.2⟩
  have HC := hide hcell
  clear he hcell i2 hv
  have d2 := X.out.cell 0 1 rfl rfl
  obtain ⟨q, hq⟩ : ∃ q, q = rowAt r v := ⟨_, rfl⟩
  have HQ := hide hq
  rw [← hq]
  clear hq
  go_enter Try.func65, Try.ntmps65
  go_wp2_with fail
  rw [← hw1]
  clear hw1
  go_loopw [5] (fun i wr => ∃ (k : Nat), k ≤ r.length ∧ i = .int .i64 k ∧ Hid (k + idxL (r.drop k) v = idxL r v) ∧ w1 = wr) (fun i _ => r.length - (intOf i).toNat)
  case atStart => exact ⟨0, by omega, rfl, by simp [Hid], rfl⟩
  case round =>
    obtain ⟨k, hk, rfl, hpre, rfl⟩ := hrel
    by_cases hlt : k < r.length
    · obtain ⟨bb, o, rfl, hbB, hc⟩ := HC.out k hlt
      have hst := idxL_step r v k hpre.out hlt
      obtain ⟨p, hp⟩ : ∃ p, p = r[k] := ⟨_, rfl⟩
      rw [← hp] at hc hst
      clear hp
      by_cases hy : p = v
      · have hf := hide (show (k : Int) = q by rw [HQ.out]; exact (hst.1 hy).symm)
        have ht : decide (p = v) = true := by simp [hy]
        have ht2 : (p == v) = true := by simp [hy]
        clear hst
        go_wp2_with fail
        go_ret
        exact ⟨by have h9 := hf.out; subst h9; rfl, X.out.below⟩
      · have hf := hide (hst.2 hy)
        have ht : decide (p = v) = false := by simp [hy]
        have ht2 : (p == v) = false := by simp [hy]
        clear hst
        go_wp2_with fail
        go_roundw
        case rel => exact ⟨k + 1, by omega, by go_num, hf, trivial⟩
        case measure => simp [intOf]; omega
    · have hke : k = r.length := by omega
      subst hke
      have hf := hide (show q = -1 by rw [HQ.out]; exact idxL_end r v hpre.out)
      go_wp2_with fail
      go_ret
      exact ⟨by have h9 := hf.out; subst h9; rfl, X.out.below⟩

set_option maxHeartbeats 1000000 in
theorem index_i (u : Value) (r : List Int) (v : Int) (w : World) (B : Nat) (hv : Ints w B u r) :
    Calls Try.prog 85 #[u, .int .i64 v] w fun e w' => e = .returned (.int .i64 (rowAt r v)) ∧ w = w' := by
  obtain ⟨a2, c2, rfl, hlen, -, hcell⟩ := hv
  have HC := hide hcell
  clear hcell
  obtain ⟨q, hq⟩ : ∃ q, q = rowAt r v := ⟨_, rfl⟩
  have HQ := hide hq
  rw [← hq]
  clear hq
  go_enter Try.func85, Try.ntmps85
  go_wp2_with fail
  go_loopw [8] (fun i wr => ∃ (k : Nat), k ≤ r.length ∧ i = .int .i64 k ∧ Hid (k + idxL (r.drop k) v = idxL r v) ∧ w = wr) (fun i _ => r.length - (intOf i).toNat)
  case atStart => exact ⟨0, by omega, rfl, by simp [Hid], rfl⟩
  case round =>
    obtain ⟨k, hk, rfl, hpre, rfl⟩ := hrel
    by_cases hlt : k < r.length
    · obtain ⟨bb, o, rfl, hbB, hc⟩ := HC.out k hlt
      have hst := idxL_step r v k hpre.out hlt
      obtain ⟨p, hp⟩ : ∃ p, p = r[k] := ⟨_, rfl⟩
      rw [← hp] at hc hst
      clear hp
      by_cases hy : p = v
      · have hf := hide (show (k : Int) = q by rw [HQ.out]; exact (hst.1 hy).symm)
        have ht : decide (v = p) = true := by simp [hy]
        have ht2 : (v == p) = true := by simp [hy]
        clear hst
        go_wp2_with fail
        go_ret
        exact ⟨by have h9 := hf.out; subst h9; rfl, rfl⟩
      · have hf := hide (hst.2 hy)
        have ht : decide (v = p) = false := by simp; exact fun h => hy h.symm
        have ht2 : (v == p) = false := by simp; exact fun h => hy h.symm
        clear hst
        go_wp2_with fail
        go_roundw
        case rel => exact ⟨k + 1, by omega, by go_num, hf, trivial⟩
        case measure => simp [intOf]; omega
    · have hke : k = r.length := by omega
      subst hke
      have hf := hide (show q = -1 by rw [HQ.out]; exact idxL_end r v hpre.out)
      go_wp2_with fail
      go_ret
      exact ⟨by have h9 := hf.out; subst h9; rfl, rfl⟩

theorem iFindRow_any (u : Value) (l r : List Int) (ps : List Pv) (v : Int) (w : World) (B : Nat) (hv : Ck w B u l r ps) (hB : B ≤ w.heap.size) :
    Calls Try.prog 36 #[u, .int .i64 v] w (RetI1 w (rowAt r v)) := by
  obtain ⟨a1, c1, a2, c2, a3, c3, rfl, -, i2, -⟩ := hv.form
  have X := hide (Kn.one w #[.slice a1 l.length c1, .slice a2 r.length c2, .slice a3 ps.length c3] 27)
  obtain ⟨w1, hw1⟩ : ∃ w1, w1 = w.alloc (.cells #[.slice a1 l.length c1, .slice a2 r.length c2, .slice a3 ps.length c3] 27) := ⟨_, rfl⟩
  rw [← hw1] at X
  have I2 := hide (i2.below X.out.below hB)
  have d2 := X.out.cell 0 1 rfl rfl
  clear i2 hv
  go_enter Try.func36, Try.ntmps36
  go_wp2_with fail
  rw [← hw1]
  clear hw1
  go_wp2_with fail
  go_at_call 85
  refine (index_i _ r v _ B I2.out).mono ?_
  rintro e w2 ⟨rfl, rfl⟩
  go_wp2_with fail
  go_ret
  exact ⟨rfl, X.out.below⟩

end Go.Proofs.Ytajfhalalnlejaa
