/- What l11HasRow of the reference returns (promise 7). -/
import Derived.Test.YtajfhalalnlejaaPdM
import Derived.Test.YtajfhalalnlejaaPd
import Derived.Test.YtajfhalalnlejaaFr
namespace Go.Proofs.Ytajfhalalnlejaa
open Go.RowKit Go.ChangeShapes
set_option linter.unusedSimpArgs false
set_option linter.unusedVariables false
set_option maxRecDepth 100000

set_option maxHeartbeats 1000000 in
theorem sHasR_any (u : Value) (ins : List Pv) (de : List Int) (v : Int) (w : World) (B : Nat) (hv : Pd w B u ins de) (hB : B ≤ w.heap.size) :
    Calls Try.prog 87 #[u, .int .i64 v] w (RetI1 w (hasR ins v)) := by
  obtain ⟨a1, c1, a2, c2, rfl, i1, -⟩ := hv.form
  have X := hide (Kn.one w #[.slice a1 ins.length c1, .slice a2 de.length c2] 70)
  obtain ⟨w1, hw1⟩ : ∃ w1, w1 = w.alloc (.cells #[.slice a1 ins.length c1, .slice a2 de.length c2] 70) := ⟨_, rfl⟩
  rw [← hw1] at X
  have I1 := i1.below X.out.below hB
  obtain ⟨a1', c1', he, hlen, -, hcell⟩ := I1
  obtain ⟨rfl, rfl⟩ : a1 = a1' ∧ c1 = c1' := by
    simp only [Value.slice.injEq] at he
    exact ⟨he.1, he.2.2⟩
  have HC := hide hcell
  clear he hcell i1 hv
  have d2 := X.out.cell 0 0 rfl rfl
  obtain ⟨q, hq⟩ : ∃ q, q = hasR ins v := ⟨_, rfl⟩
  have HQ := hide hq
  rw [← hq]
  clear hq
  have hlR := hide (itR_length ins)
  go_enter Try.func87, Try.ntmps87
  go_wp2_with fail
  rw [← hw1]
  clear hw1
  go_loopw [5] (fun i wr => ∃ (k : Nat), k ≤ ins.length ∧ i = .int .i64 k ∧ Hid (k + idxL ((itR ins).drop k) v = idxL (itR ins) v) ∧ w1 = wr) (fun i _ => ins.length - (intOf i).toNat)
  case atStart => exact ⟨0, by omega, rfl, by simp [Hid], rfl⟩
  case round =>
    obtain ⟨k, hk, rfl, hpre, rfl⟩ := hrel
    by_cases hlt : k < ins.length
    · obtain ⟨bb, o, rfl, hbB, -, hc⟩ := HC.out k hlt
      have hst := idxL_step (itR ins) v k hpre.out (by rw [itR_length]; exact hlt)
      rw [itR_get ins k hlt] at hst
      obtain ⟨p, hp⟩ : ∃ p, p = ins[k].2 := ⟨_, rfl⟩
      rw [← hp] at hc hst
      clear hp
      by_cases hy : p = v
      · have hf := hide (show (k : Int) = q by rw [HQ.out]; exact (hst.1 hy).symm)
        have ht : decide (p = v) = true := by simp [hy]
        have ht2 : (p == v) = true := by simp [hy]
        clear hst
        go_wp2_with fail
        go_ret
        exact ⟨by have h9 := hf.out; subst h9; rfl, X.out.below⟩
      · have hf := hide (hst.2 hy)
        have ht : decide (p = v) = false := by simp [hy]
        have ht2 : (p == v) = false := by simp [hy]
        clear hst
        go_wp2_with fail
        go_roundw
        case rel => exact ⟨k + 1, by omega, by go_num, hf, trivial⟩
        case measure => simp [intOf]; omega
    · have hke : k = ins.length := by omega
      subst hke
      have hf := hide (show q = -1 by rw [HQ.out]; exact idxL_end (itR ins) v (by rw [itR_length]; exact hpre.out))
      go_wp2_with fail
      go_ret
      exact ⟨by have h9 := hf.out; subst h9; rfl, X.out.below⟩

end Go.Proofs.Ytajfhalalnlejaa
