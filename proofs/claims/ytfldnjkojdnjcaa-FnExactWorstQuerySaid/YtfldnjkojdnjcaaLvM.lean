/- How often a number can be halved, the bound on the swaps, the worst query: in numbers (promise 5). No function of the program. -/
import Derived.Test.YtfldnjkojdnjcaaPlM
namespace Go.Proofs.Ytfldnjkojdnjcaa
set_option linter.unusedSimpArgs false
set_option linter.unusedVariables false
set_option maxRecDepth 100000

/-- n halved k times. -/
def hv (n : Int) (k : Nat) : Int := n / ((2 ^ k : Nat) : Int)
theorem hv_zero (n : Int) : hv n 0 = n := by simp [hv]
theorem hv_succ (n : Int) (k : Nat) : hv n (k + 1) = hv n k / 2 := by
  unfold hv
  rw [Int.ediv_ediv_of_nonneg (Int.natCast_nonneg _), Nat.pow_succ]
  simp
theorem hv_end {n : Int} (h : n ≤ 1000000) : hv n 20 ≤ 0 := by
  unfold hv
  have : ((2 ^ 20 : Nat) : Int) = 1048576 := by decide
  rw [this]
  omega
theorem hv_le {n m : Int} (hn : n ≤ m) (hm : 0 ≤ m) : ∀ k, hv n k ≤ m
  | 0 => by rw [hv_zero]; exact hn
  | k + 1 => by have := hv_le hn hm k; rw [hv_succ]; omega
theorem hv_ge {n m : Int} (hn : m ≤ n) (hm : m ≤ 0) : ∀ k, m ≤ hv n k
  | 0 => by rw [hv_zero]; exact hn
  | k + 1 => by have := hv_ge hn hm k; rw [hv_succ]; omega

/-- At how many of the first k halvings the number is greater than t. -/
def lvC (n t : Int) : Nat → Nat
  | 0 => 0
  | k + 1 => lvC n t k + (if t < hv n k then 1 else 0)
theorem lvC_le (n t : Int) : ∀ k, lvC n t k ≤ k
  | 0 => Nat.le_refl _
  | k + 1 => by have := lvC_le n t k; rw [lvC]; split <;> omega
theorem lvC_all {n t : Int} : ∀ k, (∀ j, j < k → t < hv n j) → lvC n t k = k
  | 0, _ => rfl
  | k + 1, h => by rw [lvC, lvC_all k (fun j hj => h j (by omega)), if_pos (h k (by omega))]
theorem hv_stop {n t : Int} {k : Nat} (ht : 0 < t) (h : hv n k ≤ t) : ∀ m, hv n (k + m) ≤ t
  | 0 => h
  | m + 1 => by have := hv_stop ht h m; rw [← Nat.add_assoc, hv_succ]; omega
theorem lvC_stop {n t : Int} {k : Nat} (ht : 0 < t) (h : hv n k ≤ t) : ∀ m, lvC n t (k + m) = lvC n t k
  | 0 => rfl
  | m + 1 => by
    have := hv_stop ht h m
    rw [← Nat.add_assoc, lvC, lvC_stop ht h m, if_neg (by omega)]
    rfl

/-- The levels. -/
def lvF (n t : Int) : Int := if 0 < t then (lvC (min n 1000000) t 20 : Nat) else 0
theorem lvF_range (n t : Int) : 0 ≤ lvF n t ∧ lvF n t ≤ 20 := by
  unfold lvF
  split
  · have := lvC_le (min n 1000000) t 20; omega
  · omega
/-- Where all halvings so far were greater and this one is not, their number is the answer. -/
theorem lvF_at {n t : Int} {k : Nat} (ht : 0 < t) (hk : k ≤ 20) (h : ∀ j, j < k → t < hv (min n 1000000) j) (he : hv (min n 1000000) k ≤ t) : lvF n t = (k : Int) := by
  unfold lvF
  rw [if_pos ht, show 20 = k + (20 - k) by omega, lvC_stop ht he, lvC_all k h]

/-- The bound. -/
noncomputable def sbOk (n p t s q : Int) : Bool := decide (0 ≤ n ∧ n ≤ 64) && decide (0 ≤ q ∧ q ≤ 30) && isSet p t s
noncomputable def sbF (n p t s q : Int) : Int := if sbOk n p t s q = true then (if p = 0 then n * q else if p = 1 then n * lvF n t + t * q else n * n + t * q) else 0

/-- The worst of the first k. -/
def wqK (l : List Int) : Nat → Int
  | 0 => -1
  | k + 1 => if wqK l k < 0 ∨ l.getD (wqK l k).toNat 0 < l.getD k 0 then (k : Int) else wqK l k
theorem wqK_range (l : List Int) : ∀ k, -1 ≤ wqK l k ∧ wqK l k < k
  | 0 => ⟨by simp [wqK], by simp [wqK]⟩
  | k + 1 => by have := wqK_range l k; rw [wqK]; split <;> omega
theorem wqK_new {l : List Int} {k : Nat} (h : wqK l k < 0 ∨ l.getD (wqK l k).toNat 0 < l.getD k 0) : wqK l (k + 1) = (k : Int) := by rw [wqK, if_pos h]
theorem wqK_old {l : List Int} {k : Nat} (h : ¬(wqK l k < 0 ∨ l.getD (wqK l k).toNat 0 < l.getD k 0)) : wqK l (k + 1) = wqK l k := by rw [wqK, if_neg h]

end Go.Proofs.Ytfldnjkojdnjcaa
