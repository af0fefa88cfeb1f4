/- What MedianOf returns, of the reference and of the program (promise 4). -/
import Derived.Test.YtkhhlifnbelckaaPlM
import Derived.Test.YtkhhlifnbelckaaRbw
namespace Go.Proofs.Ytkhhlifnbelckaa
open Go.RowKit Go.ChangeShapes
set_option linter.unusedSimpArgs false
set_option linter.unusedVariables false
set_option maxRecDepth 100000

/-- A number is returned; nothing that was there has turned. -/
def RetNB (w : World) (n : Int) (e : Ending) (w' : World) : Prop := e = .returned (.int .i64 n) ∧ Below w.heap.size w w'

theorem medL_at {l : List Int} (h : 0 < l.length) (h2 : l.length ≤ 64) (k : Nat) (hk : k = (l.length - 1) / 2) (hk2 : k < (sortL l).length) : (sortL l)[k] = medL l := by
  subst hk
  unfold medL
  rw [if_neg (by omega), List.getD_eq_getElem?_getD, List.getElem?_eq_getElem hk2, Option.getD_some]

theorem med_ix {L : Nat} (h : 0 < L) (h2 : L ≤ 64) : (wrap64 ((L : Int) - 1)).tdiv 2 = (((L - 1) / 2 : Nat) : Int) := by
  rw [IntWalk.wrap64_in _ (by omega), Int.tdiv_eq_ediv_of_nonneg (by omega)]
  omega

set_option maxHeartbeats 4000000 in
theorem sMed_any (a : Option Addr) (c : Nat) (l : List Int) (w : World) (B : Nat) (h : Ints w B (.slice a l.length c) l) (hn : a = none → c = 0) (hB : B ≤ w.heap.size) (hl : l.length ≤ 1048576) :
    Calls Try.prog 35 #[.slice a l.length c] w (RetNB w (medL l)) := by
  have HS := hide (sSort_any a c l w B h hn hB hl)
  clear h hn
  obtain ⟨m, hm⟩ : ∃ m, m = medL l := ⟨_, rfl⟩
  have HA := hide (fun (h1 : 0 < l.length) (h2 : l.length ≤ 64) (k : Nat) (hk : k = (l.length - 1) / 2) (hk2 : k < (sortL l).length) => show (sortL l)[k] = m by rw [hm]; exact medL_at h1 h2 k hk hk2)
  have h0 : (l.length = 0 ∨ 64 < l.length) → m = 0 := fun h => by rw [hm]; unfold medL; rw [if_pos h]
  have hln := sortL_length l
  rw [← hm]
  clear hm
  obtain ⟨s, hs⟩ : ∃ s, s = sortL l := ⟨_, rfl⟩
  rw [← hs] at HS hln
  rw [← hs] at HA
  clear hs
  obtain ⟨L, hL⟩ : ∃ L, L = l.length := ⟨_, rfl⟩
  rw [← hL] at HA h0 hln HS ⊢
  by_cases z : L = 0
  · obtain rfl : m = 0 := h0 (.inl z)
    subst z
    clear hL HS HA h0 hln
    go_enter Try.func35, Try.ntmps35
    go_wp2_with fail
    go_ret
    exact ⟨rfl, Below.refl _ _⟩
  have t0 : ((L : Int) == 0) = false := by simpa using z
  by_cases y : 64 < L
  · obtain rfl : m = 0 := h0 (.inr y)
    have t1 : decide ((64 : Int) < (L : Int)) = true := decide_eq_true (by omega)
    clear hL HS HA h0 hln z
    go_enter Try.func35, Try.ntmps35
    go_wp2_with fail
    go_ret
    exact ⟨rfl, Below.refl _ _⟩
  have t1 : decide ((64 : Int) < (L : Int)) = false := decide_eq_false (by omega)
  have hk := med_ix (L := L) (by omega) (by omega)
  obtain ⟨k, hkk⟩ : ∃ k, k = (L - 1) / 2 := ⟨_, rfl⟩
  rw [← hkk] at hk
  have hkL : k < L := by omega
  have hwk : wrap64 (k : Int) = (k : Int) := IntWalk.wrap64_in _ (by omega)
  have HK := hide hkk
  have Hz := hide z
  have Hy := hide y
  clear hkk h0 z y hL hl
  go_enter Try.func35, Try.ntmps35
  go_wp2_with fail
  go_wp2_with fail
  go_at_call 73
  refine HS.out.mono ?_
  rintro e w1 ⟨v, hi, rfl, O, hb⟩
  obtain ⟨a', c', rfl⟩ := O.form
  obtain ⟨g, rfl, hc⟩ := O.at (by have := Hz.out; omega)
  have hkk := HK.out
  have ec := hc k (by omega)
  rw [HA.out (by have := Hz.out; omega) (by have := Hy.out; omega) k hkk (by omega)] at ec
  rw [hln]
  clear hc HA hkk HK
  go_wp2_with fail
  go_ret
  exact ⟨rfl, hb⟩

set_option maxHeartbeats 4000000 in
theorem iMed_any (a : Option Addr) (c : Nat) (l : List Int) (w : World) (B : Nat) (h : Ints w B (.slice a l.length c) l) (hn : a = none → c = 0) (hB : B ≤ w.heap.size) (hl : l.length ≤ 1048576) :
    Calls Try.prog 37 #[.slice a l.length c] w (RetNB w (medL l)) := by
  have HS := hide (show Calls Try.prog 81 #[.slice a l.length c] w (RetOw w (sortL l)) from (iSort_any a c l w B h hn hB hl).mono fun e w' ⟨v, rfl', O, hb⟩ => ⟨v, _, rfl', Ow.of O hb.size, hb⟩)
  clear h hn
  obtain ⟨m, hm⟩ : ∃ m, m = medL l := ⟨_, rfl⟩
  have HA := hide (fun (h1 : 0 < l.length) (h2 : l.length ≤ 64) (k : Nat) (hk : k = (l.length - 1) / 2) (hk2 : k < (sortL l).length) => show (sortL l)[k] = m by rw [hm]; exact medL_at h1 h2 k hk hk2)
  have h0 : (l.length = 0 ∨ 64 < l.length) → m = 0 := fun h => by rw [hm]; unfold medL; rw [if_pos h]
  have hln := sortL_length l
  rw [← hm]
  clear hm
  obtain ⟨s, hs⟩ : ∃ s, s = sortL l := ⟨_, rfl⟩
  rw [← hs] at HS hln
  rw [← hs] at HA
  clear hs
  obtain ⟨L, hL⟩ : ∃ L, L = l.length := ⟨_, rfl⟩
  rw [← hL] at HA h0 hln HS ⊢
  by_cases z : L = 0
  · obtain rfl : m = 0 := h0 (.inl z)
    subst z
    clear hL HS HA h0 hln
    go_enter Try.func37, Try.ntmps37
    go_wp2_with fail
    go_ret
    exact ⟨rfl, Below.refl _ _⟩
  have t0 : ((L : Int) == 0) = false := by simpa using z
  by_cases y : 64 < L
  · obtain rfl : m = 0 := h0 (.inr y)
    have t1 : decide ((64 : Int) < (L : Int)) = true := decide_eq_true (by omega)
    clear hL HS HA h0 hln z
    go_enter Try.func37, Try.ntmps37
    go_wp2_with fail
    go_ret
    exact ⟨rfl, Below.refl _ _⟩
  have t1 : decide ((64 : Int) < (L : Int)) = false := decide_eq_false (by omega)
  have hk := med_ix (L := L) (by omega) (by omega)
  obtain ⟨k, hkk⟩ : ∃ k, k = (L - 1) / 2 := ⟨_, rfl⟩
  rw [← hkk] at hk
  have hkL : k < L := by omega
  have hwk : wrap64 (k : Int) = (k : Int) := IntWalk.wrap64_in _ (by omega)
  have HK := hide hkk
  have Hz := hide z
  have Hy := hide y
  clear hkk h0 z y hL hl
  go_enter Try.func37, Try.ntmps37
  go_wp2_with fail
  go_wp2_with fail
  go_at_call 81
  refine HS.out.mono ?_
  rintro e w1 ⟨v, hi, rfl, O, hb⟩
  obtain ⟨a', c', rfl⟩ := O.form
  obtain ⟨g, rfl, hc⟩ := O.at (by have := Hz.out; omega)
  have hkk := HK.out
  have ec := hc k (by omega)
  rw [HA.out (by have := Hz.out; omega) (by have := Hy.out; omega) k hkk (by omega)] at ec
  rw [hln]
  clear hc HA hkk HK
  go_wp2_with fail
  go_ret
  exact ⟨rfl, hb⟩

end Go.Proofs.Ytkhhlifnbelckaa
