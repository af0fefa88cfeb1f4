/- What IsCracker of the reference returns (promise 3). -/
import Derived.Test.YtepkkeclkdlheaaCkL
import Derived.Test.YtepkkeclkdlheaaName
namespace Go.Proofs.Ytepkkeclkdlheaa
open Go.RowKit Go.ChangeShapes
set_option linter.unusedSimpArgs false
set_option linter.unusedVariables false
set_option maxRecDepth 100000

theorem same_back {P : Program} {f : FuncId} {args : Array Value} {w : World} {v : Value} (h : Calls P f args w fun e w' => e = .returned v ∧ w = w') : Calls P f args w fun e w' => e = .returned v ∧ w' = w :=
  h.mono fun _ _ ⟨a, b⟩ => ⟨a, b.symm⟩

set_option maxHeartbeats 1000000 in
theorem sHas_any (v : Value) (l : List Int) (x : Int) (w : World) (B : Nat) (hv : Ints w B v l) :
    Calls Try.prog 115 #[v, .int .i64 x] w fun e w' => e = .returned (.bool (decide (x ∈ l))) ∧ w = w' := by
  obtain ⟨a, cap, rfl, hlen, -, hcell⟩ := hv
  have HC := hide hcell
  clear hcell
  obtain ⟨b0, hb0⟩ : ∃ b0, b0 = decide (x ∈ l) := ⟨_, rfl⟩
  rw [← hb0]
  have HB := hide hb0
  clear hb0
  go_enter Try.func115, Try.ntmps115
  go_wp2
  go_loopw [5] (fun i wr => ∃ (k : Nat), k ≤ l.length ∧ i = .int .i64 k ∧ Hid (∀ j (_ : j < k) (h : j < l.length), l[j] ≠ x) ∧ w = wr) (fun i _ => l.length - (intOf i).toNat)
  case atStart => exact ⟨0, by omega, rfl, fun j hj => by omega, rfl⟩
  case round =>
    obtain ⟨k, hk, rfl, hpre, rfl⟩ := hrel
    by_cases hlt : k < l.length
    · obtain ⟨b, o, rfl, hbB, hc⟩ := HC.out k hlt
      obtain ⟨y, hy⟩ : ∃ y, y = l[k] := ⟨_, rfl⟩
      rw [← hy] at hc
      by_cases hxy : y = x
      · have hf := hide (show b0 = true by rw [HB.out]; simp; rw [← hxy, hy]; exact List.getElem_mem hlt)
        have ht : (y == x) = true := by simp [hxy]
        clear hy hxy
        go_wp2
        go_ret
        exact ⟨by rw [hf.out]; rfl, rfl⟩
      · have hst := hide (show ∀ j (_ : j < k + 1) (h : j < l.length), l[j] ≠ x from fun j hj h => by
          by_cases e : j = k
          · subst e; rw [← hy]; exact hxy
          · exact hpre.out j (by omega) h)
        have ht : (y == x) = false := by simp [hxy]
        clear hy hxy
        go_wp2
        go_roundw
        case rel => exact ⟨k + 1, by omega, by go_num, hst, trivial⟩
        case measure => simp [intOf]; omega
    · have hke : k = l.length := by omega
      subst hke
      have hf := hide (show b0 = false by
        rw [HB.out, decide_eq_false]
        intro hm
        obtain ⟨j, hj, he⟩ := List.getElem_of_mem hm
        exact hpre.out j hj hj he)
      go_wp2
      go_ret
      exact ⟨by rw [hf.out]; rfl, rfl⟩

theorem fits_step {l : List Int} {V A : Int} {k : Nat} (h : ∀ j (_ : j < k) (h : j < l.length), l[j] < V ↔ (j : Int) < A) (hk : k < l.length) (he : l[k] < V ↔ (k : Int) < A) : ∀ j (_ : j < k + 1) (h : j < l.length), l[j] < V ↔ (j : Int) < A := by
  intro j hj h2
  by_cases e : j = k
  · subst e; exact he
  · exact h j (by omega) h2

set_option maxHeartbeats 4000000 in
theorem sPvs_any (v u : Value) (l : List Int) (ps : List Pv) (w : World) (B : Nat) (hv : Ints w B v l) (hu : Pvs w B u ps) (hB : B ≤ w.heap.size) (hl : l.length ≤ 9223372036854775807) :
    Calls Try.prog 142 #[v, u] w (RetB1 w (pvsOk l ps)) := by
  obtain ⟨a, cap, rfl, -, -, hcell⟩ := hv
  obtain ⟨c, cap2, rfl, hpl, -, hcell2⟩ := hu
  have HC := hide hcell
  have HC2 := hide hcell2
  clear hcell hcell2
  obtain ⟨b0, hb0⟩ : ∃ b0, b0 = pvsOk l ps := ⟨_, rfl⟩
  rw [← hb0]
  have HB := hide hb0
  clear hb0
  go_enter Try.func142, Try.ntmps142
  go_wp2
  go_loopw [5] (fun i wr => ∃ (k : Nat), k ≤ ps.length ∧ i = .int .i64 k ∧ Hid (PvPre l ps k) ∧ Below w.heap.size w wr) (fun i _ => ps.length - (intOf i).toNat)
  case atStart => exact ⟨0, by omega, rfl, pvPre_zero l ps, Below.refl _ _⟩
  case round =>
    obtain ⟨k, hk, rfl, hpre, hb⟩ := hrel
    by_cases hlt : k < ps.length
    · obtain ⟨b, o, rfl, hbB, hc, hc2⟩ := HC2.out k hlt
      obtain ⟨p, hp⟩ : ∃ p, p = ps[k] := ⟨_, rfl⟩
      rw [← hp] at hc hc2
      obtain ⟨x, y⟩ := p
      simp only at hc hc2
      have HP := hide hp
      have d1 : wr.cell? ⟨b, o + k * 2, none⟩ = some (.int .i64 x) := by rw [hb.cell (p := ⟨b, o + k * 2, none⟩) (Nat.lt_of_lt_of_le hbB hB)]; exact hc
      have d2 : wr.cell? ⟨b, o + k * 2 + 1, none⟩ = some (.int .i64 y) := by rw [hb.cell (p := ⟨b, o + k * 2 + 1, none⟩) (Nat.lt_of_lt_of_le hbB hB)]; exact hc2
      have X := hide (Kn.one wr #[.int .i64 x, .int .i64 y] 147)
      obtain ⟨wx, hwx⟩ : ∃ wx, wx = wr.alloc (.cells #[.int .i64 x, .int .i64 y] 147) := ⟨_, rfl⟩
      rw [← hwx] at X
      have hbx := hide (hb.trans (X.out.below.mono hb.size))
      clear hp hc hc2 hb
      go_wp2_with fail
      rw [← hwx]
      clear hwx d1 d2
      have x0 : wx.cell? ⟨wr.heap.size, 0, none⟩ = some (.int .i64 x) := X.out.cell 0 0 rfl rfl
      have x1 : wx.cell? ⟨wr.heap.size, 1, none⟩ = some (.int .i64 y) := X.out.cell 0 1 rfl rfl
      obtain ⟨g, hg⟩ : ∃ g, g = wr.heap.size := ⟨_, rfl⟩
      rw [← hg] at x0 x1
      try rw [← hg]
      clear hg
      by_cases c1 : -1000 ≤ x ∧ x ≤ 1000
      · by_cases c2 : 0 ≤ y ∧ y ≤ (l.length : Int)
        · have C1 := hide (fun (W : World) => same_back (in_yes x (-1000) 1000 W c1.1 c1.2))
          have C2 := hide (fun (W : World) => same_back (in_yes y 0 l.length W c2.1 c2.2))
          obtain ⟨hc2⟩ : Nonempty (0 ≤ y ∧ y ≤ (l.length : Int)) := ⟨c2⟩
          by_cases hk0 : k = 0
          · have t1 : decide (0 < k) = false := by simp; omega
            have HK := hide (show Fits l x y → PvOk l ps k hlt from fun h => by
              refine ⟨?_, ?_, ?_⟩
              · unfold prevV; rw [if_pos hk0, ← HP.out]; show -1001 < x; omega
              · rw [← HP.out]; exact c1.2
              · rw [← HP.out]; exact h)
            clear hk0 c1 c2
            go_quiet (first | (go_at_call 81; with_reducible exact Calls.quiet_of_same (C1.out _)) | (go_at_call 81; with_reducible exact Calls.quiet_of_same (C2.out _)))
            go_wp2_with fail
            go_loopw [7] (fun i wi => ∃ (j q : Nat), j ≤ l.length ∧ i = .int .i64 j ∧ Hid (∀ m (_ : m < j) (h : m < l.length), l[m] < x ↔ (m : Int) < y) ∧ wi = wx.drewN q) (fun i _ => l.length - (intOf i).toNat)
            case atStart => exact ⟨0, nq, by omega, rfl, fun m hm => by omega, rfl⟩
            case round =>
              obtain ⟨j, q, hj, rfl, hpp, rfl⟩ := hrel
              by_cases hjl : j < l.length
              · obtain ⟨b', o', rfl, hbB', hc'⟩ := HC.out j hjl
                obtain ⟨v, hv⟩ : ∃ v, v = l[j] := ⟨_, rfl⟩
                rw [← hv] at hc'
                have d3 : wx.cell? ⟨b', o' + j, none⟩ = some (.int .i64 v) := by rw [hbx.out.cell (p := ⟨b', o' + j, none⟩) (Nat.lt_of_lt_of_le hbB' hB)]; exact hc'
                have HV := hide hv
                clear hv hc'
                by_cases e : v < x ↔ (j : Int) < y
                · have ht : (decide (v < x) == decide ((j : Int) < y)) = true := by simp [e]
                  have hst := hide (fits_step hpp.out hjl (by rw [← HV.out]; exact e))
                  clear e
                  go_wp2_with fail
                  go_quiet (fail)
                  go_wp2_with fail
                  go_roundw
                  case rel => exact ⟨j + 1, q + nq, by omega, by go_num, hst, rfl⟩
                  case measure => simp [intOf]; omega
                · have ht : (decide (v < x) == decide ((j : Int) < y)) = false := by
                    rw [beq_eq_false_iff_ne]
                    intro h
                    exact e (by rw [← decide_eq_decide]; exact h)
                  have hf := hide (show b0 = false by
                    rw [HB.out]
                    refine pvs_bad hlt fun h => e ?_
                    have h3 := h.2.2.2.2 j hjl
                    rw [← HP.out, ← HV.out] at h3
                    exact h3)
                  clear e
                  go_wp2_with fail
                  go_quiet (fail)
                  go_wp2_with fail
                  go_ret
                  exact ⟨by rw [hf.out]; rfl, below_drewN (below_drewN hbx.out _) _⟩
              · have hje : j = l.length := by omega
                subst hje
                have hok := hide (pvPre_step hpre.out hlt (HK.out ⟨hc2.1, hc2.2, fun m hm => hpp.out m hm hm⟩))
                go_wp2_with fail
                go_roundw
                case rel => exact ⟨k + 1, by omega, by go_num, hok, below_drewN hbx.out _⟩
                case measure => simp [intOf]; omega
          · obtain ⟨k', rfl⟩ : ∃ k', k = k' + 1 := ⟨k - 1, by omega⟩
            have t1 : decide (0 < k' + 1) = true := by simp
            obtain ⟨b', o', he, hbB', hc', hc2'⟩ := HC2.out k' (by omega)
            obtain ⟨rfl, rfl⟩ : b = b' ∧ o = o' := by simpa using he
            obtain ⟨p', hp'⟩ : ∃ p, p = ps[k']'(by omega) := ⟨_, rfl⟩
            rw [← hp'] at hc' hc2'
            obtain ⟨x', y'⟩ := p'
            simp only at hc' hc2'
            have e0 : wx.cell? ⟨b, o + k' * 2, none⟩ = some (.int .i64 x') := by rw [hbx.out.cell (p := ⟨b, o + k' * 2, none⟩) (Nat.lt_of_lt_of_le hbB hB)]; exact hc'
            have e1 : wx.cell? ⟨b, o + k' * 2 + 1, none⟩ = some (.int .i64 y') := by rw [hbx.out.cell (p := ⟨b, o + k' * 2 + 1, none⟩) (Nat.lt_of_lt_of_le hbB hB)]; exact hc2'
            have HPV := hide (show prevV ps (k' + 1) = x' by rw [prevV_succ ps k' (by omega), ← hp'])
            have HPP := hide hp'
            clear hc' hc2' hp' he hbB' hk0
            by_cases c3 : x ≤ x'
            · have hf := hide (show b0 = false by
                rw [HB.out]
                refine pvs_bad hlt fun h => ?_
                have h2 := h.1
                rw [HPV.out, ← HP.out] at h2
                simp only at h2
                omega)
              have t2 : decide (x ≤ x') = true := by simp; omega
              clear c1 c2 c3
              go_quiet (first | (go_at_call 81; with_reducible exact Calls.quiet_of_same (C1.out _)) | (go_at_call 81; with_reducible exact Calls.quiet_of_same (C2.out _)))
              go_wp2_with fail
              go_ret
              exact ⟨by rw [hf.out]; rfl, below_drewN hbx.out _⟩
            · have t2 : decide (x ≤ x') = false := by simp; omega
              by_cases c4 : y < y'
              · have hf := hide (show b0 = false by
                  rw [HB.out]
                  refine pvs_bad hlt fun h => ?_
                  have h2 := at_mono hlt (hpre.out k' (by omega) (by omega)) h
                  rw [← HP.out, ← HPP.out] at h2
                  simp only at h2
                  omega)
                have t3 : decide (y < y') = true := by simp; omega
                clear c1 c2 c3 c4
                go_quiet (first | (go_at_call 81; with_reducible exact Calls.quiet_of_same (C1.out _)) | (go_at_call 81; with_reducible exact Calls.quiet_of_same (C2.out _)))
                go_wp2_with fail
                go_ret
                exact ⟨by rw [hf.out]; rfl, below_drewN hbx.out _⟩
              · have t3 : decide (y < y') = false := by simp; omega
                have HK := hide (show Fits l x y → PvOk l ps (k' + 1) hlt from fun h => by
                  refine ⟨?_, ?_, ?_⟩
                  · rw [HPV.out, ← HP.out]; show x' < x; omega
                  · rw [← HP.out]; exact c1.2
                  · rw [← HP.out]; exact h)
                clear c1 c2 c3 c4
                go_quiet (first | (go_at_call 81; with_reducible exact Calls.quiet_of_same (C1.out _)) | (go_at_call 81; with_reducible exact Calls.quiet_of_same (C2.out _)))
                go_wp2_with fail
                go_loopw [7] (fun i wi => ∃ (j q : Nat), j ≤ l.length ∧ i = .int .i64 j ∧ Hid (∀ m (_ : m < j) (h : m < l.length), l[m] < x ↔ (m : Int) < y) ∧ wi = wx.drewN q) (fun i _ => l.length - (intOf i).toNat)
                case atStart => exact ⟨0, nq, by omega, rfl, fun m hm => by omega, rfl⟩
                case round =>
                  obtain ⟨j, q, hj, rfl, hpp, rfl⟩ := hrel
                  by_cases hjl : j < l.length
                  · obtain ⟨b', o', rfl, hbB', hc'⟩ := HC.out j hjl
                    obtain ⟨v, hv⟩ : ∃ v, v = l[j] := ⟨_, rfl⟩
                    rw [← hv] at hc'
                    have d3 : wx.cell? ⟨b', o' + j, none⟩ = some (.int .i64 v) := by rw [hbx.out.cell (p := ⟨b', o' + j, none⟩) (Nat.lt_of_lt_of_le hbB' hB)]; exact hc'
                    have HV := hide hv
                    clear hv hc'
                    by_cases e : v < x ↔ (j : Int) < y
                    · have ht : (decide (v < x) == decide ((j : Int) < y)) = true := by simp [e]
                      have hst := hide (fits_step hpp.out hjl (by rw [← HV.out]; exact e))
                      clear e
                      go_wp2_with fail
                      go_quiet (fail)
                      go_wp2_with fail
                      go_roundw
                      case rel => exact ⟨j + 1, q + nq, by omega, by go_num, hst, rfl⟩
                      case measure => simp [intOf]; omega
                    · have ht : (decide (v < x) == decide ((j : Int) < y)) = false := by
                        rw [beq_eq_false_iff_ne]
                        intro h
                        exact e (by rw [← decide_eq_decide]; exact h)
                      have hf := hide (show b0 = false by
                        rw [HB.out]
                        refine pvs_bad hlt fun h => e ?_
                        have h3 := h.2.2.2.2 j hjl
                        rw [← HP.out, ← HV.out] at h3
                        exact h3)
                      clear e
                      go_wp2_with fail
                      go_quiet (fail)
                      go_wp2_with fail
                      go_ret
                      exact ⟨by rw [hf.out]; rfl, below_drewN (below_drewN hbx.out _) _⟩
                  · have hje : j = l.length := by omega
                    subst hje
                    have hok := hide (pvPre_step hpre.out hlt (HK.out ⟨hc2.1, hc2.2, fun m hm => hpp.out m hm hm⟩))
                    go_wp2_with fail
                    go_roundw
                    case rel => exact ⟨k' + 1 + 1, by omega, by go_num, hok, below_drewN hbx.out _⟩
                    case measure => simp [intOf]; omega
        · have C1 := hide (fun (W : World) => same_back (in_yes x (-1000) 1000 W c1.1 c1.2))
          have C2 := hide (fun (W : World) => same_back (in_no y 0 l.length W (by omega)))
          have hf := hide (show b0 = false by
            rw [HB.out]
            refine pvs_bad hlt fun h => c2 ?_
            have h3 := h.2.2
            rw [← HP.out] at h3
            exact ⟨h3.1, h3.2.1⟩)
          clear c1 c2
          go_quiet (first | (go_at_call 81; with_reducible exact Calls.quiet_of_same (C1.out _)) | (go_at_call 81; with_reducible exact Calls.quiet_of_same (C2.out _)))
          go_wp2_with fail
          go_ret
          exact ⟨by rw [hf.out]; rfl, below_drewN hbx.out _⟩
      · have C1 := hide (fun (W : World) => same_back (in_no x (-1000) 1000 W (by omega)))
        have hf := hide (show b0 = false by
          rw [HB.out]
          refine pvs_bad hlt fun h => c1 ?_
          have h1 := prevV_low hpre.out hk
          have h2 := h.1
          have h3 := h.2.1
          rw [← HP.out] at h2 h3
          simp only at h2 h3
          omega)
        clear c1
        go_quiet ((go_at_call 81; with_reducible exact Calls.quiet_of_same (C1.out _)))
        go_wp2_with fail
        go_ret
        exact ⟨by rw [hf.out]; rfl, below_drewN hbx.out _⟩
    · have hke : k = ps.length := by omega
      subst hke
      have hf := hide (show b0 = true by rw [HB.out]; exact pvPre_all hpre.out)
      go_wp2_with fail
      go_ret
      exact ⟨by rw [hf.out]; rfl, hb⟩

end Go.Proofs.Ytepkkeclkdlheaa
