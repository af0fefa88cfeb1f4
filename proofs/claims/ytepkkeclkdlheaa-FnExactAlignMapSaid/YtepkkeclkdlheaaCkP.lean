/- What IsCracker of the program returns: the pivots' check, and the whole (promise 3). -/
import Derived.Test.YtepkkeclkdlheaaCkJ
import Derived.Test.YtepkkeclkdlheaaCkE
import Derived.Deep.RegionHeld3
namespace Go.Proofs.Ytepkkeclkdlheaa
open Go.RowKit Go.ChangeShapes
set_option linter.unusedSimpArgs false
set_option linter.unusedVariables false
set_option maxRecDepth 100000

theorem pvOk_of {l : List Int} {ps : List Pv} {k : Nat} (hk : k < ps.length) {x y : Int} (hp : (x, y) = ps[k]) {c0 c1 : Nat} (hc : (c0, c1) = cntL l x y l.length) : PvOk l ps k hk ↔ prevV ps k < x ∧ x ≤ 1000 ∧ (c0 : Int) = y ∧ c1 = 0 := by
  unfold PvOk
  rw [← hp]
  simp only
  rw [← fits_iff, ← hc]

set_option maxHeartbeats 4000000 in
theorem iHold_any (v : Value) (l r : List Int) (ps : List Pv) (w : World) (B : Nat) (hv : Ck w B v l r ps) (hB : B ≤ w.heap.size) :
    Calls Try.prog 144 #[v] w (RetB1 w (pvsOk l ps)) := by
  obtain ⟨a1, c1, a2, c2, a3, c3, rfl, i1, i2, i3⟩ := hv.form
  have X := hide (Kn.one w #[.slice a1 l.length c1, .slice a2 r.length c2, .slice a3 ps.length c3] 25)
  obtain ⟨w1, hw1⟩ : ∃ w1, w1 = w.alloc (.cells #[.slice a1 l.length c1, .slice a2 r.length c2, .slice a3 ps.length c3] 25) := ⟨_, rfl⟩
  rw [← hw1] at X
  have HI1 := hide (fun (W : World) (h : Below w.heap.size w W) => i1.below h hB)
  have HI3 := hide (fun (W : World) (h : Below w.heap.size w W) => i3.below h hB)
  have hpl : ps.length ≤ 9223372036854775807 := by obtain ⟨_, _, _, h, _⟩ := i3; exact h
  clear i1 i2 i3 hv
  obtain ⟨b0, hb0⟩ : ∃ b0, b0 = pvsOk l ps := ⟨_, rfl⟩
  rw [← hb0]
  have HB := hide hb0
  clear hb0
  have d2 : w1.cell? ⟨w.heap.size, 2, none⟩ = some (.slice a3 ps.length c3) := X.out.cell 0 2 rfl rfl
  go_enter Try.func144, Try.ntmps144
  go_wp2_with fail
  rw [← hw1]
  clear hw1
  go_wp2_with fail
  clear d2
  go_loopw [3, 10] (fun q i wr => ∃ (k : Nat) (z : Int), k ≤ ps.length ∧ i = .int .i64 k ∧ q = .int .i64 z ∧ z = prevV ps k + 1 ∧ Hid (PvPre l ps k) ∧ Hid (Kn w wr [(w.heap.size, #[.slice a1 l.length c1, .slice a2 r.length c2, .slice a3 ps.length c3], 25)])) (fun _ i _ => ps.length - (intOf i).toNat)
  case atStart => exact ⟨0, -1000, by omega, rfl, rfl, by unfold prevV; simp, pvPre_zero l ps, X.out⟩
  case round =>
    clear X
    obtain ⟨k, z, hk, rfl, rfl, hz, hpre, Y⟩ := hrel
    by_cases hlt : k < ps.length
    · have hi := HI3.out _ Y.out.below
      obtain ⟨a', c', he, _, _, hcell⟩ := hi
      obtain ⟨rfl, rfl⟩ : a3 = a' ∧ c3 = c' := by
        simp only [Value.slice.injEq] at he
        exact ⟨he.1, he.2.2⟩
      obtain ⟨b, o, rfl, hbB, hc, hc2⟩ := hcell k hlt
      obtain ⟨p, hp⟩ : ∃ p, p = ps[k] := ⟨_, rfl⟩
      rw [← hp] at hc hc2
      obtain ⟨x, y⟩ := p
      simp only at hc hc2
      obtain ⟨n, hn⟩ : ∃ n, n = cntL l x y l.length := ⟨_, rfl⟩
      obtain ⟨n0, n1⟩ := n
      have hokk := pvOk_of hlt hp hn
      have HC := hide (fun (W : World) (v : Value) (h : Ints W B v l) (hB : B ≤ W.heap.size) => iCntLess_any v l x y W B h hB)
      rw [← hn] at HC
      have hpv := prevV_succ ps k hlt
      rw [← hp] at hpv
      simp only at hpv
      have hlow := prevV_low hpre.out hk
      have hhigh := prevV_high hpre.out hk
      clear he hcell hp hn
      have Z := hide ((Y.out.alloc #[.int .i64 x, .int .i64 y] 147).alloc #[.int .i64 y, .int .i64 0] 189)
      obtain ⟨wx, hwx⟩ : ∃ wx, wx = (wr.alloc (.cells #[.int .i64 x, .int .i64 y] 147)).alloc (.cells #[.int .i64 y, .int .i64 0] 189) := ⟨_, rfl⟩
      have hsz : (wr.alloc (.cells #[.int .i64 x, .int .i64 y] 147)).heap.size = wr.heap.size + 1 := by simp
      rw [← hwx, hsz] at Z
      clear hsz
      go_wp2_with fail
      rw [← hwx]
      clear hwx hc hc2
      obtain ⟨g, hg⟩ : ∃ g, g = wr.heap.size := ⟨_, rfl⟩
      rw [← hg] at Z ⊢
      clear hg
      simp only [List.nil_append, List.cons_append] at Z
      have z0 : wx.cell? ⟨g, 0, none⟩ = some (.int .i64 x) := Z.out.cell 1 0 rfl rfl
      have z1 : wx.cell? ⟨g, 1, none⟩ = some (.int .i64 y) := Z.out.cell 1 1 rfl rfl
      have z2 : wx.cell? ⟨g + 1, 0, none⟩ = some (.int .i64 y) := Z.out.cell 2 0 rfl rfl
      have z3 : wx.cell? ⟨g + 1, 1, none⟩ = some (.int .i64 0) := Z.out.cell 2 1 rfl rfl
      have z4 : wx.cell? ⟨w.heap.size, 0, none⟩ = some (.slice a1 l.length c1) := Z.out.cell 0 0 rfl rfl
      by_cases e1 : x < z
      · have hf := hide (show b0 = false by rw [HB.out]; exact pvs_bad hlt (fun h => by have := (hokk.1 h).1; omega))
        have t1 : decide (x < z) = true := by simp; omega
        clear e1 hokk hpv hz
        go_quiet (fail)
        go_wp2_with fail
        go_ret
        exact ⟨by rw [hf.out]; rfl, (Z.out.drewN _).below⟩
      · have t1 : decide (x < z) = false := by simp; omega
        by_cases e2 : 1000 < x
        · have hf := hide (show b0 = false by rw [HB.out]; exact pvs_bad hlt (fun h => by have := (hokk.1 h).2.1; omega))
          have t2 : decide (1000 < x) = true := by simp; omega
          clear e1 e2 hokk hpv hz
          go_quiet (fail)
          go_wp2_with fail
          go_ret
          exact ⟨by rw [hf.out]; rfl, (Z.out.drewN _).below⟩
        · have t2 : decide (1000 < x) = false := by simp; omega
          have hx1 : x + 1 ≤ 1001 := by omega
          have hx2 : -1000 ≤ x := by omega
          by_cases e3 : (n0 : Int) = y ∧ n1 = 0
          · have hok := hide (pvPre_step hpre.out hlt (hokk.2 ⟨by omega, by omega, e3⟩))
            have t3 : ((n0 : Int) == y) = true := by simp; omega
            have t4 : ((n1 : Int) == 0) = true := by simp; omega
            clear e1 e2 e3 hokk hz
            go_region_with (go_at_call 172; refine (HC.out _ _ (HI1.out _ Z.out.drew.below) (Nat.le_trans hB Z.out.drew.below.size)).mono ?_; rintro e wa ⟨rfl, hb⟩; have Z5 := hide (Z.out.drew.up hb); have y2 : wa.cell? ⟨g + 1, 0, none⟩ = some (.int .i64 y) := Z5.out.cell 2 0 rfl rfl; have y3 : wa.cell? ⟨g + 1, 1, none⟩ = some (.int .i64 0) := Z5.out.cell 2 1 rfl rfl; have y0 : wa.cell? ⟨g, 0, none⟩ = some (.int .i64 x) := Z5.out.cell 1 0 rfl rfl)
            all_goals go_wp2_with fail
            all_goals go_roundw
            all_goals first
              | exact ⟨k + 1, x + 1, by omega, by go_num, rfl, by omega, hok.out, Z5.out.sub (List.sublist_append_left _ [_, _])⟩
              | (simp [intOf]; omega)
          · have hf := hide (show b0 = false by rw [HB.out]; exact pvs_bad hlt (fun h => e3 (hokk.1 h).2.2))
            have t3 : (((n0 : Int) == y) && ((n1 : Int) == 0)) = false := by
              by_cases h0 : (n0 : Int) = y
              · have : ¬ n1 = 0 := fun h1 => e3 ⟨h0, h1⟩
                simp [h0]; omega
              · simp [h0]
            clear e1 e2 e3 hokk hz
            go_region_with (go_at_call 172; refine (HC.out _ _ (HI1.out _ Z.out.drew.below) (Nat.le_trans hB Z.out.drew.below.size)).mono ?_; rintro e wa ⟨rfl, hb⟩; have Z5 := hide (Z.out.drew.up hb); have y2 : wa.cell? ⟨g + 1, 0, none⟩ = some (.int .i64 y) := Z5.out.cell 2 0 rfl rfl; have y3 : wa.cell? ⟨g + 1, 1, none⟩ = some (.int .i64 0) := Z5.out.cell 2 1 rfl rfl; have y0 : wa.cell? ⟨g, 0, none⟩ = some (.int .i64 x) := Z5.out.cell 1 0 rfl rfl)
            all_goals go_wp2_with fail
            all_goals go_ret
            all_goals exact ⟨by rw [hf.out]; rfl, Z5.out.below⟩
    · have hke : k = ps.length := by omega
      subst hke
      have hf := hide (show b0 = true by rw [HB.out]; exact pvPre_all hpre.out)
      go_wp2_with fail
      go_ret
      exact ⟨by rw [hf.out]; rfl, Y.out.below⟩

end Go.Proofs.Ytepkkeclkdlheaa
