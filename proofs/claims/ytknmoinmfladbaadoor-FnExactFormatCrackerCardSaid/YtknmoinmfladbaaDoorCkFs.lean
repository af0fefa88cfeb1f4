/- What FormatCracker of the reference returns (promise 3). -/
import Derived.Test.YtknmoinmfladbaaDoorCkW
namespace Go.Proofs.YtknmoinmfladbaaDoor
open Go.RowKit Go.ChangeShapes
set_option linter.unusedSimpArgs false
set_option linter.unusedVariables false
set_option maxRecDepth 100000

theorem extract_tail (x : UInt8) (J : List UInt8) : (ByteArray.mk (x :: J).toArray).extract 1 (J.length + 1) = ⟨J.toArray⟩ := by
  apply ByteArray.ext
  apply Array.toList_inj.1
  rw [Lib.extract_data]
  simp

set_option maxHeartbeats 4000000 in
theorem sFmtCk_any (v : Value) (l r : List Int) (ps : List Pv) (w : World) (B : Nat) (hv : Ck w B v l r ps) (hB : B ≤ w.heap.size) :
    Calls Tryd.prog 5 #[v] w (RetS w (fmtCk l r ps)) := by
  obtain ⟨a1, c1, a2, c2, a3, c3, rfl, i1, i2, i3⟩ := hv.form
  have X := hide (Kn.one w #[.slice a1 l.length c1, .slice a2 r.length c2, .slice a3 ps.length c3] 30)
  obtain ⟨w1, hw1⟩ : ∃ w1, w1 = w.alloc (.cells #[.slice a1 l.length c1, .slice a2 r.length c2, .slice a3 ps.length c3] 30) := ⟨_, rfl⟩
  rw [← hw1] at X
  have HI1 := hide (fun (W : World) (h : Below w.heap.size w W) => i1.below h hB)
  have HI3 := hide (fun (W : World) (h : Below w.heap.size w W) => i3.below h hB)
  have HV := hide (fun (W : World) (h : Below w.heap.size w W) => hv.below h hB)
  clear i1 i2 i3 hv
  obtain ⟨b0, hb0⟩ : ∃ b0, b0 = fmtCk l r ps := ⟨_, rfl⟩
  rw [← hb0]
  unfold fmtCk at hb0
  obtain ⟨t, ht⟩ : ∃ t, t = isCk l r ps := ⟨_, rfl⟩
  rw [← ht] at hb0
  have HB := hide hb0
  have HT := hide ht
  clear hb0 ht
  have d0 : w1.cell? ⟨w.heap.size, 0, none⟩ = some (.slice a1 l.length c1) := X.out.cell 0 0 rfl rfl
  have d1 : w1.cell? ⟨w.heap.size, 1, none⟩ = some (.slice a2 r.length c2) := X.out.cell 0 1 rfl rfl
  have d2 : w1.cell? ⟨w.heap.size, 2, none⟩ = some (.slice a3 ps.length c3) := X.out.cell 0 2 rfl rfl
  go_enter Tryd.func5, Tryd.ntmps5
  go_wp2_with fail
  rw [← hw1]
  clear hw1
  go_at_call 11
  refine (sIsCk_any _ l r ps _ B (HV.out _ X.out.below) (Nat.le_trans hB X.out.below.size)).mono ?_
  rintro e w2 ⟨rfl, hb⟩
  rw [← HT.out]
  have X := hide (X.out.up hb)
  clear hb d0 d1 d2
  cases t
  · have hf := hide (show b0 = [] by rw [HB.out]; rfl)
    go_wp2_with fail
    go_ret
    exact ⟨by rw [hf.out]; rfl, X.out.below⟩
  · have HF := hide (show b0 = if wds l ps ps.length l.length = [] then [110, 111, 110, 101] else Lib.join (wds l ps ps.length l.length) [32] by rw [HB.out]; rfl)
    have HS := hide (isCk_parts HT.out.symm).2.2.2
    have hll := areVals_len (isCk_parts HT.out.symm).1
    have hpc := pv_count HS.out
    have HWB := hide (fun k i hk hs hi => wds_bound HT.out.symm k i hk hs hi)
    clear HB
    go_wp2_with fail
    go_loopw [3, 4, 5] (fun s p i wr => ∃ (k n : Nat) (L : List UInt8), n ≤ l.length + 1 ∧ k ≤ ps.length ∧ i = .int .i64 n ∧ p = .int .i64 k ∧ s = .string ⟨L.toArray⟩ ∧ Hid (L = preW (wds l ps k (min n l.length))) ∧ Hid (stP ps k ≤ min n l.length ∧ ∀ h : k < ps.length, n ≤ stP ps (k + 1)) ∧ Hid (Kn w wr [(w.heap.size, #[.slice a1 l.length c1, .slice a2 r.length c2, .slice a3 ps.length c3], 30)])) (fun _ _ i _ => l.length + 1 - (intOf i).toNat)
    case atStart => exact ⟨0, 0, [], by omega, by omega, rfl, rfl, rfl, by show _ = _; rw [Nat.zero_min, wds_zero]; rfl, ⟨by simp [stP_zero], fun h => by omega⟩, X.out⟩
    case round =>
      clear X
      obtain ⟨k, n, L, hn, hk, rfl, rfl, rfl, hL, hst, Y⟩ := hrel
      have d0 : wr.cell? ⟨w.heap.size, 0, none⟩ = some (.slice a1 l.length c1) := Y.out.cell 0 0 rfl rfl
      by_cases hlt : n ≤ l.length
      · have hmin : min n l.length = n := by omega
        rw [hmin] at hL hst
        have hL0 := hL
        clear hmin hL
        go_wp2_with fail
        go_loopw [3, 4] (fun s p wi => ∃ (k : Nat) (L : List UInt8), k ≤ ps.length ∧ p = .int .i64 k ∧ s = .string ⟨L.toArray⟩ ∧ Hid (L = preW (wds l ps k n)) ∧ Hid (stP ps k ≤ n ∧ ∀ h : k < ps.length, n ≤ stP ps (k + 1)) ∧ Hid (Kn w wi [(w.heap.size, #[.slice a1 l.length c1, .slice a2 r.length c2, .slice a3 ps.length c3], 30)])) (fun _ p _ => ps.length - (intOf p).toNat)
        case atStart => exact ⟨k, L, hk, rfl, rfl, hL0.out, hst.out, Y.out⟩
        case round =>
          clear hL0 hst Y d0 hk
          obtain ⟨k, L, hk, rfl, rfl, hL, hst, Y⟩ := hrel
          have hLl : L.length ≤ 24 * (2001 + 65) := by
            obtain ⟨q1, q2⟩ := HWB.out k n hk hst.out.1 hlt
            have := preW_len _ q2
            rw [hL.out]
            omega
          have hst0 := hide hst.out.1
          have d0 : wr.cell? ⟨w.heap.size, 0, none⟩ = some (.slice a1 l.length c1) := Y.out.cell 0 0 rfl rfl
          have d2 : wr.cell? ⟨w.heap.size, 2, none⟩ = some (.slice a3 ps.length c3) := Y.out.cell 0 2 rfl rfl
          by_cases hkl : k < ps.length
          · have hi := HI3.out _ Y.out.below
            obtain ⟨a', c', he', _, hwf, hcell⟩ := hi
            obtain ⟨rfl, rfl⟩ : a3 = a' ∧ c3 = c' := by
              simp only [Value.slice.injEq] at he'
              exact ⟨he'.1, he'.2.2⟩
            obtain ⟨b, o, rfl, hbB, hc, hc2⟩ := hcell k hkl
            obtain ⟨h1, h2, h3⟩ := stP_ok HS.out k hkl
            obtain ⟨hx1, hx2⟩ := (hwf _ (List.getElem_mem hkl)).1
            obtain ⟨p, hp⟩ : ∃ p, p = ps[k] := ⟨_, rfl⟩
            rw [← hp] at hc hc2 h3 hx1 hx2
            obtain ⟨x, y⟩ := p
            simp only at hc hc2 h3 hx1 hx2
            subst h3
            obtain ⟨m, hm⟩ : ∃ m, m = stP ps (k + 1) := ⟨_, rfl⟩
            rw [← hm] at hc2
            have HM := hide hm
            have HP := hide hp
            clear he' hcell hp hm hwf h1 h2
            by_cases he : m = n
            · have hil := itoa_len x hx1 hx2
              have hLn := hide (show preW (wds l ps (k + 1) n) = L ++ [32, 91] ++ Lib.itoa x ++ [93] by rw [wds_pivot l ps k n hkl (by rw [← HM.out]; exact he), preW_snoc, ← hL.out, ← HP.out, brk]; simp)
              have hno := hide (show stP ps (k + 1) ≤ n ∧ ∀ h : k + 1 < ps.length, n ≤ stP ps (k + 1 + 1) from ⟨by rw [← HM.out]; omega, fun h => by have := (stP_ok HS.out (k + 1) h).1; have := HM.out; omega⟩)
              subst he
              have t1 : ((m : Int) == (m : Int)) = true := by simp
              go_wp2_with fail
              go_at_call 12
              refine (sFI_any x _ hx1 hx2).mono ?_
              rintro e wa ⟨rfl, hb⟩
              have Y := hide (Y.out.up hb)
              clear hb hc hc2 d0 d2
              go_wp2_with fail
              go_roundw
              case rel => exact ⟨k + 1, L ++ [32, 91] ++ Lib.itoa x ++ [93], by omega, by go_num, by
                refine congrArg Value.string ?_
                rw [strw_app, strw_app, strw_app], hLn.out.symm, hno.out, Y.out⟩
              case measure => simp [intOf]; omega
            · have t1 : ((m : Int) == (n : Int)) = false := by rw [beq_eq_false_iff_ne]; omega
              have hno := hide (show ∀ h : k < ps.length, n + 1 ≤ stP ps (k + 1) from fun h => by have := hst.out.2 h; have := HM.out; omega)
              by_cases hnl : n < l.length
              · have hi := HI1.out _ Y.out.below
                obtain ⟨a', c', he', _, hwf, hcell⟩ := hi
                obtain ⟨rfl, rfl⟩ : a1 = a' ∧ c1 = c' := by
                  simp only [Value.slice.injEq] at he'
                  exact ⟨he'.1, he'.2.2⟩
                obtain ⟨b5, o5, rfl, hb5, hc5⟩ := hcell n hnl
                obtain ⟨x5, hx5⟩ : ∃ x, x = l[n] := ⟨_, rfl⟩
                obtain ⟨hx1, hx2⟩ := hwf _ (List.getElem_mem hnl)
                rw [← hx5] at hc5 hx1 hx2
                have hil := itoa_len x5 hx1 hx2
                have hLn := hide (show preW (wds l ps k (n + 1)) = L ++ [32] ++ Lib.itoa x5 by rw [wds_value l ps k n hst0.out hnl, preW_snoc, ← hL.out, hx5]; simp)
                clear he' hcell hx5 hwf
                go_wp2_with fail
                go_at_call 12
                refine (sFI_any x5 _ hx1 hx2).mono ?_
                rintro e wa ⟨rfl, hb⟩
                have Y := hide (Y.out.up hb)
                clear hb hc5 d0
                go_wp2_with fail
                go_roundw
                case rel => exact ⟨k, n + 1, L ++ [32] ++ Lib.itoa x5, by omega, hk, by go_num, rfl, congrArg Value.string ((congrArg (· ++ (⟨(Lib.itoa x5).toArray⟩ : ByteArray)) (strw_app L [32])).trans (strw_app _ _)), by show _ = _; rw [show min (n + 1) l.length = n + 1 by omega]; exact hLn.out.symm, ⟨by have := hst0.out; omega, hno.out⟩, Y.out⟩
                case measure => simp [intOf]; omega
              · have hne : n = l.length := by omega
                go_wp2_with fail
                go_roundw
                case rel => exact ⟨k, n + 1, L, by omega, hk, by go_num, rfl, rfl, by show _ = _; rw [show min (n + 1) l.length = n by omega]; exact hL.out, ⟨by have := hst0.out; omega, hno.out⟩, Y.out⟩
                case measure => simp [intOf]; omega
          · have hke : k = ps.length := by omega
            subst hke
            have hno := hide (show ∀ h : ps.length < ps.length, n + 1 ≤ stP ps (ps.length + 1) from fun h => by omega)
            by_cases hnl : n < l.length
            · have hi := HI1.out _ Y.out.below
              obtain ⟨a', c', he', _, hwf, hcell⟩ := hi
              obtain ⟨rfl, rfl⟩ : a1 = a' ∧ c1 = c' := by
                simp only [Value.slice.injEq] at he'
                exact ⟨he'.1, he'.2.2⟩
              obtain ⟨b5, o5, rfl, hb5, hc5⟩ := hcell n hnl
              obtain ⟨x5, hx5⟩ : ∃ x, x = l[n] := ⟨_, rfl⟩
              obtain ⟨hx1, hx2⟩ := hwf _ (List.getElem_mem hnl)
              rw [← hx5] at hc5 hx1 hx2
              have hil := itoa_len x5 hx1 hx2
              have hLn := hide (show preW (wds l ps ps.length (n + 1)) = L ++ [32] ++ Lib.itoa x5 by rw [wds_value l ps ps.length n hst0.out hnl, preW_snoc, ← hL.out, hx5]; simp)
              clear he' hcell hx5 hwf
              go_wp2_with fail
              go_at_call 12
              refine (sFI_any x5 _ hx1 hx2).mono ?_
              rintro e wa ⟨rfl, hb⟩
              have Y := hide (Y.out.up hb)
              clear hb hc5 d0
              go_wp2_with fail
              go_roundw
              case rel => exact ⟨ps.length, n + 1, L ++ [32] ++ Lib.itoa x5, by omega, hk, by go_num, rfl, congrArg Value.string ((congrArg (· ++ (⟨(Lib.itoa x5).toArray⟩ : ByteArray)) (strw_app L [32])).trans (strw_app _ _)), by show _ = _; rw [show min (n + 1) l.length = n + 1 by omega]; exact hLn.out.symm, ⟨by have := hst0.out; omega, hno.out⟩, Y.out⟩
              case measure => simp [intOf]; omega
            · have hne : n = l.length := by omega
              go_wp2_with fail
              go_roundw
              case rel => exact ⟨ps.length, n + 1, L, by omega, hk, by go_num, rfl, rfl, by show _ = _; rw [show min (n + 1) l.length = n by omega]; exact hL.out, ⟨by have := hst0.out; omega, hno.out⟩, Y.out⟩
              case measure => simp [intOf]; omega
      · have hne : n = l.length + 1 := by omega
        have hkp : k = ps.length := by
          by_cases h : k < ps.length
          · have h1 := hst.out.2 h
            have h2 := (stP_ok HS.out k h).2.1
            omega
          · omega
        subst hkp
        rw [show min n l.length = l.length by omega] at hL hst
        obtain ⟨hlen1, hlen2⟩ := HWB.out ps.length l.length (Nat.le_refl _) hst.out.1 (Nat.le_refl _)
        obtain ⟨W, hW⟩ : ∃ W, W = wds l ps ps.length l.length := ⟨_, rfl⟩
        rw [← hW] at HF hL hlen1 hlen2
        have hjl := join_len24 W hlen2
        subst hne
        clear hW hlen2 hst
        cases W with
        | nil =>
          have hf := hide (show b0 = [110, 111, 110, 101] by rw [HF.out, if_pos rfl])
          obtain rfl : L = [] := hL.out
          clear hL
          go_wp2_with fail
          go_ret
          exact ⟨by rw [hf.out]; rfl, Y.out.below⟩
        | cons x rr =>
          have hf := hide (show b0 = Lib.join (x :: rr) [32] by rw [HF.out, if_neg (by simp)])
          have hL2 := hL.out
          rw [preW_cons] at hL2
          obtain ⟨J, hJ⟩ : ∃ J, J = Lib.join (x :: rr) [32] := ⟨_, rfl⟩
          rw [← hJ] at hf hL2 hjl
          subst hL2
          have hJl : J.length ≤ 24 * (2001 + 64) := by omega
          clear hJ hL hjl hlen1
          go_wp2_with fail
          go_ret
          exact ⟨by rw [hf.out]; exact congrArg (fun x => Ending.returned (.string x)) (extract_tail 32 J), Y.out.below⟩

end Go.Proofs.YtknmoinmfladbaaDoor
