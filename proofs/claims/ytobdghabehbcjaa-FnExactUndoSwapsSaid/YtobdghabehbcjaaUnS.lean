/- What UndoSwaps of the reference returns (promise 3). -/
import Derived.Test.YtobdghabehbcjaaApS
import Derived.Test.YtobdghabehbcjaaPtS
namespace Go.Proofs.Ytobdghabehbcjaa
open Go.RowKit Go.ChangeShapes
set_option linter.unusedSimpArgs false
set_option linter.unusedVariables false
set_option maxRecDepth 100000

theorem rev_drop (sw : List Pv) (k : Nat) (h : k < sw.length) : (sw.drop k).reverse = (sw.drop (k + 1)).reverse ++ [sw[k]] := by
  rw [List.drop_eq_getElem_cons h, List.reverse_cons]

set_option maxHeartbeats 4000000 in
theorem sUndo_any (v sv : Value) (l r : List Int) (ps sw : List Pv) (w : World) (B : Nat) (hv : Ck w B v l r ps) (hs : Pvs w B sv sw) (hB : B ≤ w.heap.size) (hl : l.length ≤ 1048576) (hr : r.length ≤ 1048576) (hp : ps.length ≤ 1048576) (hsl : sw.length ≤ 1048576) :
    Calls Try.prog 41 #[v, sv] w (RetOCB w (apL l r sw.reverse) (apR l r sw.reverse) ps (canSwap l r sw.reverse)) := by
  obtain ⟨a1, c1, a2, c2, a3, c3, rfl, -⟩ := hv.form
  have HA := hide (fun (W : World) (sv : Value) (h1 : Below w.heap.size w W) (h2 : Pvs W W.heap.size sv sw.reverse) => sApply_any _ sv l r ps sw.reverse W W.heap.size ((hv.below h1 hB).mono (Nat.le_trans hB h1.size)) h2 (Nat.le_refl _) hl hr hp)
  obtain ⟨LL, hLL⟩ : ∃ LL, LL = apL l r sw.reverse := ⟨_, rfl⟩
  obtain ⟨RR, hRR⟩ : ∃ RR, RR = apR l r sw.reverse := ⟨_, rfl⟩
  obtain ⟨t, ht⟩ : ∃ t, t = canSwap l r sw.reverse := ⟨_, rfl⟩
  rw [← hLL, ← hRR, ← ht] at HA ⊢
  clear hLL hRR ht
  obtain ⟨ad, cap, rfl, hlen, hwf, hcell⟩ := hs
  have HCC := hide hcell
  have HW := hide hwf
  clear hcell hwf
  have V := hide hv
  clear hv
  have X0 := Kn.two w #[.slice a1 l.length c1, .slice a2 r.length c2, .slice a3 ps.length c3] #[.slice none 0 0, .slice none 0 0, .slice none 0 0] 32 32
  obtain ⟨w0, hw0⟩ : ∃ w1, w1 = (w.alloc (.cells #[.slice a1 l.length c1, .slice a2 r.length c2, .slice a3 ps.length c3] 32)).alloc (.cells #[.slice none 0 0, .slice none 0 0, .slice none 0 0] 32) := ⟨_, rfl⟩
  rw [← hw0] at X0
  have O1 := hide (OwS.made w0 w0.heap.size (Nat.le_refl _))
  have X1 := hide (X0.up (below1 w0 (.cells #[] 37)))
  obtain ⟨w1, hw1⟩ : ∃ w1, w1 = w0.alloc (.cells #[] 37) := ⟨_, rfl⟩
  rw [← hw1] at O1 X1
  have N0 := hide (show w0.heap.size = w.heap.size + 1 + 1 by rw [hw0]; simp)
  have N1 := hide (show w0.heap.size ≤ w1.heap.size by rw [hw1]; simp)
  have O1 : Hid (OwS w1 w0.heap.size (.slice (some ⟨w.heap.size + 1 + 1, 0, none⟩) 0 0) []) := by rw [← N0.out]; exact O1.out
  go_enter Try.func41, Try.ntmps41
  go_wp2_with fail
  rw [← hw0, ← hw1]
  clear hw0 hw1
  go_loopw [6, 7] (fun u x wr => ∃ (k : Nat) (z : Int), k ≤ sw.length ∧ x = .int .i64 z ∧ z + 1 = (k : Int) ∧ Hid (OwS wr w0.heap.size u (sw.drop k).reverse) ∧ Hid (w0.heap.size ≤ wr.heap.size) ∧ Hid (Kn w wr [(w.heap.size, #[.slice a1 l.length c1, .slice a2 r.length c2, .slice a3 ps.length c3], 32), (w.heap.size + 1, #[.slice none 0 0, .slice none 0 0, .slice none 0 0], 32)])) (fun _ x _ => (intOf x + 1).toNat)
  case atStart => exact ⟨sw.length, _, Nat.le_refl _, rfl, by go_num, by simpa [Hid] using O1.out, N1.out, X1.out⟩
  case round =>
    clear O1 X1 N1
    obtain ⟨k, z, hk, rfl, hz, O, N1, K⟩ := hrel
    by_cases hlt : 0 ≤ z
    · obtain ⟨q, rfl⟩ := Int.eq_ofNat_of_zero_le hlt
      obtain rfl : k = q + 1 := by omega
      have hq : q < sw.length := by omega
      have hrd := hide (rev_drop sw q hq)
      obtain ⟨b1, o1, rfl, hb1, hc1, hc2⟩ := HCC.out q hq
      obtain ⟨p, hp'⟩ : ∃ p, p = sw[q] := ⟨_, rfl⟩
      rw [← hp'] at hc1 hc2
      obtain ⟨x, y⟩ := p
      simp only at hc1 hc2
      have HRD := hide (show (sw.drop q).reverse = (sw.drop (q + 1)).reverse ++ [(x, y)] by rw [hrd.out, ← hp'])
      have d1 : wr.cell? ⟨b1, o1 + q * 2, none⟩ = some (.int .i64 x) := by rw [K.out.below.cell (p := ⟨b1, o1 + q * 2, none⟩) (Nat.lt_of_lt_of_le hb1 hB)]; exact hc1
      have d2 : wr.cell? ⟨b1, o1 + q * 2 + 1, none⟩ = some (.int .i64 y) := by rw [K.out.below.cell (p := ⟨b1, o1 + q * 2 + 1, none⟩) (Nat.lt_of_lt_of_le hb1 hB)]; exact hc2
      obtain ⟨uv, ucap, huf⟩ := O.out.form
      subst huf
      have hln := hide (show (sw.drop (q + 1)).reverse.length < 1099511627776 by simp; omega)
      have i2 : (q : Int) < (sw.length : Int) := by omega
      clear hc1 hc2 hb1 hp' hrd hz
      go_wp2_with (first | (at_builtin; refine os_append _ rfl _ _ rfl w0.heap.size _ _ O.out rfl _ _ _ _ rfl rfl hln.out N1.out ?_; intro v5 w5 hown5 hb5 hq5) | fail)
      have O := hide hown5
      rw [← HRD.out] at O
      have s := hb5.size
      have K := hide (K.out.seg (Seg.of_low hb5) (by have := N0.out; omega) (by intro e he; simp at he; have := N0.out; rcases he with rfl | rfl <;> simp <;> omega))
      have N1 := hide (Nat.le_trans N1.out s)
      clear hown5 hb5 hq5 s
      go_roundw
      case rel => exact ⟨q, _, by omega, rfl, by go_num, O.out, N1.out, K.out⟩
      case measure => simp [intOf]
    · obtain rfl : k = 0 := by omega
      obtain rfl : z = -1 := by omega
      clear hz hlt hk HCC
      rw [List.drop_zero] at O
      obtain ⟨uv, ucap, huf⟩ := O.out.form
      rw [List.length_reverse] at huf
      subst huf
      have HP := hide (O.out.pvs (B := wr.heap.size) (Nat.le_refl _) (by rw [List.length_reverse]; exact hlen) (fun p hp => HW.out p (List.mem_reverse.1 hp)))
      have c0 : wr.cell? ⟨w.heap.size, 0, none⟩ = some (.slice a1 l.length c1) := K.out.cell 0 0 rfl rfl
      have c1' : wr.cell? ⟨w.heap.size, 1, none⟩ = some (.slice a2 r.length c2) := K.out.cell 0 1 rfl rfl
      have c2' : wr.cell? ⟨w.heap.size, 2, none⟩ = some (.slice a3 ps.length c3) := K.out.cell 0 2 rfl rfl
      go_wp2_with fail
      go_at_call 35
      refine (HA.out _ _ K.out.below HP.out).mono ?_
      rintro e w5 ⟨x, y, z', lo, hi, n1, h1, n2, h2, n3, h3, rfl, q1, q2, O5, hb5⟩
      obtain ⟨x1, k1, rfl⟩ := O5.x.form
      obtain ⟨x2, k2, rfl⟩ := O5.y.form
      obtain ⟨x3, k3, rfl⟩ := O5.z.own.form
      have K5 := hide (K.out.up hb5)
      have P3 := hide (Nat.le_trans K.out.below.size q1)
      have P5 := hide (Nat.lt_of_lt_of_le (K.out.lt 1 rfl) q1)
      have O5 := hide O5
      clear c0 c1' c2' hb5 q1 q2 K O HP
      have g0 : w5.cell? ⟨w.heap.size + 1, 0, none⟩ = some (.slice none 0 0) := K5.out.cell 1 0 rfl rfl
      have g1 : w5.cell? ⟨w.heap.size + 1, 1, none⟩ = some (.slice none 0 0) := K5.out.cell 1 1 rfl rfl
      have g2 : w5.cell? ⟨w.heap.size + 1, 2, none⟩ = some (.slice none 0 0) := K5.out.cell 1 2 rfl rfl
      have f0 := K5.out.free 1 0 rfl
      have f1 := K5.out.free 1 1 rfl
      have f2 := K5.out.free 1 2 rfl
      go_wp2_with fail
      have Z := ((K5.out.set 1 0 rfl (.slice x1 LL.length k1)).set 1 1 rfl (.slice x2 RR.length k2)).set 1 2 rfl (.slice x3 ps.length k3)
      have z0 := Z.cell 1 0 rfl rfl
      have z1 := Z.cell 1 1 rfl rfl
      have z2 := Z.cell 1 2 rfl rfl
      have O6 := O5.out.seg (seg3 _ (w.heap.size + 1) (.slice x1 LL.length k1) (.slice x2 RR.length k2) (.slice x3 ps.length k3)) (.inr P5.out)
      exact bodyPost_ret (v := .tuple #[.agg #[.slice x1 LL.length k1, .slice x2 RR.length k2, .slice x3 ps.length k3], .bool t]) (by simp [results, Try.results41, go_sem, z0, z1, z2]) rfl
        ⟨_, _, _, lo, hi, n1, h1, n2, h2, n3, h3, rfl, P3.out, O6.top.2, O6, Z.below⟩

end Go.Proofs.Ytobdghabehbcjaa
