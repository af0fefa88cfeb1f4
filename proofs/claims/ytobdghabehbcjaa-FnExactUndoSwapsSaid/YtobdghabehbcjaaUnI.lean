/- What UndoSwaps of the program returns (promise 3). -/
import Derived.Test.YtobdghabehbcjaaApJ
import Derived.Test.YtobdghabehbcjaaRev
namespace Go.Proofs.Ytobdghabehbcjaa
open Go.RowKit Go.ChangeShapes
set_option linter.unusedSimpArgs false
set_option linter.unusedVariables false
set_option maxRecDepth 100000

set_option maxHeartbeats 4000000 in
theorem iUndo_any (v : Value) (ad : Option Addr) (cap : Nat) (l r : List Int) (ps sw : List Pv) (w : World) (B : Nat) (hv : Ck w B v l r ps) (hs : Pvs w B (.slice ad sw.length cap) sw) (hn : ad = none → cap = 0) (hB : B ≤ w.heap.size) (hl : l.length ≤ 1048576) (hr : r.length ≤ 1048576) (hp : ps.length ≤ 1048576) (hsl : sw.length ≤ 1048576) :
    Calls Try.prog 16 #[v, .slice ad sw.length cap] w (RetOCB w (apL l r sw.reverse) (apR l r sw.reverse) ps (canSwap l r sw.reverse)) := by
  obtain ⟨a1, c1, a2, c2, a3, c3, rfl, -⟩ := hv.form
  have HA := hide (fun (W : World) (sv : Value) (h1 : Below w.heap.size w W) (h2 : Pvs W W.heap.size sv sw.reverse) => iApply_any _ sv l r ps sw.reverse W W.heap.size ((hv.below h1 hB).mono (Nat.le_trans hB h1.size)) h2 (Nat.le_refl _) hl hr hp)
  obtain ⟨LL, hLL⟩ : ∃ LL, LL = apL l r sw.reverse := ⟨_, rfl⟩
  obtain ⟨RR, hRR⟩ : ∃ RR, RR = apR l r sw.reverse := ⟨_, rfl⟩
  obtain ⟨t, ht⟩ : ∃ t, t = canSwap l r sw.reverse := ⟨_, rfl⟩
  rw [← hLL, ← hRR, ← ht] at HA ⊢
  clear hLL hRR ht
  have HW : Hid (∀ p ∈ sw, I64 p.1 ∧ I64 p.2) := by
    obtain ⟨_, _, _, _, hwf, _⟩ := hs
    exact hwf
  have CC := hide (fun (W : World) (h : Below w.heap.size w W) => clone_s ad cap sw W B (hs.below h hB) hn (Nat.le_trans hB h.size) hsl)
  clear hs hn hv
  have X := hide (Kn.two w #[.slice a1 l.length c1, .slice a2 r.length c2, .slice a3 ps.length c3] #[.slice none 0 0, .slice none 0 0, .slice none 0 0] 32 32)
  obtain ⟨w1, hw1⟩ : ∃ w1, w1 = (w.alloc (.cells #[.slice a1 l.length c1, .slice a2 r.length c2, .slice a3 ps.length c3] 32)).alloc (.cells #[.slice none 0 0, .slice none 0 0, .slice none 0 0] 32) := ⟨_, rfl⟩
  have hz1 := hide (show w1.heap.size = w.heap.size + 1 + 1 by rw [hw1]; simp)
  rw [← hw1] at X
  go_enter Try.func16, Try.ntmps16
  go_wp2_with fail
  rw [← hw1]
  clear hw1
  go_at_call 53
  refine (CC.out _ X.out.below).mono ?_
  rintro e w2 ⟨u, rfl, O, hb⟩
  obtain ⟨g, k, rfl⟩ := O.form
  have X := hide (X.out.up hb)
  have O := hide (Osw.of O hb.size)
  clear hb
  go_wp2_with fail
  go_at_call 54
  refine (reverse_s _ sw _ _ w2 O.out hsl).mono ?_
  rintro e w3 ⟨⟨u, rfl⟩, O3, s⟩
  have X := hide (X.out.seg s (by have := hz1.out; omega) (by intro e he; simp at he; have := hz1.out; rcases he with rfl | rfl <;> simp <;> omega))
  have HP := hide (O3.own.pvs (B := w3.heap.size) (Nat.le_refl _) (by rw [List.length_reverse]; omega) (fun p hp => HW.out p (List.mem_reverse.1 hp)))
  clear s O O3
  have c0 : w3.cell? ⟨w.heap.size, 0, none⟩ = some (.slice a1 l.length c1) := X.out.cell 0 0 rfl rfl
  have c1' : w3.cell? ⟨w.heap.size, 1, none⟩ = some (.slice a2 r.length c2) := X.out.cell 0 1 rfl rfl
  have c2' : w3.cell? ⟨w.heap.size, 2, none⟩ = some (.slice a3 ps.length c3) := X.out.cell 0 2 rfl rfl
  go_wp2_with fail
  go_at_call 15
  refine (HA.out _ _ X.out.below HP.out).mono ?_
  rintro e w5 ⟨x, y, z', lo, hi, n1, h1, n2, h2, n3, h3, rfl, q1, q2, O5, hb5⟩
  obtain ⟨x1, k1, rfl⟩ := O5.x.form
  obtain ⟨x2, k2, rfl⟩ := O5.y.form
  obtain ⟨x3, k3, rfl⟩ := O5.z.own.form
  have K5 := hide (X.out.up hb5)
  have P3 := hide (Nat.le_trans X.out.below.size q1)
  have P5 := hide (Nat.lt_of_lt_of_le (X.out.lt 1 rfl) q1)
  have O5 := hide O5
  clear c0 c1' c2' hb5 q1 q2 X HP
  have g0 : w5.cell? ⟨w.heap.size + 1, 0, none⟩ = some (.slice none 0 0) := K5.out.cell 1 0 rfl rfl
  have g1 : w5.cell? ⟨w.heap.size + 1, 1, none⟩ = some (.slice none 0 0) := K5.out.cell 1 1 rfl rfl
  have g2 : w5.cell? ⟨w.heap.size + 1, 2, none⟩ = some (.slice none 0 0) := K5.out.cell 1 2 rfl rfl
  have f0 := K5.out.free 1 0 rfl
  have f1 := K5.out.free 1 1 rfl
  have f2 := K5.out.free 1 2 rfl
  go_wp2_with fail
  have Z := ((K5.out.set 1 0 rfl (.slice x1 LL.length k1)).set 1 1 rfl (.slice x2 RR.length k2)).set 1 2 rfl (.slice x3 ps.length k3)
  have z0 := Z.cell 1 0 rfl rfl
  have z1 := Z.cell 1 1 rfl rfl
  have z2 := Z.cell 1 2 rfl rfl
  have O6 := O5.out.seg (seg3 _ (w.heap.size + 1) (.slice x1 LL.length k1) (.slice x2 RR.length k2) (.slice x3 ps.length k3)) (.inr P5.out)
  exact bodyPost_ret (v := .tuple #[.agg #[.slice x1 LL.length k1, .slice x2 RR.length k2, .slice x3 ps.length k3], .bool t]) (by simp [results, Try.results16, go_sem, z0, z1, z2]) rfl
    ⟨_, _, _, lo, hi, n1, h1, n2, h2, n3, h3, rfl, P3.out, O6.top.2, O6, Z.below⟩

end Go.Proofs.Ytobdghabehbcjaa
