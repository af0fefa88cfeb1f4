/- What IsCracker of the program returns: the pivots, and the whole column (promise 3). -/
import Derived.Test.YtepkkeclkdlheaaCkI
import Derived.Test.YtepkkeclkdlheaaNameI
namespace Go.Proofs.Ytepkkeclkdlheaa
open Go.RowKit Go.ChangeShapes
set_option linter.unusedSimpArgs false
set_option linter.unusedVariables false
set_option maxRecDepth 100000

/-- Two numbers in an array are returned; nothing that was there has turned. -/
def RetA2 (w : World) (p : Nat × Nat) (e : Ending) (w' : World) : Prop := e = .returned (.agg #[.int .i64 p.1, .int .i64 p.2]) ∧ Below w.heap.size w w'

set_option maxHeartbeats 2000000 in
theorem iCntLess_any (v : Value) (l : List Int) (x y : Int) (w : World) (B : Nat) (hv : Ints w B v l) (hB : B ≤ w.heap.size) :
    Calls Try.prog 172 #[v, .agg #[.int .i64 x, .int .i64 y]] w (RetA2 w (cntL l x y l.length)) := by
  have HI := hide (fun (W : World) (h : Below w.heap.size w W) => hv.below h hB)
  obtain ⟨a, cap, rfl, hlen, -, -⟩ := hv
  have X := hide (Kn.three w #[.int .i64 x, .int .i64 y] #[.int .i64 0, .int .i64 0] #[.int .i64 0, .int .i64 0] 147 189 189)
  obtain ⟨w1, hw1⟩ : ∃ w1, w1 = ((w.alloc (.cells #[.int .i64 x, .int .i64 y] 147)).alloc (.cells #[.int .i64 0, .int .i64 0] 189)).alloc (.cells #[.int .i64 0, .int .i64 0] 189) := ⟨_, rfl⟩
  rw [← hw1] at X
  go_enter Try.func172, Try.ntmps172
  go_wp2_with fail
  rw [← hw1]
  clear hw1
  go_loopw [10] (fun i wr => ∃ (k c0 c1 : Nat), k ≤ l.length ∧ i = .int .i64 k ∧ Hid ((c0, c1) = cntL l x y k) ∧ Hid (Kn w wr [(w.heap.size, #[.int .i64 x, .int .i64 y], 147), (w.heap.size + 1, #[.int .i64 0, .int .i64 0], 189), (w.heap.size + 1 + 1, #[.int .i64 c0, .int .i64 c1], 189)])) (fun i _ => l.length - (intOf i).toNat)
  case atStart => exact ⟨0, 0, 0, by omega, rfl, rfl, X.out⟩
  case round =>
    clear X
    obtain ⟨k, c0, c1, hk, rfl, hc, Y⟩ := hrel
    have hle := cntL_le l x y k
    rw [← hc.out] at hle
    obtain ⟨hl0, hl1⟩ := hle
    simp only at hl0 hl1
    have p0 : wr.cell? ⟨w.heap.size, 0, none⟩ = some (.int .i64 x) := Y.out.cell 0 0 rfl rfl
    have p1 : wr.cell? ⟨w.heap.size, 1, none⟩ = some (.int .i64 y) := Y.out.cell 0 1 rfl rfl
    have q0 : wr.cell? ⟨w.heap.size + 1 + 1, 0, none⟩ = some (.int .i64 c0) := Y.out.cell 2 0 rfl rfl
    have q1 : wr.cell? ⟨w.heap.size + 1 + 1, 1, none⟩ = some (.int .i64 c1) := Y.out.cell 2 1 rfl rfl
    have f0 := Y.out.free 2 0 rfl
    have f1 := Y.out.free 2 1 rfl
    by_cases hlt : k < l.length
    · have hi := HI.out _ Y.out.below
      obtain ⟨a', c', he, _, _, hcell⟩ := hi
      obtain ⟨rfl, rfl⟩ : a = a' ∧ cap = c' := by
        simp only [Value.slice.injEq] at he
        exact ⟨he.1, he.2.2⟩
      obtain ⟨b, o, rfl, hbB, hcv⟩ := hcell k hlt
      obtain ⟨v, hv⟩ : ∃ v, v = l[k] := ⟨_, rfl⟩
      rw [← hv] at hcv
      have hst := cntL_succ l x y k
      rw [← hc.out, show l.getD k 0 = v by rw [hv, List.getD_eq_getElem?_getD, List.getElem?_eq_getElem hlt]; rfl] at hst
      simp only at hst
      clear he hcell hv
      by_cases e1 : x ≤ v
      · have hn := hide (show (c0, c1) = cntL l x y (k + 1) by rw [hst, if_pos e1])
        have t1 : decide (v ≥ x) = true := by simp; omega
        clear hst
        go_wp2_with fail
        go_roundw
        case rel => exact ⟨k + 1, c0, c1, by omega, by go_num, hn, Y.out⟩
        case measure => simp [intOf]; omega
      · have t1 : decide (x ≤ v) = false := by simp; omega
        by_cases e2 : (k : Int) < y
        · have hn := hide (show (c0 + 1, c1) = cntL l x y (k + 1) by rw [hst, if_neg e1, if_pos e2])
          have t2 : decide ((k : Int) < y) = true := by simp; omega
          have Z := hide (Y.out.set 2 0 rfl (.int .i64 ((c0 + 1 : Nat) : Int)))
          clear hst
          go_wp2_with fail
          go_roundw
          case rel => exact ⟨k + 1, c0 + 1, c1, by omega, by go_num, hn, Z.out⟩
          case measure => simp [intOf]; omega
        · have hn := hide (show (c0, c1 + 1) = cntL l x y (k + 1) by rw [hst, if_neg e1, if_neg e2])
          have t2 : decide ((k : Int) < y) = false := by simp; omega
          have Z := hide (Y.out.set 2 1 rfl (.int .i64 ((c1 + 1 : Nat) : Int)))
          clear hst
          go_wp2_with fail
          go_roundw
          case rel => exact ⟨k + 1, c0, c1 + 1, by omega, by go_num, hn, Z.out⟩
          case measure => simp [intOf]; omega
    · have hke : k = l.length := by omega
      subst hke
      have r0 : wr.cell? ⟨w.heap.size + 1, 0, none⟩ = some (.int .i64 0) := Y.out.cell 1 0 rfl rfl
      have r1 : wr.cell? ⟨w.heap.size + 1, 1, none⟩ = some (.int .i64 0) := Y.out.cell 1 1 rfl rfl
      have g0 := Y.out.free 1 0 rfl
      have g1 := Y.out.free 1 1 rfl
      have Z := (Y.out.set 1 0 rfl (.int .i64 c0)).set 1 1 rfl (.int .i64 c1)
      have z0 := Z.cell 1 0 rfl rfl
      have z1 := Z.cell 1 1 rfl rfl
      go_wp2_with fail
      rw [← hc.out]
      exact bodyPost_ret (v := .agg #[.int .i64 c0, .int .i64 c1]) (by simp [results, Try.results172, go_sem, z0, z1]) rfl ⟨rfl, Z.below⟩

end Go.Proofs.Ytepkkeclkdlheaa
