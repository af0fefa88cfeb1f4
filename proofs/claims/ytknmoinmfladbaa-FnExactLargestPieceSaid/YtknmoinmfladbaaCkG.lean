/- What CountPieces and LargestPiece of the program return: the loops (promise 3). -/
import Derived.Test.YtknmoinmfladbaaCkD
namespace Go.Proofs.Ytknmoinmfladbaa
open Go.RowKit Go.ChangeShapes
set_option linter.unusedSimpArgs false
set_option linter.unusedVariables false
set_option maxRecDepth 100000

theorem lens_eq {l : List Int} {ps : List Pv} (h : PvsOk l ps) : (partsK l ps (ps.length + 1)).map (fun x => (x.length : Int)) = difs (endsP l ps) 0 := by
  have key : ∀ n k, n + k = ps.length + 1 → ((partsK l ps (ps.length + 1)).map (fun x => (x.length : Int))).drop k = difs ((endsP l ps).drop k) (stP ps k) := by
    intro n
    induction n with
    | zero =>
      intro k hk
      rw [List.drop_of_length_le (by simp [partsK_length]; omega), List.drop_of_length_le (by rw [endsP_length]; omega)]
      rfl
    | succ n ih =>
      intro k hk
      have hk1 : k < ((partsK l ps (ps.length + 1)).map (fun x => (x.length : Int))).length := by simp [partsK_length]; omega
      have hk2 : k < (endsP l ps).length := by rw [endsP_length]; omega
      obtain ⟨p1, p2⟩ := partAt_len h k (by omega)
      rw [List.drop_eq_getElem_cons hk1, difs_at _ _ k hk2, ih (k + 1) (by omega)]
      have e1 : ((partsK l ps (ps.length + 1)).map (fun x => (x.length : Int)))[k] = (endsP l ps)[k] - (stP ps k : Int) := by
        rw [List.getElem_map, partsK_get l ps (ps.length + 1) k (by omega)]; exact p1
      rw [e1]
      congr 1
      by_cases hlt : k < ps.length
      · rw [p2 hlt]
      · rw [List.drop_of_length_le (by rw [endsP_length]; omega)]
        rfl
  have := key (ps.length + 1) 0 (by omega)
  simpa [stP_zero] using this

/-- The lengths of the pieces. -/
noncomputable def lensP (l r : List Int) (ps : List Pv) : List Int := (piecesP l r ps).map (fun x => (x.length : Int))

theorem cntPc_lens (l r : List Int) (ps : List Pv) : cntPc l r ps = (cntD (lensP l r ps) : Int) := by
  unfold cntPc lensP piecesP
  split
  · rename_i h
    rw [lens_eq (isCk_parts h).2.2.2]
  · rfl

theorem maxPc_lens (l r : List Int) (ps : List Pv) : maxPc l r ps = maxD (lensP l r ps) 0 := by
  unfold maxPc lensP piecesP
  split
  · rename_i h
    rw [lens_eq (isCk_parts h).2.2.2]
  · rfl

theorem piecesP_length (l r : List Int) (ps : List Pv) : (piecesP l r ps).length ≤ ps.length + 1 := by
  unfold piecesP
  split
  · rw [partsK_length]; exact Nat.le_refl _
  · simp

set_option maxHeartbeats 2000000 in
theorem iCount_any (v : Value) (l r : List Int) (ps : List Pv) (w : World) (B : Nat) (hv : Ck w B v l r ps) (hB : B ≤ w.heap.size) (hp : ps.length ≤ 1048576) :
    Calls Try.prog 27 #[v] w (RetI1 w (cntPc l r ps)) := by
  obtain ⟨a1, c1, a2, c2, a3, c3, rfl, -, -, -⟩ := hv.form
  have HV := hide (fun (W : World) (h : Below w.heap.size w W) => hv.below h hB)
  clear hv
  have X := hide (Kn.one w #[.slice a1 l.length c1, .slice a2 r.length c2, .slice a3 ps.length c3] 25)
  obtain ⟨w1, hw1⟩ : ∃ w1, w1 = w.alloc (.cells #[.slice a1 l.length c1, .slice a2 r.length c2, .slice a3 ps.length c3] 25) := ⟨_, rfl⟩
  rw [← hw1] at X
  obtain ⟨b0, hb0⟩ : ∃ b0, b0 = cntPc l r ps := ⟨_, rfl⟩
  rw [← hb0]
  rw [cntPc_lens] at hb0
  unfold lensP at hb0
  have hpl := piecesP_length l r ps
  have HPC := hide (fun (W : World) (V : Value) (h : Ck W B V l r ps) (hB : B ≤ W.heap.size) => iPieces_any V l r ps W B h hB hp)
  obtain ⟨pp, hpp⟩ : ∃ pp, pp = piecesP l r ps := ⟨_, rfl⟩
  rw [← hpp] at hb0 hpl HPC
  have HB := hide hb0
  clear hb0 hpp
  have d0 : w1.cell? ⟨w.heap.size, 0, none⟩ = some (.slice a1 l.length c1) := X.out.cell 0 0 rfl rfl
  have d1 : w1.cell? ⟨w.heap.size, 1, none⟩ = some (.slice a2 r.length c2) := X.out.cell 0 1 rfl rfl
  have d2 : w1.cell? ⟨w.heap.size, 2, none⟩ = some (.slice a3 ps.length c3) := X.out.cell 0 2 rfl rfl
  go_enter Try.func27, Try.ntmps27
  go_wp2_with fail
  rw [← hw1]
  clear hw1
  go_at_call 50
  refine (HPC.out _ _ (HV.out _ X.out.below) (Nat.le_trans hB X.out.below.size)).mono ?_
  rintro e w2 ⟨v2, rfl, O, hb⟩
  obtain ⟨u, cap, rfl⟩ := O.form
  have X := hide (X.out.up hb)
  have O := hide O
  clear hb d0 d1 d2
  go_wp2_with fail
  go_loopw [3, 9] (fun n i wr => ∃ (k m : Nat), k ≤ pp.length ∧ m ≤ k ∧ i = .int .i64 k ∧ n = .int .i64 m ∧ Hid (b0 = m + (cntD ((pp.map (fun x => (x.length : Int))).drop k) : Int)) ∧ w2 = wr) (fun _ i _ => pp.length - (intOf i).toNat)
  case atStart => exact ⟨0, 0, by omega, by omega, rfl, rfl, by show _ = _; rw [HB.out]; simp, rfl⟩
  case round =>
    obtain ⟨k, m, hk, hm, rfl, rfl, hz, rfl⟩ := hrel
    by_cases hlt : k < pp.length
    · obtain ⟨g, b, kk, rfl, hgl, hc, -⟩ := O.out.cell k hlt
      have hst : (pp.map (fun x => (x.length : Int))).drop k = (pp[k].length : Int) :: (pp.map (fun x => (x.length : Int))).drop (k + 1) := by
        rw [List.drop_eq_getElem_cons (by simpa using hlt), List.getElem_map]
      obtain ⟨x, hx⟩ : ∃ x, x = pp[k].length := ⟨_, rfl⟩
      rw [← hx] at hc hst
      have hz' := hz.out
      rw [hst, cntD] at hz'
      clear hx
      by_cases e1 : 0 < x
      · have hn := hide (show b0 = ((m + 1 : Nat) : Int) + (cntD ((pp.map (fun x => (x.length : Int))).drop (k + 1)) : Int) by
          rw [hz', if_pos (by omega)]; omega)
        have t1 : decide (0 < x) = true := by simp; omega
        clear hz' hst
        go_wp2_with fail
        go_roundw
        case rel => exact ⟨k + 1, m + 1, by omega, by omega, by go_num, by go_num, hn, trivial⟩
        case measure => simp [intOf]; omega
      · have hn := hide (show b0 = (m : Int) + (cntD ((pp.map (fun x => (x.length : Int))).drop (k + 1)) : Int) by
          rw [hz', if_neg (by omega)]; omega)
        obtain rfl : x = 0 := by omega
        clear hz' hst e1
        go_wp2_with fail
        go_roundw
        case rel => exact ⟨k + 1, m, by omega, by omega, by go_num, rfl, hn, trivial⟩
        case measure => simp [intOf]; omega
    · have hke : k = pp.length := by omega
      subst hke
      have hf := hide (show b0 = m by rw [hz.out, List.drop_of_length_le (by simp)]; simp [cntD])
      go_wp2_with fail
      go_ret
      exact ⟨by rw [hf.out]; rfl, X.out.below⟩

set_option maxHeartbeats 2000000 in
theorem iLargest_any (v : Value) (l r : List Int) (ps : List Pv) (w : World) (B : Nat) (hv : Ck w B v l r ps) (hB : B ≤ w.heap.size) (hp : ps.length ≤ 1048576) :
    Calls Try.prog 29 #[v] w (RetI1 w (maxPc l r ps)) := by
  obtain ⟨a1, c1, a2, c2, a3, c3, rfl, -, -, -⟩ := hv.form
  have HV := hide (fun (W : World) (h : Below w.heap.size w W) => hv.below h hB)
  clear hv
  have X := hide (Kn.one w #[.slice a1 l.length c1, .slice a2 r.length c2, .slice a3 ps.length c3] 25)
  obtain ⟨w1, hw1⟩ : ∃ w1, w1 = w.alloc (.cells #[.slice a1 l.length c1, .slice a2 r.length c2, .slice a3 ps.length c3] 25) := ⟨_, rfl⟩
  rw [← hw1] at X
  obtain ⟨b0, hb0⟩ : ∃ b0, b0 = maxPc l r ps := ⟨_, rfl⟩
  rw [← hb0]
  rw [maxPc_lens] at hb0
  unfold lensP at hb0
  have hpl := piecesP_length l r ps
  have HPC := hide (fun (W : World) (V : Value) (h : Ck W B V l r ps) (hB : B ≤ W.heap.size) => iPieces_any V l r ps W B h hB hp)
  obtain ⟨pp, hpp⟩ : ∃ pp, pp = piecesP l r ps := ⟨_, rfl⟩
  rw [← hpp] at hb0 hpl HPC
  have HB := hide hb0
  clear hb0 hpp
  have d0 : w1.cell? ⟨w.heap.size, 0, none⟩ = some (.slice a1 l.length c1) := X.out.cell 0 0 rfl rfl
  have d1 : w1.cell? ⟨w.heap.size, 1, none⟩ = some (.slice a2 r.length c2) := X.out.cell 0 1 rfl rfl
  have d2 : w1.cell? ⟨w.heap.size, 2, none⟩ = some (.slice a3 ps.length c3) := X.out.cell 0 2 rfl rfl
  go_enter Try.func29, Try.ntmps29
  go_wp2_with fail
  rw [← hw1]
  clear hw1
  go_at_call 50
  refine (HPC.out _ _ (HV.out _ X.out.below) (Nat.le_trans hB X.out.below.size)).mono ?_
  rintro e w2 ⟨v2, rfl, O, hb⟩
  obtain ⟨u, cap, rfl⟩ := O.form
  have X := hide (X.out.up hb)
  have O := hide O
  clear hb d0 d1 d2
  go_wp2_with fail
  go_loopw [3, 9] (fun n i wr => ∃ (k : Nat) (m : Int), k ≤ pp.length ∧ i = .int .i64 k ∧ n = .int .i64 m ∧ Hid (b0 = maxD ((pp.map (fun x => (x.length : Int))).drop k) m) ∧ w2 = wr) (fun _ i _ => pp.length - (intOf i).toNat)
  case atStart => exact ⟨0, 0, by omega, rfl, rfl, by show _ = _; rw [HB.out]; simp, rfl⟩
  case round =>
    obtain ⟨k, m, hk, rfl, rfl, hz, rfl⟩ := hrel
    by_cases hlt : k < pp.length
    · obtain ⟨g, b, kk, rfl, hgl, hc, -⟩ := O.out.cell k hlt
      have hst : (pp.map (fun x => (x.length : Int))).drop k = (pp[k].length : Int) :: (pp.map (fun x => (x.length : Int))).drop (k + 1) := by
        rw [List.drop_eq_getElem_cons (by simpa using hlt), List.getElem_map]
      obtain ⟨x, hx⟩ : ∃ x, x = pp[k].length := ⟨_, rfl⟩
      rw [← hx] at hc hst
      have hz' := hz.out
      rw [hst, maxD] at hz'
      clear hx
      by_cases e1 : m < (x : Int)
      · have hn := hide (show b0 = maxD ((pp.map (fun x => (x.length : Int))).drop (k + 1)) (x : Int) by
          rw [hz', show max m (x : Int) = (x : Int) by omega])
        have t1 : decide (m < (x : Int)) = true := by simp; omega
        clear hz' hst
        go_wp2_with fail
        go_roundw
        case rel => exact ⟨k + 1, (x : Int), by omega, by go_num, by go_num, hn, trivial⟩
        case measure => simp [intOf]; omega
      · have hn := hide (show b0 = maxD ((pp.map (fun x => (x.length : Int))).drop (k + 1)) m by
          rw [hz', show max m (x : Int) = m by omega])
        have t1 : decide (m < (x : Int)) = false := by simp; omega
        clear hz' hst
        go_wp2_with fail
        go_roundw
        case rel => exact ⟨k + 1, m, by omega, by go_num, by go_num, hn, trivial⟩
        case measure => simp [intOf]; omega
    · have hke : k = pp.length := by omega
      subst hke
      have hf := hide (show b0 = m by rw [hz.out, List.drop_of_length_le (by simp)]; simp [maxD])
      go_wp2_with fail
      go_ret
      exact ⟨by rw [hf.out]; rfl, X.out.below⟩

end Go.Proofs.Ytknmoinmfladbaa
