/- What CountPieces and LargestPiece of the reference return (promise 3). -/
import Derived.Test.YtknmoinmfladbaaCkT
namespace Go.Proofs.Ytknmoinmfladbaa
open Go.RowKit Go.ChangeShapes
set_option linter.unusedSimpArgs false
set_option linter.unusedVariables false
set_option maxRecDepth 100000

/-- The places at which pieces end. -/
def endsP (l : List Int) (ps : List Pv) : List Int := ps.map (·.2) ++ [(l.length : Int)]

/-- The lengths of the pieces that end at es, the first beginning at f. -/
def difs : List Int → Int → List Int
  | [], _ => []
  | e :: es, f => (e - f) :: difs es e

/-- How many are above zero. -/
def cntD : List Int → Nat
  | [] => 0
  | d :: ds => (if 0 < d then 1 else 0) + cntD ds

/-- The greatest of them and m. -/
def maxD : List Int → Int → Int
  | [], m => m
  | d :: ds, m => maxD ds (max m d)

/-- How many pieces are not empty; none if the column is not valid. -/
noncomputable def cntPc (l r : List Int) (ps : List Pv) : Int := if isCk l r ps = true then (cntD (difs (endsP l ps) 0) : Int) else 0

/-- The length of the largest piece; none if the column is not valid. -/
noncomputable def maxPc (l r : List Int) (ps : List Pv) : Int := if isCk l r ps = true then maxD (difs (endsP l ps) 0) 0 else 0

theorem endsP_length (l : List Int) (ps : List Pv) : (endsP l ps).length = ps.length + 1 := by simp [endsP]

theorem difs_at (es : List Int) (f : Int) (k : Nat) (h : k < es.length) : difs (es.drop k) f = (es[k] - f) :: difs (es.drop (k + 1)) es[k] := by
  rw [List.drop_eq_getElem_cons h]; rfl

theorem ends_bound {l r : List Int} {ps : List Pv} : isCk l r ps = true → ∀ x ∈ endsP l ps, 0 ≤ x ∧ x ≤ 64 := by
  intro h x hx
  obtain ⟨h1, h2, h3, h4⟩ := isCk_parts h
  have h5 := areVals_len h1
  unfold endsP at hx
  rcases List.mem_append.1 hx with hx | hx
  · obtain ⟨p, hp, rfl⟩ := List.mem_map.1 hx
    obtain ⟨j, hj, rfl⟩ := List.getElem_of_mem hp
    have := (h4 j hj).2.2
    exact ⟨this.1, by have := this.2.1; omega⟩
  · obtain rfl : x = l.length := by simpa using hx
    omega

theorem endsP_wf {w : World} {B : Nat} {v : Value} {l r : List Int} {ps : List Pv} (h : Ck w B v l r ps) : ∀ x ∈ endsP l ps, I64 x := by
  obtain ⟨x, y, z, _, ⟨_, _, _, hl, _⟩, _, ⟨_, _, _, _, h4, _⟩, _⟩ := h
  intro e he
  unfold endsP at he
  rcases List.mem_append.1 he with he | he
  · obtain ⟨p, hp, rfl⟩ := List.mem_map.1 he
    exact (h4 p hp).2
  · obtain rfl : e = l.length := by simpa using he
    exact ⟨by omega, by omega⟩

set_option maxHeartbeats 2000000 in
theorem sEnds_any (v : Value) (l r : List Int) (ps : List Pv) (w : World) (B : Nat) (hv : Ck w B v l r ps) (hB : B ≤ w.heap.size) (hp : ps.length ≤ 1048576) :
    Calls Try.prog 49 #[v] w (RetIs 3 w (endsP l ps)) := by
  obtain ⟨a1, c1, a2, c2, a3, c3, rfl, i1, i2, i3⟩ := hv.form
  have HI3 := hide (fun (W : World) (h : Below w.heap.size w W) => i3.below h hB)
  have hl64 : l.length ≤ 9223372036854775807 := by obtain ⟨_, _, _, h, _⟩ := i1; exact h
  clear i1 i2 i3 hv
  have X := hide (Kn.one w #[.slice a1 l.length c1, .slice a2 r.length c2, .slice a3 ps.length c3] 25)
  obtain ⟨w1, hw1⟩ : ∃ w1, w1 = w.alloc (.cells #[.slice a1 l.length c1, .slice a2 r.length c2, .slice a3 ps.length c3] 25) := ⟨_, rfl⟩
  have hz1 : w1.heap.size = w.heap.size + 1 := by rw [hw1]; simp
  rw [← hw1] at X
  have X := hide (X.out.up ((Below.refl _ _).alloc (Nat.le_refl _) (.cells #[] 3)))
  have O1 := hide (Is.made w1 (w.heap.size + 1) 3 (Nat.le_of_eq hz1.symm))
  have hz := hide (show w.heap.size + 1 ≤ (w1.alloc (.cells #[] 3)).heap.size by simp; omega)
  rw [hz1] at O1
  have hz1 := hide hz1
  go_enter Try.func49, Try.ntmps49
  go_wp2_with fail
  rw [← hw1]
  clear hw1
  go_loopw [3, 4] (fun v i wr => ∃ (k : Nat), k ≤ ps.length ∧ i = .int .i64 k ∧ Hid (Is wr (w.heap.size + 1) 3 v ((ps.take k).map (·.2))) ∧ Hid (Kn w wr [(w.heap.size, #[.slice a1 l.length c1, .slice a2 r.length c2, .slice a3 ps.length c3], 25)]) ∧ Hid (w.heap.size + 1 ≤ wr.heap.size)) (fun _ i _ => ps.length - (intOf i).toNat)
  case atStart => exact ⟨0, by omega, rfl, O1.out, X.out, hz.out⟩
  case round =>
    clear O1 X
    obtain ⟨k, hk, rfl, O, X, hsz⟩ := hrel
    have d2 : wr.cell? ⟨w.heap.size, 2, none⟩ = some (.slice a3 ps.length c3) := X.out.cell 0 2 rfl rfl
    by_cases hlt : k < ps.length
    · have hi := HI3.out _ X.out.below
      obtain ⟨a', c', he, _, _, hcell⟩ := hi
      obtain ⟨rfl, rfl⟩ : a3 = a' ∧ c3 = c' := by
        simp only [Value.slice.injEq] at he
        exact ⟨he.1, he.2.2⟩
      obtain ⟨b, o, rfl, hbB, hc, hc2⟩ := hcell k hlt
      obtain ⟨p, hp⟩ : ∃ p, p = ps[k] := ⟨_, rfl⟩
      rw [← hp] at hc hc2
      obtain ⟨x, y⟩ := p
      simp only at hc hc2
      have HP := hide hp
      clear he hcell hp hc
      go_wp2_with (first | (at_builtin; refine is_append1 wr rfl _ _ 22 rfl (w.heap.size + 1) 3 Try.underlying22 infoI _ _ O.out rfl _ _ rfl (by simp; omega) hsz.out ?_; intro v2 w2 hown2 hb2) | fail)
      have X := hide (X.out.at' hb2 (by omega) (by simp))
      have O := hide hown2
      have hsz := hide (Nat.le_trans hsz.out hb2.size)
      clear hown2 hb2
      go_roundw
      case rel => exact ⟨k + 1, by omega, by go_num, by rw [List.take_succ_eq_append_getElem hlt, List.map_append, ← HP.out]; exact O.out, X.out, hsz.out⟩
      case measure => simp [intOf]; omega
    · have hke : k = ps.length := by omega
      subst hke
      have d0 : wr.cell? ⟨w.heap.size, 0, none⟩ = some (.slice a1 l.length c1) := X.out.cell 0 0 rfl rfl
      go_wp2_with (first | (at_builtin; refine is_append1 wr rfl _ _ 22 rfl (w.heap.size + 1) 3 Try.underlying22 infoI _ _ O.out rfl _ _ rfl (by simp; omega) hsz.out ?_; intro v2 w2 hown2 hb2) | fail)
      have X := hide (X.out.at' hb2 (by omega) (by simp))
      rw [List.take_of_length_le (Nat.le_refl _)] at hown2
      have O := hide hown2
      clear hown2 hb2
      go_ret
      exact ⟨_, rfl, O.out.lower (by omega), X.out.below⟩

set_option maxHeartbeats 2000000 in
theorem sCount_any (v : Value) (l r : List Int) (ps : List Pv) (w : World) (B : Nat) (hv : Ck w B v l r ps) (hB : B ≤ w.heap.size) (hp : ps.length ≤ 1048576) :
    Calls Try.prog 26 #[v] w (RetI1 w (cntPc l r ps)) := by
  obtain ⟨a1, c1, a2, c2, a3, c3, rfl, -, -, -⟩ := hv.form
  have HV := hide (fun (W : World) (h : Below w.heap.size w W) => hv.below h hB)
  have HW := hide (endsP_wf hv)
  clear hv
  have X := hide (Kn.one w #[.slice a1 l.length c1, .slice a2 r.length c2, .slice a3 ps.length c3] 25)
  obtain ⟨w1, hw1⟩ : ∃ w1, w1 = w.alloc (.cells #[.slice a1 l.length c1, .slice a2 r.length c2, .slice a3 ps.length c3] 25) := ⟨_, rfl⟩
  rw [← hw1] at X
  obtain ⟨b0, hb0⟩ : ∃ b0, b0 = cntPc l r ps := ⟨_, rfl⟩
  rw [← hb0]
  unfold cntPc at hb0
  obtain ⟨t, ht⟩ : ∃ t, t = isCk l r ps := ⟨_, rfl⟩
  rw [← ht] at hb0
  obtain ⟨es, hes⟩ : ∃ es, es = endsP l ps := ⟨_, rfl⟩
  have hel : es.length = ps.length + 1 := by rw [hes]; exact endsP_length l ps
  have HE := hide (fun (W : World) (V : Value) (h : Ck W B V l r ps) (hB : B ≤ W.heap.size) => sEnds_any V l r ps W B h hB hp)
  rw [← hes] at hb0 HE HW
  have HB := hide hb0
  have HT := hide ht
  clear hb0 ht hes
  have d0 : w1.cell? ⟨w.heap.size, 0, none⟩ = some (.slice a1 l.length c1) := X.out.cell 0 0 rfl rfl
  have d1 : w1.cell? ⟨w.heap.size, 1, none⟩ = some (.slice a2 r.length c2) := X.out.cell 0 1 rfl rfl
  have d2 : w1.cell? ⟨w.heap.size, 2, none⟩ = some (.slice a3 ps.length c3) := X.out.cell 0 2 rfl rfl
  go_enter Try.func26, Try.ntmps26
  go_wp2_with fail
  rw [← hw1]
  clear hw1
  go_at_call 49
  refine (HE.out _ _ (HV.out _ X.out.below) (Nat.le_trans hB X.out.below.size)).mono ?_
  rintro e w2 ⟨v2, rfl, O, hb⟩
  have X := hide (X.out.up hb)
  have hi := O.ints (Nat.le_refl _) (by omega) HW.out
  obtain ⟨a, cap, rfl, -, -, hcell⟩ := hi
  have HC := hide hcell
  clear hb d0 d1 d2 O hcell
  go_wp2_with fail
  go_loopw [3, 4, 6] (fun n q i wr => ∃ (k m : Nat) (z : Int), k ≤ es.length ∧ m ≤ k ∧ i = .int .i64 k ∧ n = .int .i64 m ∧ q = .int .i64 z ∧ Hid (b0 = m + if t = true then (cntD (difs (es.drop k) z) : Int) else 0) ∧ Hid (Below w2.heap.size w2 wr) ∧ Hid (Kn w wr [(w.heap.size, #[.slice a1 l.length c1, .slice a2 r.length c2, .slice a3 ps.length c3], 25)])) (fun _ _ i _ => es.length - (intOf i).toNat)
  case atStart => exact ⟨0, 0, 0, by omega, by omega, rfl, rfl, rfl, by show _ = _; rw [HB.out]; simp, Below.refl _ _, X.out⟩
  case round =>
    clear X
    obtain ⟨k, m, z, hk, hm, rfl, rfl, rfl, hz, hb, Y⟩ := hrel
    have d0 : wr.cell? ⟨w.heap.size, 0, none⟩ = some (.slice a1 l.length c1) := Y.out.cell 0 0 rfl rfl
    have d1 : wr.cell? ⟨w.heap.size, 1, none⟩ = some (.slice a2 r.length c2) := Y.out.cell 0 1 rfl rfl
    have d2 : wr.cell? ⟨w.heap.size, 2, none⟩ = some (.slice a3 ps.length c3) := Y.out.cell 0 2 rfl rfl
    by_cases hlt : k < es.length
    · obtain ⟨b, o, rfl, hbB, hc⟩ := HC.out k hlt
      have hst := difs_at es z k hlt
      obtain ⟨x, hx⟩ : ∃ x, x = es[k] := ⟨_, rfl⟩
      rw [← hx] at hc hst
      have hlt2 : decide ((k : Int) < (es.length : Int)) = true := by simp; omega
      clear hx
      go_wp2_with fail
      go_at_call 19
      refine (sIsCk_any _ l r ps _ B (HV.out _ Y.out.below) (Nat.le_trans hB Y.out.below.size)).mono ?_
      rintro e wa ⟨rfl, hba⟩
      rw [← HT.out]
      have Z := hide (Y.out.up hba)
      have hb := hide (hb.out.trans (hba.mono hb.out.size))
      clear hba d0 d1 d2 Y
      have c1 : wa.cell? ⟨b, o + k, none⟩ = some (.int .i64 x) := by rw [hb.out.cell (p := ⟨b, o + k, none⟩) hbB]; exact hc
      cases t
      · have hf := hide (show b0 = m by rw [hz.out]; simp)
        go_wp2_with fail
        go_ret
        exact ⟨by rw [hf.out]; rfl, Z.out.below⟩
      · have hz' : b0 = m + (cntD (difs (es.drop k) z) : Int) := by rw [hz.out]; simp
        rw [hst] at hz'
        by_cases e1 : z < x
        · have hn := hide (show b0 = ((m + 1 : Nat) : Int) + if true = true then (cntD (difs (es.drop (k + 1)) x) : Int) else 0 by
            rw [hz', cntD, if_pos (by omega), if_pos rfl]; omega)
          have t1 : decide (x > z) = true := by simp; omega
          have t2 : decide (z < x) = true := by simp; omega
          clear hz' hst e1
          go_wp2_with fail
          go_roundw
          case rel => exact ⟨k + 1, m + 1, x, by omega, by omega, by go_num, by go_num, rfl, hn, hb.out, Z.out⟩
          case measure => simp [intOf]; omega
        · have hn := hide (show b0 = (m : Int) + if true = true then (cntD (difs (es.drop (k + 1)) x) : Int) else 0 by
            rw [hz', cntD, if_neg (by omega), if_pos rfl]; omega)
          have t1 : decide (x > z) = false := by simp; omega
          have t2 : decide (z < x) = false := by simp; omega
          clear hz' hst e1
          go_wp2_with fail
          go_roundw
          case rel => exact ⟨k + 1, m, x, by omega, by omega, by go_num, rfl, rfl, hn, hb.out, Z.out⟩
          case measure => simp [intOf]; omega
    · have hke : k = es.length := by omega
      subst hke
      have hf := hide (show b0 = m by rw [hz.out, List.drop_length]; simp [difs, cntD])
      go_wp2_with fail
      go_ret
      exact ⟨by rw [hf.out]; rfl, Y.out.below⟩

set_option maxHeartbeats 2000000 in
theorem sLargest_any (v : Value) (l r : List Int) (ps : List Pv) (w : World) (B : Nat) (hv : Ck w B v l r ps) (hB : B ≤ w.heap.size) (hp : ps.length ≤ 1048576) :
    Calls Try.prog 28 #[v] w (RetI1 w (maxPc l r ps)) := by
  obtain ⟨a1, c1, a2, c2, a3, c3, rfl, -, -, -⟩ := hv.form
  have HV := hide (fun (W : World) (h : Below w.heap.size w W) => hv.below h hB)
  have HW := hide (endsP_wf hv)
  clear hv
  have X := hide (Kn.one w #[.slice a1 l.length c1, .slice a2 r.length c2, .slice a3 ps.length c3] 25)
  obtain ⟨w1, hw1⟩ : ∃ w1, w1 = w.alloc (.cells #[.slice a1 l.length c1, .slice a2 r.length c2, .slice a3 ps.length c3] 25) := ⟨_, rfl⟩
  rw [← hw1] at X
  obtain ⟨b0, hb0⟩ : ∃ b0, b0 = maxPc l r ps := ⟨_, rfl⟩
  rw [← hb0]
  unfold maxPc at hb0
  obtain ⟨t, ht⟩ : ∃ t, t = isCk l r ps := ⟨_, rfl⟩
  rw [← ht] at hb0
  obtain ⟨es, hes⟩ : ∃ es, es = endsP l ps := ⟨_, rfl⟩
  have hel : es.length = ps.length + 1 := by rw [hes]; exact endsP_length l ps
  have HE := hide (fun (W : World) (V : Value) (h : Ck W B V l r ps) (hB : B ≤ W.heap.size) => sEnds_any V l r ps W B h hB hp)
  rw [← hes] at hb0 HE HW
  have hbnd := ends_bound (l := l) (r := r) (ps := ps)
  rw [← hes, ← ht] at hbnd
  have HBD := hide hbnd
  clear hbnd
  have HB := hide hb0
  have HT := hide ht
  clear hb0 ht hes
  have d0 : w1.cell? ⟨w.heap.size, 0, none⟩ = some (.slice a1 l.length c1) := X.out.cell 0 0 rfl rfl
  have d1 : w1.cell? ⟨w.heap.size, 1, none⟩ = some (.slice a2 r.length c2) := X.out.cell 0 1 rfl rfl
  have d2 : w1.cell? ⟨w.heap.size, 2, none⟩ = some (.slice a3 ps.length c3) := X.out.cell 0 2 rfl rfl
  go_enter Try.func28, Try.ntmps28
  go_wp2_with fail
  rw [← hw1]
  clear hw1
  go_at_call 49
  refine (HE.out _ _ (HV.out _ X.out.below) (Nat.le_trans hB X.out.below.size)).mono ?_
  rintro e w2 ⟨v2, rfl, O, hb⟩
  have X := hide (X.out.up hb)
  have hi := O.ints (Nat.le_refl _) (by omega) HW.out
  obtain ⟨a, cap, rfl, -, -, hcell⟩ := hi
  have HC := hide hcell
  clear hb d0 d1 d2 O hcell
  go_wp2_with fail
  go_loopw [3, 4, 6] (fun n q i wr => ∃ (k : Nat) (m z : Int), k ≤ es.length ∧ (0 ≤ m ∧ m ≤ 64 ∧ 0 ≤ z ∧ z ≤ 64) ∧ i = .int .i64 k ∧ n = .int .i64 m ∧ q = .int .i64 z ∧ Hid (b0 = if t = true then maxD (difs (es.drop k) z) m else m) ∧ Hid (Below w2.heap.size w2 wr) ∧ Hid (Kn w wr [(w.heap.size, #[.slice a1 l.length c1, .slice a2 r.length c2, .slice a3 ps.length c3], 25)])) (fun _ _ i _ => es.length - (intOf i).toNat)
  case atStart => exact ⟨0, 0, 0, by omega, ⟨by omega, by omega, by omega, by omega⟩, rfl, rfl, rfl, by show _ = _; rw [HB.out]; simp, Below.refl _ _, X.out⟩
  case round =>
    clear X
    obtain ⟨k, m, z, hk, hm, rfl, rfl, rfl, hz, hb, Y⟩ := hrel
    have d0 : wr.cell? ⟨w.heap.size, 0, none⟩ = some (.slice a1 l.length c1) := Y.out.cell 0 0 rfl rfl
    have d1 : wr.cell? ⟨w.heap.size, 1, none⟩ = some (.slice a2 r.length c2) := Y.out.cell 0 1 rfl rfl
    have d2 : wr.cell? ⟨w.heap.size, 2, none⟩ = some (.slice a3 ps.length c3) := Y.out.cell 0 2 rfl rfl
    by_cases hlt : k < es.length
    · obtain ⟨b, o, rfl, hbB, hc⟩ := HC.out k hlt
      have hst := difs_at es z k hlt
      obtain ⟨x, hx⟩ : ∃ x, x = es[k] := ⟨_, rfl⟩
      rw [← hx] at hc hst
      have hlt2 : decide ((k : Int) < (es.length : Int)) = true := by simp; omega
      have hxm := hide (show x ∈ es by rw [hx]; exact List.getElem_mem hlt)
      clear hx
      go_wp2_with fail
      go_at_call 19
      refine (sIsCk_any _ l r ps _ B (HV.out _ Y.out.below) (Nat.le_trans hB Y.out.below.size)).mono ?_
      rintro e wa ⟨rfl, hba⟩
      rw [← HT.out]
      have Z := hide (Y.out.up hba)
      have hb := hide (hb.out.trans (hba.mono hb.out.size))
      clear hba d0 d1 d2 Y
      have c1 : wa.cell? ⟨b, o + k, none⟩ = some (.int .i64 x) := by rw [hb.out.cell (p := ⟨b, o + k, none⟩) hbB]; exact hc
      cases t
      · have hf := hide (show b0 = m by rw [hz.out]; simp)
        go_wp2_with fail
        go_ret
        exact ⟨by rw [hf.out]; rfl, Z.out.below⟩
      · have hz' : b0 = maxD (difs (es.drop k) z) m := by rw [hz.out]; simp
        obtain ⟨hx0, hx1⟩ := HBD.out rfl x hxm.out
        obtain ⟨hm0, hm1, hz0, hz1⟩ := hm
        rw [hst, maxD] at hz'
        by_cases e1 : m < x - z
        · have hn := hide (show b0 = if true = true then maxD (difs (es.drop (k + 1)) x) (x - z) else (x - z) by
            rw [hz', if_pos rfl, show max m (x - z) = x - z by omega])
          have t1 : decide (m < x - z) = true := by simp; omega
          clear hz' hst
          go_wp2_with fail
          go_roundw
          case rel => exact ⟨k + 1, x - z, x, by omega, ⟨by omega, by omega, by omega, by omega⟩, by go_num, by go_num, rfl, hn, hb.out, Z.out⟩
          case measure => simp [intOf]; omega
        · have hn := hide (show b0 = if true = true then maxD (difs (es.drop (k + 1)) x) m else m by
            rw [hz', if_pos rfl, show max m (x - z) = m by omega])
          have t1 : decide (m < x - z) = false := by simp; omega
          clear hz' hst
          go_wp2_with fail
          go_roundw
          case rel => exact ⟨k + 1, m, x, by omega, ⟨by omega, by omega, by omega, by omega⟩, by go_num, by go_num, rfl, hn, hb.out, Z.out⟩
          case measure => simp [intOf]; omega
    · have hke : k = es.length := by omega
      subst hke
      have hf := hide (show b0 = m by rw [hz.out, List.drop_length]; simp [difs, maxD])
      go_wp2_with fail
      go_ret
      exact ⟨by rw [hf.out]; rfl, Y.out.below⟩

end Go.Proofs.Ytknmoinmfladbaa
