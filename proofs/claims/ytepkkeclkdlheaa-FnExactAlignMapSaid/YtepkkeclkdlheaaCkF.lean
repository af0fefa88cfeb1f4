/- What FindPivot returns: of the reference and of the program (promise 3). -/
import Derived.Test.YtepkkeclkdlheaaCkL
namespace Go.Proofs.Ytepkkeclkdlheaa
open Go.RowKit Go.ChangeShapes
set_option linter.unusedSimpArgs false
set_option linter.unusedVariables false
set_option maxRecDepth 100000

/-- A number and a truth are returned; nothing that was there has turned. -/
def RetPB (w : World) (p : Int × Bool) (e : Ending) (w' : World) : Prop := e = .returned (.tuple #[.int .i64 p.1, .bool p.2]) ∧ Below w.heap.size w w'

/-- The place of the first pivot of this value, and whether there is one. -/
def fndP : List Pv → Int → Int × Bool
  | [], _ => (0, false)
  | p :: ps, v => if p.1 = v then (p.2, true) else fndP ps v

theorem fndP_at (ps : List Pv) (v : Int) (k : Nat) (h : k < ps.length) : fndP (ps.drop k) v = if ps[k].1 = v then (ps[k].2, true) else fndP (ps.drop (k + 1)) v := by
  rw [List.drop_eq_getElem_cons h]
  rfl

set_option maxHeartbeats 1000000 in
theorem sFindP_any (u : Value) (l r : List Int) (ps : List Pv) (v : Int) (w : World) (B : Nat) (hv : Ck w B u l r ps) (hB : B ≤ w.heap.size) :
    Calls Try.prog 123 #[u, .int .i64 v] w (RetPB w (fndP ps v)) := by
  obtain ⟨a1, c1, a2, c2, a3, c3, rfl, -, -, i3⟩ := hv.form
  have X := hide (Kn.one w #[.slice a1 l.length c1, .slice a2 r.length c2, .slice a3 ps.length c3] 25)
  obtain ⟨w1, hw1⟩ : ∃ w1, w1 = w.alloc (.cells #[.slice a1 l.length c1, .slice a2 r.length c2, .slice a3 ps.length c3] 25) := ⟨_, rfl⟩
  rw [← hw1] at X
  have I3 := i3.below X.out.below hB
  obtain ⟨a3', c3', he, hlen, -, hcell⟩ := I3
  obtain ⟨rfl, rfl⟩ : a3 = a3' ∧ c3 = c3' := by
    simp only [Value.slice.injEq] at he
    exact ⟨he.1, he.2.2⟩
  have HC := hide hcell
  clear he hcell i3 hv
  have d2 := X.out.cell 0 2 rfl rfl
  obtain ⟨q, hq⟩ : ∃ q, q = fndP ps v := ⟨_, rfl⟩
  rw [← hq]
  obtain ⟨x, b⟩ := q
  have HQ := hide hq
  clear hq
  go_enter Try.func123, Try.ntmps123
  go_wp2_with fail
  rw [← hw1]
  clear hw1
  go_loopw [6] (fun i wr => ∃ (k : Nat), k ≤ ps.length ∧ i = .int .i64 k ∧ Hid ((x, b) = fndP (ps.drop k) v) ∧ w1 = wr) (fun i _ => ps.length - (intOf i).toNat)
  case atStart => exact ⟨0, by omega, rfl, by simpa [Hid] using HQ.out, rfl⟩
  case round =>
    obtain ⟨k, hk, rfl, hpre, rfl⟩ := hrel
    by_cases hlt : k < ps.length
    · obtain ⟨bb, o, rfl, hbB, hc, hc2⟩ := HC.out k hlt
      have hst := fndP_at ps v k hlt
      obtain ⟨p, hp⟩ : ∃ p, p = ps[k] := ⟨_, rfl⟩
      rw [← hp] at hc hc2 hst
      obtain ⟨y, z⟩ := p
      simp only at hc hc2 hst
      clear hp
      by_cases hy : y = v
      · have hf := hide (show (x, b) = (z, true) by rw [hpre.out, hst, if_pos hy])
        have ht : decide (y = v) = true := by simp [hy]
        have ht2 : (y == v) = true := by simp [hy]
        clear hst
        go_wp2_with fail
        go_ret2
        exact ⟨by obtain ⟨rfl, rfl⟩ := Prod.mk.inj hf.out; rfl, X.out.below⟩
      · have hf := hide (show (x, b) = fndP (ps.drop (k + 1)) v by rw [hpre.out, hst, if_neg hy])
        have ht : decide (y = v) = false := by simp [hy]
        have ht2 : (y == v) = false := by simp [hy]
        clear hst
        go_wp2_with fail
        go_roundw
        case rel => exact ⟨k + 1, by omega, by go_num, hf, trivial⟩
        case measure => simp [intOf]; omega
    · have hke : k = ps.length := by omega
      subst hke
      have hf := hide (show (x, b) = (0, false) by rw [hpre.out, List.drop_length]; rfl)
      go_wp2_with fail
      go_ret2
      exact ⟨by obtain ⟨rfl, rfl⟩ := Prod.mk.inj hf.out; rfl, X.out.below⟩

set_option maxHeartbeats 1000000 in
theorem iFindP_any (u : Value) (l r : List Int) (ps : List Pv) (v : Int) (w : World) (B : Nat) (hv : Ck w B u l r ps) (hB : B ≤ w.heap.size) :
    Calls Try.prog 173 #[u, .int .i64 v] w (RetPB w (fndP ps v)) := by
  obtain ⟨a1, c1, a2, c2, a3, c3, rfl, -, -, i3⟩ := hv.form
  have X := hide (Kn.one w #[.slice a1 l.length c1, .slice a2 r.length c2, .slice a3 ps.length c3] 25)
  obtain ⟨w1, hw1⟩ : ∃ w1, w1 = w.alloc (.cells #[.slice a1 l.length c1, .slice a2 r.length c2, .slice a3 ps.length c3] 25) := ⟨_, rfl⟩
  rw [← hw1] at X
  have I3 := i3.below X.out.below hB
  obtain ⟨a3', c3', he, hlen, -, hcell⟩ := I3
  obtain ⟨rfl, rfl⟩ : a3 = a3' ∧ c3 = c3' := by
    simp only [Value.slice.injEq] at he
    exact ⟨he.1, he.2.2⟩
  have HC := hide hcell
  clear he hcell i3 hv
  have d2 := X.out.cell 0 2 rfl rfl
  obtain ⟨q, hq⟩ : ∃ q, q = fndP ps v := ⟨_, rfl⟩
  rw [← hq]
  obtain ⟨x, b⟩ := q
  have HQ := hide hq
  have HB1 := hide (Nat.le_trans hB X.out.below.size)
  clear hq
  go_enter Try.func173, Try.ntmps173
  go_wp2_with fail
  rw [← hw1]
  clear hw1
  go_wp2_with fail
  go_loopw [11] (fun i wr => ∃ (k : Nat), k ≤ ps.length ∧ i = .int .i64 k ∧ Hid ((x, b) = fndP (ps.drop k) v) ∧ Below w1.heap.size w1 wr) (fun i _ => ps.length - (intOf i).toNat)
  case atStart => exact ⟨0, by omega, rfl, by simpa [Hid] using HQ.out, Below.refl _ _⟩
  case round =>
    obtain ⟨k, hk, rfl, hpre, hb⟩ := hrel
    by_cases hlt : k < ps.length
    · obtain ⟨bb, o, rfl, hbB, hc, hc2⟩ := HC.out k hlt
      have hst := fndP_at ps v k hlt
      obtain ⟨p, hp⟩ : ∃ p, p = ps[k] := ⟨_, rfl⟩
      rw [← hp] at hc hc2 hst
      obtain ⟨y, z⟩ := p
      simp only at hc hc2 hst
      have d1 : wr.cell? ⟨bb, o + k * 2, none⟩ = some (.int .i64 y) := by rw [hb.cell (p := ⟨bb, o + k * 2, none⟩) (Nat.lt_of_lt_of_le hbB HB1.out)]; exact hc
      have d3 : wr.cell? ⟨bb, o + k * 2 + 1, none⟩ = some (.int .i64 z) := by rw [hb.cell (p := ⟨bb, o + k * 2 + 1, none⟩) (Nat.lt_of_lt_of_le hbB HB1.out)]; exact hc2
      have HBB := hide hb
      clear hp hc hc2 hb
      by_cases hy : y = v
      · have hf := hide (show (x, b) = (z, true) by rw [hpre.out, hst, if_pos hy])
        have ht2 : (y == v) = true := by simp [hy]
        clear hst
        go_wp2_with fail
        go_ret2
        exact ⟨by obtain ⟨rfl, rfl⟩ := Prod.mk.inj hf.out; rfl, X.out.below.trans ((HBB.out.alloc HBB.out.size _).mono X.out.below.size)⟩
      · have hf := hide (show (x, b) = fndP (ps.drop (k + 1)) v by rw [hpre.out, hst, if_neg hy])
        have ht2 : (y == v) = false := by simp [hy]
        clear hst
        go_wp2_with fail
        go_roundw
        case rel => exact ⟨k + 1, by omega, by go_num, hf, HBB.out.alloc HBB.out.size _⟩
        case measure => simp [intOf]; omega
    · have hke : k = ps.length := by omega
      subst hke
      have hf := hide (show (x, b) = (0, false) by rw [hpre.out, List.drop_length]; rfl)
      go_wp2_with fail
      go_ret2
      exact ⟨by obtain ⟨rfl, rfl⟩ := Prod.mk.inj hf.out; rfl, X.out.below.trans (hb.mono X.out.below.size)⟩

end Go.Proofs.Ytepkkeclkdlheaa
