/- What PieceOf returns: of the reference and of the program (promise 3). -/
import Derived.Test.YtepkkeclkdlheaaCkQ
namespace Go.Proofs.Ytepkkeclkdlheaa
open Go.RowKit Go.ChangeShapes
set_option linter.unusedSimpArgs false
set_option linter.unusedVariables false
set_option maxRecDepth 100000

/-- Two numbers are returned; nothing that was there has turned. -/
def RetII (w : World) (p : Int × Int) (e : Ending) (w' : World) : Prop := e = .returned (.tuple #[.int .i64 p.1, .int .i64 p.2]) ∧ Below w.heap.size w w'

/-- The place of the last pivot whose value is at most v; a if there is none. -/
def loP : List Pv → Int → Int → Int
  | [], _, a => a
  | p :: ps, v, a => loP ps v (if p.1 ≤ v then p.2 else a)

/-- The place of the first pivot whose value is at least v; n if there is none. -/
def hiP : List Pv → Int → Int → Int
  | [], _, n => n
  | p :: ps, v, n => if v ≤ p.1 then p.2 else hiP ps v n

theorem loP_at (ps : List Pv) (v a : Int) (k : Nat) (h : k < ps.length) : loP (ps.drop k) v a = loP (ps.drop (k + 1)) v (if ps[k].1 ≤ v then ps[k].2 else a) := by
  rw [List.drop_eq_getElem_cons h]; rfl

theorem hiP_at (ps : List Pv) (v n : Int) (k : Nat) (h : k < ps.length) : hiP (ps.drop k) v n = if v ≤ ps[k].1 then ps[k].2 else hiP (ps.drop (k + 1)) v n := by
  rw [List.drop_eq_getElem_cons h]; rfl

theorem hiP_append (v : Int) : ∀ (a b : List Pv) (n : Int), hiP (a ++ b) v n = hiP a v (hiP b v n)
  | [], b, n => rfl
  | p :: a, b, n => by
    simp only [List.cons_append, hiP]
    split
    · rfl
    · exact hiP_append v a b n

theorem hiP_take (ps : List Pv) (v n : Int) (k : Nat) (h : k < ps.length) : hiP (ps.take (k + 1)) v n = hiP (ps.take k) v (if v ≤ ps[k].1 then ps[k].2 else n) := by
  rw [List.take_succ_eq_append_getElem h, hiP_append]; rfl

theorem loP_above (v : Int) : ∀ (qs : List Pv) (a : Int), (∀ q ∈ qs, v < q.1) → loP qs v a = a
  | [], a, _ => rfl
  | q :: qs, a, h => by
    have h1 := h q (by simp)
    rw [loP, if_neg (by omega)]
    exact loP_above v qs a fun x hx => h x (List.mem_cons_of_mem _ hx)

theorem pv_sorted {l : List Int} {ps : List Pv} (h : PvsOk l ps) (i : Nat) : ∀ j (_ : i < j) (hj : j < ps.length), (ps[i]'(by omega)).1 < ps[j].1
  | 0, hij, _ => by omega
  | j + 1, hij, hj => by
    have h1 := (h (j + 1) hj).1
    rw [prevV_succ ps j (by omega)] at h1
    by_cases e : i = j
    · subst e; exact h1
    · have := pv_sorted h i j (by omega) (by omega)
      omega

theorem later_above {l : List Int} {ps : List Pv} (h : PvsOk l ps) (k : Nat) (hk : k < ps.length) (v : Int) (hv : v ≤ ps[k].1) : ∀ q ∈ ps.drop (k + 1), v < q.1 := by
  intro q hq
  obtain ⟨j, hj, rfl⟩ := List.getElem_of_mem hq
  rw [List.getElem_drop]
  have := pv_sorted h k (k + 1 + j) (by omega) (by simp at hj; omega)
  omega

open Classical in
/-- The piece that would be divided at v. -/
noncomputable def pieceP (l r : List Int) (ps : List Pv) (v : Int) : Int × Int := if isCk l r ps = true ∧ -1000 ≤ v ∧ v ≤ 1000 then (loP ps v 0, hiP ps v l.length) else (0, 0)

set_option maxHeartbeats 2000000 in
theorem sPiece_any (u : Value) (ps : List Pv) (n v : Int) (w : World) (B : Nat) (hu : Pvs w B u ps) :
    Calls Try.prog 165 #[.int .i64 n, u, .int .i64 v] w fun e w' => e = .returned (.tuple #[.int .i64 (loP ps v 0), .int .i64 (hiP ps v n)]) ∧ w = w' := by
  obtain ⟨a, cap, rfl, hlen, -, hcell⟩ := hu
  have HC := hide hcell
  clear hcell
  obtain ⟨A, hA⟩ : ∃ A, A = loP ps v 0 := ⟨_, rfl⟩
  obtain ⟨C, hC⟩ : ∃ C, C = hiP ps v n := ⟨_, rfl⟩
  rw [← hA, ← hC]
  have HA := hide hA
  have HH := hide hC
  clear hA hC
  go_enter Try.func165, Try.ntmps165
  go_wp2
  go_loopw [8, 10] (fun q i wr => ∃ (k : Nat) (z : Int), k ≤ ps.length ∧ i = .int .i64 k ∧ q = .int .i64 z ∧ Hid (A = loP (ps.drop k) v z) ∧ w = wr) (fun _ i _ => ps.length - (intOf i).toNat)
  case atStart => exact ⟨0, 0, by omega, rfl, rfl, by simpa [Hid] using HA.out, rfl⟩
  case round =>
    obtain ⟨k, z, hk, rfl, rfl, hz, rfl⟩ := hrel
    by_cases hlt : k < ps.length
    · obtain ⟨b, o, rfl, hbB, hc, hc2⟩ := HC.out k hlt
      have hst := loP_at ps v z k hlt
      obtain ⟨p, hp⟩ : ∃ p, p = ps[k] := ⟨_, rfl⟩
      rw [← hp] at hc hc2 hst
      obtain ⟨x, y⟩ := p
      simp only at hc hc2 hst
      clear hp
      by_cases e : x ≤ v
      · have hn := hide (show A = loP (ps.drop (k + 1)) v y by rw [hz.out, hst, if_pos e])
        have t1 : decide (x ≤ v) = true := by simp; omega
        clear hst e
        go_wp2
        go_roundw
        case rel => exact ⟨k + 1, y, by omega, by go_num, rfl, hn, trivial⟩
        case measure => simp [intOf]; omega
      · have hn := hide (show A = loP (ps.drop (k + 1)) v z by rw [hz.out, hst, if_neg e])
        have t1 : decide (x ≤ v) = false := by simp; omega
        clear hst e
        go_wp2
        go_roundw
        case rel => exact ⟨k + 1, z, by omega, by go_num, rfl, hn, trivial⟩
        case measure => simp [intOf]; omega
    · have hke : k = ps.length := by omega
      subst hke
      have hzA : z = A := by rw [hz.out, List.drop_length]; rfl
      subst hzA
      go_wp2
      go_loopw [9, 11] (fun q i wr => ∃ (k : Nat) (y j : Int), k ≤ ps.length ∧ i = .int .i64 j ∧ j = (k : Int) - 1 ∧ q = .int .i64 y ∧ Hid (C = hiP (ps.take k) v y) ∧ w = wr) (fun _ i _ => (intOf i + 1).toNat)
      case atStart => exact ⟨ps.length, n, _, Nat.le_refl _, rfl, rfl, rfl, by show _ = _; rw [List.take_of_length_le (Nat.le_refl _)]; exact HH.out, rfl⟩
      case round =>
        obtain ⟨k, y, j, hk, rfl, hj, rfl, hy, rfl⟩ := hrel
        by_cases h0 : k = 0
        · subst h0
          obtain rfl : j = -1 := by omega
          have hf := hide (show C = y by rw [hy.out]; rfl)
          clear hj hk
          go_wp2
          go_ret2
          exact ⟨by rw [hf.out]; rfl, rfl⟩
        · obtain ⟨k', rfl⟩ : ∃ k', k = k' + 1 := ⟨k - 1, by omega⟩
          obtain rfl : j = (k' : Int) := by omega
          obtain ⟨b, o, rfl, hbB, hc, hc2⟩ := HC.out k' (by omega)
          have hst := hiP_take ps v y k' (by omega)
          obtain ⟨p, hp⟩ : ∃ p, p = ps[k']'(by omega) := ⟨_, rfl⟩
          rw [← hp] at hc hc2 hst
          obtain ⟨x, q⟩ := p
          simp only at hc hc2 hst
          clear hp
          by_cases e : v ≤ x
          · have hn := hide (show C = hiP (ps.take k') v q by rw [hy.out, hst, if_pos e])
            have t1 : decide (v ≤ x) = true := by simp; omega
            have t2 : decide (x ≥ v) = true := by simp; omega
            clear hst e hj h0
            go_wp2
            go_roundw
            case rel => exact ⟨k', q, (k' : Int) - 1, by omega, by go_num, rfl, rfl, hn, trivial⟩
            case measure => simp [intOf]
          · have hn := hide (show C = hiP (ps.take k') v y by rw [hy.out, hst, if_neg e])
            have t1 : decide (v ≤ x) = false := by simp; omega
            have t2 : decide (x ≥ v) = false := by simp; omega
            clear hst e hj h0
            go_wp2
            go_roundw
            case rel => exact ⟨k', y, (k' : Int) - 1, by omega, by go_num, rfl, rfl, hn, trivial⟩
            case measure => simp [intOf]

set_option maxHeartbeats 1000000 in
theorem sPieceOf_any (u : Value) (l r : List Int) (ps : List Pv) (v : Int) (w : World) (B : Nat) (hv : Ck w B u l r ps) (hB : B ≤ w.heap.size) :
    Calls Try.prog 124 #[u, .int .i64 v] w (RetII w (pieceP l r ps v)) := by
  obtain ⟨a1, c1, a2, c2, a3, c3, rfl, i1, i2, i3⟩ := hv.form
  have X := hide (Kn.one w #[.slice a1 l.length c1, .slice a2 r.length c2, .slice a3 ps.length c3] 25)
  obtain ⟨w1, hw1⟩ : ∃ w1, w1 = w.alloc (.cells #[.slice a1 l.length c1, .slice a2 r.length c2, .slice a3 ps.length c3] 25) := ⟨_, rfl⟩
  rw [← hw1] at X
  have HI3 := hide (fun (W : World) (h : Below w.heap.size w W) => i3.below h hB)
  have HV := hide (fun (W : World) (h : Below w.heap.size w W) => hv.below h hB)
  clear i1 i2 i3 hv
  obtain ⟨q, hq⟩ : ∃ q, q = pieceP l r ps v := ⟨_, rfl⟩
  rw [← hq]
  obtain ⟨x, y⟩ := q
  unfold pieceP at hq
  obtain ⟨t, ht⟩ : ∃ t, t = isCk l r ps := ⟨_, rfl⟩
  rw [← ht] at hq
  have HQ := hide hq
  clear hq
  have HT := hide ht
  clear ht
  have d0 : w1.cell? ⟨w.heap.size, 0, none⟩ = some (.slice a1 l.length c1) := X.out.cell 0 0 rfl rfl
  have d1 : w1.cell? ⟨w.heap.size, 1, none⟩ = some (.slice a2 r.length c2) := X.out.cell 0 1 rfl rfl
  have d2 : w1.cell? ⟨w.heap.size, 2, none⟩ = some (.slice a3 ps.length c3) := X.out.cell 0 2 rfl rfl
  go_enter Try.func124, Try.ntmps124
  go_wp2_with fail
  rw [← hw1]
  clear hw1
  go_at_call 80
  refine (sIsCk_any _ l r ps _ B (HV.out _ X.out.below) (Nat.le_trans hB X.out.below.size)).mono ?_
  rintro e w2 ⟨rfl, hb⟩
  rw [← HT.out]
  have X := hide (X.out.up hb)
  clear hb d0 d1 d2
  cases t
  · have hf := hide (show (x, y) = (0, 0) by rw [HQ.out, if_neg (by simp)])
    go_wp2_with fail
    go_ret2
    exact ⟨by obtain ⟨rfl, rfl⟩ := Prod.mk.inj hf.out; rfl, X.out.below⟩
  · by_cases hin : -1000 ≤ v ∧ v ≤ 1000
    · have hf := hide (show (x, y) = (loP ps v 0, hiP ps v l.length) by rw [HQ.out, if_pos ⟨rfl, hin⟩])
      have d0 : w2.cell? ⟨w.heap.size, 0, none⟩ = some (.slice a1 l.length c1) := X.out.cell 0 0 rfl rfl
      have d2 : w2.cell? ⟨w.heap.size, 2, none⟩ = some (.slice a3 ps.length c3) := X.out.cell 0 2 rfl rfl
      go_wp2_with fail
      go_at_call 81
      refine (in_yes v (-1000) 1000 _ hin.1 hin.2).mono ?_
      rintro e wa ⟨rfl, rfl⟩
      clear hin
      go_wp2_with fail
      go_at_call 165
      refine (sPiece_any _ ps _ v _ B (HI3.out _ X.out.below)).mono ?_
      rintro e wa ⟨rfl, rfl⟩
      go_wp2_with fail
      go_ret2
      exact ⟨by obtain ⟨rfl, rfl⟩ := Prod.mk.inj hf.out; rfl, X.out.below⟩
    · have hf := hide (show (x, y) = (0, 0) by rw [HQ.out, if_neg (fun h => hin h.2)])
      go_wp2_with fail
      go_at_call 81
      refine (in_no v (-1000) 1000 _ (by omega)).mono ?_
      rintro e wa ⟨rfl, rfl⟩
      clear hin
      go_wp2_with fail
      go_ret2
      exact ⟨by obtain ⟨rfl, rfl⟩ := Prod.mk.inj hf.out; rfl, X.out.below⟩

theorem bound_yes (v : Int) (w : World) (h1 : -1000 ≤ v) (h2 : v ≤ 1000) : Calls Try.prog 147 #[.int .i64 v] w fun e w' => e = .returned (.bool true) ∧ w = w' := by
  go_enter Try.func147, Try.ntmps147
  go_wp2
  go_ret
  exact ⟨rfl, rfl⟩

theorem bound_no (v : Int) (w : World) (h : v < -1000 ∨ 1000 < v) : Calls Try.prog 147 #[.int .i64 v] w fun e w' => e = .returned (.bool false) ∧ w = w' := by
  by_cases h1 : -1000 ≤ v
  · have h2 : decide (v ≤ 1000) = false := by simp; omega
    go_enter Try.func147, Try.ntmps147
    go_wp2
    go_ret
    exact ⟨rfl, rfl⟩
  · go_enter Try.func147, Try.ntmps147
    go_wp2
    go_ret
    exact ⟨rfl, rfl⟩

set_option maxHeartbeats 2000000 in
theorem iPieceOf_any (u : Value) (l r : List Int) (ps : List Pv) (v : Int) (w : World) (B : Nat) (hv : Ck w B u l r ps) (hB : B ≤ w.heap.size) :
    Calls Try.prog 169 #[u, .int .i64 v] w (RetII w (pieceP l r ps v)) := by
  obtain ⟨a1, c1, a2, c2, a3, c3, rfl, i1, i2, i3⟩ := hv.form
  have X := hide (Kn.one w #[.slice a1 l.length c1, .slice a2 r.length c2, .slice a3 ps.length c3] 25)
  obtain ⟨w1, hw1⟩ : ∃ w1, w1 = w.alloc (.cells #[.slice a1 l.length c1, .slice a2 r.length c2, .slice a3 ps.length c3] 25) := ⟨_, rfl⟩
  rw [← hw1] at X
  have HI3 := hide (fun (W : World) (h : Below w.heap.size w W) => i3.below h hB)
  have HV := hide (fun (W : World) (h : Below w.heap.size w W) => hv.below h hB)
  have hpl : ps.length ≤ 9223372036854775807 := by obtain ⟨_, _, _, h, _⟩ := i3; exact h
  clear i1 i2 i3 hv
  obtain ⟨q, hq⟩ : ∃ q, q = pieceP l r ps v := ⟨_, rfl⟩
  rw [← hq]
  obtain ⟨x, y⟩ := q
  unfold pieceP at hq
  obtain ⟨t, ht⟩ : ∃ t, t = isCk l r ps := ⟨_, rfl⟩
  rw [← ht] at hq
  have HQ := hide hq
  clear hq
  have HT := hide ht
  clear ht
  have d0 : w1.cell? ⟨w.heap.size, 0, none⟩ = some (.slice a1 l.length c1) := X.out.cell 0 0 rfl rfl
  have d1 : w1.cell? ⟨w.heap.size, 1, none⟩ = some (.slice a2 r.length c2) := X.out.cell 0 1 rfl rfl
  have d2 : w1.cell? ⟨w.heap.size, 2, none⟩ = some (.slice a3 ps.length c3) := X.out.cell 0 2 rfl rfl
  go_enter Try.func169, Try.ntmps169
  go_wp2_with fail
  rw [← hw1]
  clear hw1
  go_at_call 82
  refine (iIsCk_any _ l r ps _ B (HV.out _ X.out.below) (Nat.le_trans hB X.out.below.size)).mono ?_
  rintro e w2 ⟨rfl, hb⟩
  rw [← HT.out]
  have X := hide (X.out.up hb)
  clear hb d0 d1 d2
  cases t
  · have hf := hide (show (x, y) = (0, 0) by rw [HQ.out, if_neg (by simp)])
    go_wp2_with fail
    go_ret2
    exact ⟨by obtain ⟨rfl, rfl⟩ := Prod.mk.inj hf.out; rfl, X.out.below⟩
  · by_cases hin : -1000 ≤ v ∧ v ≤ 1000
    · have hq := HQ.out
      rw [if_pos ⟨rfl, hin⟩] at hq
      obtain ⟨hx, hy⟩ := Prod.mk.inj hq
      have HX := hide hx
      have HY := hide hy
      have HS := hide (isCk_parts HT.out.symm).2.2.2
      have d2 : w2.cell? ⟨w.heap.size, 2, none⟩ = some (.slice a3 ps.length c3) := X.out.cell 0 2 rfl rfl
      clear hq hx hy
      go_wp2_with fail
      go_at_call 147
      refine (bound_yes v _ hin.1 hin.2).mono ?_
      rintro e wa ⟨rfl, rfl⟩
      clear hin
      go_wp2_with fail
      clear d2
      go_loopw [6, 20] (fun q i wr => ∃ (k : Nat) (z : Int), k ≤ ps.length ∧ i = .int .i64 k ∧ q = .int .i64 z ∧ Hid (x = loP (ps.drop k) v z) ∧ Hid (y = hiP (ps.drop k) v l.length) ∧ Hid (Kn w wr [(w.heap.size, #[.slice a1 l.length c1, .slice a2 r.length c2, .slice a3 ps.length c3], 25)])) (fun _ i _ => ps.length - (intOf i).toNat)
      case atStart => exact ⟨0, 0, by omega, rfl, rfl, by simpa [Hid] using HX.out, by simpa [Hid] using HY.out, X.out⟩
      case round =>
        clear X
        obtain ⟨k, z, hk, rfl, rfl, hx, hy, Y⟩ := hrel
        by_cases hlt : k < ps.length
        · have hi := HI3.out _ Y.out.below
          obtain ⟨a', c', he, _, _, hcell⟩ := hi
          obtain ⟨rfl, rfl⟩ : a3 = a' ∧ c3 = c' := by
            simp only [Value.slice.injEq] at he
            exact ⟨he.1, he.2.2⟩
          obtain ⟨b, o, rfl, hbB, hc, hc2⟩ := hcell k hlt
          have hs1 := loP_at ps v z k hlt
          have hs2 := hiP_at ps v l.length k hlt
          have hs3 := fun h => loP_above v (ps.drop (k + 1)) (if ps[k].1 ≤ v then ps[k].2 else z) (later_above HS.out k hlt v h)
          obtain ⟨p, hp⟩ : ∃ p, p = ps[k] := ⟨_, rfl⟩
          rw [← hp] at hc hc2 hs1 hs2 hs3
          obtain ⟨m, n⟩ := p
          simp only at hc hc2 hs1 hs2 hs3
          clear he hcell hp
          have Z := hide (Y.out.alloc #[.int .i64 m, .int .i64 n] 147)
          have ZB := hide (Z.out.sub (List.sublist_append_left _ _))
          obtain ⟨wx, hwx⟩ : ∃ wx, wx = wr.alloc (.cells #[.int .i64 m, .int .i64 n] 147) := ⟨_, rfl⟩
          rw [← hwx] at Z ZB
          simp only [List.nil_append, List.cons_append] at Z
          by_cases e1 : m ≤ v
          · have t1 : decide (m ≤ v) = true := by simp; omega
            rw [if_pos e1] at hs1 hs3
            by_cases e2 : v ≤ m
            · have t2 : decide (m ≥ v) = true := by simp; omega
              have t3 : decide (v ≤ m) = true := by simp; omega
              have hf := hide (show x = n ∧ y = n from ⟨by rw [hx.out, hs1, hs3 e2], by rw [hy.out, hs2, if_pos e2]⟩)
              clear hs1 hs2 hs3 e1 e2
              go_wp2_with fail
              rw [← hwx]
              clear hwx hc hc2
              have z0 : wx.cell? ⟨wr.heap.size, 0, none⟩ = some (.int .i64 m) := Z.out.cell 1 0 rfl rfl
              have z1 : wx.cell? ⟨wr.heap.size, 1, none⟩ = some (.int .i64 n) := Z.out.cell 1 1 rfl rfl
              go_wp2_with fail
              go_quiet (fail)
              go_wp2_with fail
              go_ret2
              exact ⟨by rw [hf.out.1, hf.out.2]; rfl, (Z.out.drewN _).below⟩
            · have t2 : decide (m ≥ v) = false := by simp; omega
              have t3 : decide (v ≤ m) = false := by simp; omega
              have hn1 := hide (show x = loP (ps.drop (k + 1)) v n by rw [hx.out, hs1])
              have hn2 := hide (show y = hiP (ps.drop (k + 1)) v l.length by rw [hy.out, hs2, if_neg e2])
              clear hs1 hs2 hs3 e1 e2
              go_wp2_with fail
              rw [← hwx]
              clear hwx hc hc2
              go_roundw
              case rel => exact ⟨k + 1, n, by omega, by go_num, rfl, hn1, hn2, ZB.out⟩
              case measure => simp [intOf]; omega
          · have t1 : decide (m ≤ v) = false := by simp; omega
            have t2 : decide (m ≥ v) = true := by simp; omega
            have t3 : decide (v ≤ m) = true := by simp; omega
            rw [if_neg e1] at hs1 hs3
            have hf := hide (show x = z ∧ y = n from ⟨by rw [hx.out, hs1, hs3 (by omega)], by rw [hy.out, hs2, if_pos (by omega)]⟩)
            clear hs1 hs2 hs3 e1
            go_wp2_with fail
            rw [← hwx]
            clear hwx hc hc2
            have z0 : wx.cell? ⟨wr.heap.size, 0, none⟩ = some (.int .i64 m) := Z.out.cell 1 0 rfl rfl
            have z1 : wx.cell? ⟨wr.heap.size, 1, none⟩ = some (.int .i64 n) := Z.out.cell 1 1 rfl rfl
            go_wp2_with fail
            go_quiet (fail)
            go_wp2_with fail
            go_ret2
            exact ⟨by rw [hf.out.1, hf.out.2]; rfl, (Z.out.drewN _).below⟩
        · have hke : k = ps.length := by omega
          subst hke
          have hf := hide (show x = z ∧ y = l.length from ⟨by rw [hx.out, List.drop_length]; rfl, by rw [hy.out, List.drop_length]; rfl⟩)
          have d0 : wr.cell? ⟨w.heap.size, 0, none⟩ = some (.slice a1 l.length c1) := Y.out.cell 0 0 rfl rfl
          go_wp2_with fail
          go_quiet (fail)
          go_wp2_with fail
          go_ret2
          exact ⟨by rw [hf.out.1, hf.out.2]; rfl, (Y.out.drewN _).below⟩
    · have hf := hide (show (x, y) = (0, 0) by rw [HQ.out, if_neg (fun h => hin h.2)])
      go_wp2_with fail
      go_at_call 147
      refine (bound_no v _ (by omega)).mono ?_
      rintro e wa ⟨rfl, rfl⟩
      clear hin
      go_wp2_with fail
      go_ret2
      exact ⟨by obtain ⟨rfl, rfl⟩ := Prod.mk.inj hf.out; rfl, X.out.below⟩

end Go.Proofs.Ytepkkeclkdlheaa
