/- Several texts in one: CkV, CkF, PtM, Ock, CrD, CrM, SrtM, SrtS, CrP, Fix, Dec, Cur, Draw, Draw2, Kd, DrawR, DrC, FpM, ApS, CrS, DrD, CkX. -/
import Derived.Test.YtajfhalalnlejaaCkQ
import Derived.Test.YtajfhalalnlejaaCkL
import Derived.Test.YtajfhalalnlejaaPtS
import Derived.Test.YtajfhalalnlejaaCkO
import Derived.Test.YtajfhalalnlejaaSw
import Derived.Test.YtajfhalalnlejaaAdC
import Derived.Test.YtajfhalalnlejaaSwp
import Derived.Test.YtajfhalalnlejaaCln
import Derived.Test.YtajfhalalnlejaaRng2
import Derived.Test.YtajfhalalnlejaaKit
import Derived.Deep.QuietTactic
import Derived.BigQuiet
import Derived.ProofKit
import Derived.OpenShut
import Derived.Test.YtajfhalalnlejaaOwn
import Derived.Test.YtajfhalalnlejaaScan
import Derived.Deep.AppendLies
import Derived.Test.YtajfhalalnlejaaCpI
import Derived.Test.YtajfhalalnlejaaApD
import Derived.Test.YtajfhalalnlejaaIn
import Derived.Test.YtajfhalalnlejaaAdT
import Derived.Test.YtajfhalalnlejaaCkE
/- What PieceOf returns: of the reference and of the program (promise 3). -/
namespace Go.Proofs.Ytajfhalalnlejaa
open Go.RowKit Go.ChangeShapes
set_option linter.unusedSimpArgs false
set_option linter.unusedVariables false
set_option maxRecDepth 100000

/-- Two numbers are returned; nothing that was there has turned. -/
def RetII (w : World) (p : Int × Int) (e : Ending) (w' : World) : Prop := e = .returned (.tuple #[.int .i64 p.1, .int .i64 p.2]) ∧ Below w.heap.size w w'

/-- The place of the last pivot whose value is at most v; a if there is none. -/
def loP : List Pv → Int → Int → Int
  | [], _, a => a
  | p :: ps, v, a => loP ps v (if p.1 ≤ v then p.2 else a)

/-- The place of the first pivot whose value is at least v; n if there is none. -/
def hiP : List Pv → Int → Int → Int
  | [], _, n => n
  | p :: ps, v, n => if v ≤ p.1 then p.2 else hiP ps v n

theorem loP_at (ps : List Pv) (v a : Int) (k : Nat) (h : k < ps.length) : loP (ps.drop k) v a = loP (ps.drop (k + 1)) v (if ps[k].1 ≤ v then ps[k].2 else a) := by
  rw [List.drop_eq_getElem_cons h]; rfl

theorem hiP_at (ps : List Pv) (v n : Int) (k : Nat) (h : k < ps.length) : hiP (ps.drop k) v n = if v ≤ ps[k].1 then ps[k].2 else hiP (ps.drop (k + 1)) v n := by
  rw [List.drop_eq_getElem_cons h]; rfl

theorem hiP_append (v : Int) : ∀ (a b : List Pv) (n : Int), hiP (a ++ b) v n = hiP a v (hiP b v n)
  | [], b, n => rfl
  | p :: a, b, n => by
    simp only [List.cons_append, hiP]
    split
    · rfl
    · exact hiP_append v a b n

theorem hiP_take (ps : List Pv) (v n : Int) (k : Nat) (h : k < ps.length) : hiP (ps.take (k + 1)) v n = hiP (ps.take k) v (if v ≤ ps[k].1 then ps[k].2 else n) := by
  rw [List.take_succ_eq_append_getElem h, hiP_append]; rfl

theorem loP_above (v : Int) : ∀ (qs : List Pv) (a : Int), (∀ q ∈ qs, v < q.1) → loP qs v a = a
  | [], a, _ => rfl
  | q :: qs, a, h => by
    have h1 := h q (by simp)
    rw [loP, if_neg (by omega)]
    exact loP_above v qs a fun x hx => h x (List.mem_cons_of_mem _ hx)

theorem pv_sorted {l : List Int} {ps : List Pv} (h : PvsOk l ps) (i : Nat) : ∀ j (_ : i < j) (hj : j < ps.length), (ps[i]'(by omega)).1 < ps[j].1
  | 0, hij, _ => by omega
  | j + 1, hij, hj => by
    have h1 := (h (j + 1) hj).1
    rw [prevV_succ ps j (by omega)] at h1
    by_cases e : i = j
    · subst e; exact h1
    · have := pv_sorted h i j (by omega) (by omega)
      omega

theorem later_above {l : List Int} {ps : List Pv} (h : PvsOk l ps) (k : Nat) (hk : k < ps.length) (v : Int) (hv : v ≤ ps[k].1) : ∀ q ∈ ps.drop (k + 1), v < q.1 := by
  intro q hq
  obtain ⟨j, hj, rfl⟩ := List.getElem_of_mem hq
  rw [List.getElem_drop]
  have := pv_sorted h k (k + 1 + j) (by omega) (by simp at hj; omega)
  omega

open Classical in
/-- The piece that would be divided at v. -/
noncomputable def pieceP (l r : List Int) (ps : List Pv) (v : Int) : Int × Int := if isCk l r ps = true ∧ -1000 ≤ v ∧ v ≤ 1000 then (loP ps v 0, hiP ps v l.length) else (0, 0)

set_option maxHeartbeats 2000000 in
theorem sPiece_any (u : Value) (ps : List Pv) (n v : Int) (w : World) (B : Nat) (hu : Pvs w B u ps) :
    Calls Try.prog 98 #[.int .i64 n, u, .int .i64 v] w fun e w' => e = .returned (.tuple #[.int .i64 (loP ps v 0), .int .i64 (hiP ps v n)]) ∧ w = w' := by
  obtain ⟨a, cap, rfl, hlen, -, hcell⟩ := hu
  have HC := hide hcell
  clear hcell
  obtain ⟨A, hA⟩ : ∃ A, A = loP ps v 0 := ⟨_, rfl⟩
  obtain ⟨C, hC⟩ : ∃ C, C = hiP ps v n := ⟨_, rfl⟩
  rw [← hA, ← hC]
  have HA := hide hA
  have HH := hide hC
  clear hA hC
  go_enter Try.func98, Try.ntmps98
  go_wp2
  go_loopw [8, 10] (fun q i wr => ∃ (k : Nat) (z : Int), k ≤ ps.length ∧ i = .int .i64 k ∧ q = .int .i64 z ∧ Hid (A = loP (ps.drop k) v z) ∧ w = wr) (fun _ i _ => ps.length - (intOf i).toNat)
  case atStart => exact ⟨0, 0, by omega, rfl, rfl, by simpa [Hid] using HA.out, rfl⟩
  case round =>
    obtain ⟨k, z, hk, rfl, rfl, hz, rfl⟩ := hrel
    by_cases hlt : k < ps.length
    · obtain ⟨b, o, rfl, hbB, hc, hc2⟩ := HC.out k hlt
      have hst := loP_at ps v z k hlt
      obtain ⟨p, hp⟩ : ∃ p, p = ps[k] := ⟨_, rfl⟩
      rw [← hp] at hc hc2 hst
      obtain ⟨x, y⟩ := p
      simp only at hc hc2 hst
      clear hp
      by_cases e : x ≤ v
      · have hn := hide (show A = loP (ps.drop (k + 1)) v y by rw [hz.out, hst, if_pos e])
        have t1 : decide (x ≤ v) = true := by simp; omega
        clear hst e
        go_wp2
        go_roundw
        case rel => exact ⟨k + 1, y, by omega, by go_num, rfl, hn, trivial⟩
        case measure => simp [intOf]; omega
      · have hn := hide (show A = loP (ps.drop (k + 1)) v z by rw [hz.out, hst, if_neg e])
        have t1 : decide (x ≤ v) = false := by simp; omega
        clear hst e
        go_wp2
        go_roundw
        case rel => exact ⟨k + 1, z, by omega, by go_num, rfl, hn, trivial⟩
        case measure => simp [intOf]; omega
    · have hke : k = ps.length := by omega
      subst hke
      have hzA : z = A := by rw [hz.out, List.drop_length]; rfl
      subst hzA
      go_wp2
      go_loopw [9, 11] (fun q i wr => ∃ (k : Nat) (y j : Int), k ≤ ps.length ∧ i = .int .i64 j ∧ j = (k : Int) - 1 ∧ q = .int .i64 y ∧ Hid (C = hiP (ps.take k) v y) ∧ w = wr) (fun _ i _ => (intOf i + 1).toNat)
      case atStart => exact ⟨ps.length, n, _, Nat.le_refl _, rfl, rfl, rfl, by show _ = _; rw [List.take_of_length_le (Nat.le_refl _)]; exact HH.out, rfl⟩
      case round =>
        obtain ⟨k, y, j, hk, rfl, hj, rfl, hy, rfl⟩ := hrel
        by_cases h0 : k = 0
        · subst h0
          obtain rfl : j = -1 := by omega
          have hf := hide (show C = y by rw [hy.out]; rfl)
          clear hj hk
          go_wp2
          go_ret2
          exact ⟨by rw [hf.out]; rfl, rfl⟩
        · obtain ⟨k', rfl⟩ : ∃ k', k = k' + 1 := ⟨k - 1, by omega⟩
          obtain rfl : j = (k' : Int) := by omega
          obtain ⟨b, o, rfl, hbB, hc, hc2⟩ := HC.out k' (by omega)
          have hst := hiP_take ps v y k' (by omega)
          obtain ⟨p, hp⟩ : ∃ p, p = ps[k']'(by omega) := ⟨_, rfl⟩
          rw [← hp] at hc hc2 hst
          obtain ⟨x, q⟩ := p
          simp only at hc hc2 hst
          clear hp
          by_cases e : v ≤ x
          · have hn := hide (show C = hiP (ps.take k') v q by rw [hy.out, hst, if_pos e])
            have t1 : decide (v ≤ x) = true := by simp; omega
            have t2 : decide (x ≥ v) = true := by simp; omega
            clear hst e hj h0
            go_wp2
            go_roundw
            case rel => exact ⟨k', q, (k' : Int) - 1, by omega, by go_num, rfl, rfl, hn, trivial⟩
            case measure => simp [intOf]
          · have hn := hide (show C = hiP (ps.take k') v y by rw [hy.out, hst, if_neg e])
            have t1 : decide (v ≤ x) = false := by simp; omega
            have t2 : decide (x ≥ v) = false := by simp; omega
            clear hst e hj h0
            go_wp2
            go_roundw
            case rel => exact ⟨k', y, (k' : Int) - 1, by omega, by go_num, rfl, rfl, hn, trivial⟩
            case measure => simp [intOf]

set_option maxHeartbeats 1000000 in
theorem sPieceOf_any (u : Value) (l r : List Int) (ps : List Pv) (v : Int) (w : World) (B : Nat) (hv : Ck w B u l r ps) (hB : B ≤ w.heap.size) :
    Calls Try.prog 50 #[u, .int .i64 v] w (RetII w (pieceP l r ps v)) := by
  obtain ⟨a1, c1, a2, c2, a3, c3, rfl, i1, i2, i3⟩ := hv.form
  have X := hide (Kn.one w #[.slice a1 l.length c1, .slice a2 r.length c2, .slice a3 ps.length c3] 27)
  obtain ⟨w1, hw1⟩ : ∃ w1, w1 = w.alloc (.cells #[.slice a1 l.length c1, .slice a2 r.length c2, .slice a3 ps.length c3] 27) := ⟨_, rfl⟩
  rw [← hw1] at X
  have HI3 := hide (fun (W : World) (h : Below w.heap.size w W) => i3.below h hB)
  have HV := hide (fun (W : World) (h : Below w.heap.size w W) => hv.below h hB)
  clear i1 i2 i3 hv
  obtain ⟨q, hq⟩ : ∃ q, q = pieceP l r ps v := ⟨_, rfl⟩
  rw [← hq]
  obtain ⟨x, y⟩ := q
  unfold pieceP at hq
  obtain ⟨t, ht⟩ : ∃ t, t = isCk l r ps := ⟨_, rfl⟩
  rw [← ht] at hq
  have HQ := hide hq
  clear hq
  have HT := hide ht
  clear ht
  have d0 : w1.cell? ⟨w.heap.size, 0, none⟩ = some (.slice a1 l.length c1) := X.out.cell 0 0 rfl rfl
  have d1 : w1.cell? ⟨w.heap.size, 1, none⟩ = some (.slice a2 r.length c2) := X.out.cell 0 1 rfl rfl
  have d2 : w1.cell? ⟨w.heap.size, 2, none⟩ = some (.slice a3 ps.length c3) := X.out.cell 0 2 rfl rfl
  go_enter Try.func50, Try.ntmps50
  go_wp2_with fail
  rw [← hw1]
  clear hw1
  go_at_call 35
  refine (sIsCk_any _ l r ps _ B (HV.out _ X.out.below) (Nat.le_trans hB X.out.below.size)).mono ?_
  rintro e w2 ⟨rfl, hb⟩
  rw [← HT.out]
  have X := hide (X.out.up hb)
  clear hb d0 d1 d2
  cases t
  · have hf := hide (show (x, y) = (0, 0) by rw [HQ.out, if_neg (by simp)])
    go_wp2_with fail
    go_ret2
    exact ⟨by obtain ⟨rfl, rfl⟩ := Prod.mk.inj hf.out; rfl, X.out.below⟩
  · by_cases hin : -1000 ≤ v ∧ v ≤ 1000
    · have hf := hide (show (x, y) = (loP ps v 0, hiP ps v l.length) by rw [HQ.out, if_pos ⟨rfl, hin⟩])
      have d0 : w2.cell? ⟨w.heap.size, 0, none⟩ = some (.slice a1 l.length c1) := X.out.cell 0 0 rfl rfl
      have d2 : w2.cell? ⟨w.heap.size, 2, none⟩ = some (.slice a3 ps.length c3) := X.out.cell 0 2 rfl rfl
      go_wp2_with fail
      go_at_call 82
      refine (in_yes v (-1000) 1000 _ hin.1 hin.2).mono ?_
      rintro e wa ⟨rfl, rfl⟩
      clear hin
      go_wp2_with fail
      go_at_call 98
      refine (sPiece_any _ ps _ v _ B (HI3.out _ X.out.below)).mono ?_
      rintro e wa ⟨rfl, rfl⟩
      go_wp2_with fail
      go_ret2
      exact ⟨by obtain ⟨rfl, rfl⟩ := Prod.mk.inj hf.out; rfl, X.out.below⟩
    · have hf := hide (show (x, y) = (0, 0) by rw [HQ.out, if_neg (fun h => hin h.2)])
      go_wp2_with fail
      go_at_call 82
      refine (in_no v (-1000) 1000 _ (by omega)).mono ?_
      rintro e wa ⟨rfl, rfl⟩
      clear hin
      go_wp2_with fail
      go_ret2
      exact ⟨by obtain ⟨rfl, rfl⟩ := Prod.mk.inj hf.out; rfl, X.out.below⟩

theorem bound_yes (v : Int) (w : World) (h1 : -1000 ≤ v) (h2 : v ≤ 1000) : Calls Try.prog 118 #[.int .i64 v] w fun e w' => e = .returned (.bool true) ∧ w = w' := by
  go_enter Try.func118, Try.ntmps118
  go_wp2
  go_ret
  exact ⟨rfl, rfl⟩

theorem bound_no (v : Int) (w : World) (h : v < -1000 ∨ 1000 < v) : Calls Try.prog 118 #[.int .i64 v] w fun e w' => e = .returned (.bool false) ∧ w = w' := by
  by_cases h1 : -1000 ≤ v
  · have h2 : decide (v ≤ 1000) = false := by simp; omega
    go_enter Try.func118, Try.ntmps118
    go_wp2
    go_ret
    exact ⟨rfl, rfl⟩
  · go_enter Try.func118, Try.ntmps118
    go_wp2
    go_ret
    exact ⟨rfl, rfl⟩

set_option maxHeartbeats 2000000 in
theorem iPieceOf_any (u : Value) (l r : List Int) (ps : List Pv) (v : Int) (w : World) (B : Nat) (hv : Ck w B u l r ps) (hB : B ≤ w.heap.size) :
    Calls Try.prog 103 #[u, .int .i64 v] w (RetII w (pieceP l r ps v)) := by
  obtain ⟨a1, c1, a2, c2, a3, c3, rfl, i1, i2, i3⟩ := hv.form
  have X := hide (Kn.one w #[.slice a1 l.length c1, .slice a2 r.length c2, .slice a3 ps.length c3] 27)
  obtain ⟨w1, hw1⟩ : ∃ w1, w1 = w.alloc (.cells #[.slice a1 l.length c1, .slice a2 r.length c2, .slice a3 ps.length c3] 27) := ⟨_, rfl⟩
  rw [← hw1] at X
  have HI3 := hide (fun (W : World) (h : Below w.heap.size w W) => i3.below h hB)
  have HV := hide (fun (W : World) (h : Below w.heap.size w W) => hv.below h hB)
  have hpl : ps.length ≤ 9223372036854775807 := by obtain ⟨_, _, _, h, _⟩ := i3; exact h
  clear i1 i2 i3 hv
  obtain ⟨q, hq⟩ : ∃ q, q = pieceP l r ps v := ⟨_, rfl⟩
  rw [← hq]
  obtain ⟨x, y⟩ := q
  unfold pieceP at hq
  obtain ⟨t, ht⟩ : ∃ t, t = isCk l r ps := ⟨_, rfl⟩
  rw [← ht] at hq
  have HQ := hide hq
  clear hq
  have HT := hide ht
  clear ht
  have d0 : w1.cell? ⟨w.heap.size, 0, none⟩ = some (.slice a1 l.length c1) := X.out.cell 0 0 rfl rfl
  have d1 : w1.cell? ⟨w.heap.size, 1, none⟩ = some (.slice a2 r.length c2) := X.out.cell 0 1 rfl rfl
  have d2 : w1.cell? ⟨w.heap.size, 2, none⟩ = some (.slice a3 ps.length c3) := X.out.cell 0 2 rfl rfl
  go_enter Try.func103, Try.ntmps103
  go_wp2_with fail
  rw [← hw1]
  clear hw1
  go_at_call 30
  refine (iIsCk_any _ l r ps _ B (HV.out _ X.out.below) (Nat.le_trans hB X.out.below.size)).mono ?_
  rintro e w2 ⟨rfl, hb⟩
  rw [← HT.out]
  have X := hide (X.out.up hb)
  clear hb d0 d1 d2
  cases t
  · have hf := hide (show (x, y) = (0, 0) by rw [HQ.out, if_neg (by simp)])
    go_wp2_with fail
    go_ret2
    exact ⟨by obtain ⟨rfl, rfl⟩ := Prod.mk.inj hf.out; rfl, X.out.below⟩
  · by_cases hin : -1000 ≤ v ∧ v ≤ 1000
    · have hq := HQ.out
      rw [if_pos ⟨rfl, hin⟩] at hq
      obtain ⟨hx, hy⟩ := Prod.mk.inj hq
      have HX := hide hx
      have HY := hide hy
      have HS := hide (isCk_parts HT.out.symm).2.2.2
      have d2 : w2.cell? ⟨w.heap.size, 2, none⟩ = some (.slice a3 ps.length c3) := X.out.cell 0 2 rfl rfl
      clear hq hx hy
      go_wp2_with fail
      go_at_call 118
      refine (bound_yes v _ hin.1 hin.2).mono ?_
      rintro e wa ⟨rfl, rfl⟩
      clear hin
      go_wp2_with fail
      clear d2
      go_loopw [6, 20] (fun q i wr => ∃ (k : Nat) (z : Int), k ≤ ps.length ∧ i = .int .i64 k ∧ q = .int .i64 z ∧ Hid (x = loP (ps.drop k) v z) ∧ Hid (y = hiP (ps.drop k) v l.length) ∧ Hid (Kn w wr [(w.heap.size, #[.slice a1 l.length c1, .slice a2 r.length c2, .slice a3 ps.length c3], 27)])) (fun _ i _ => ps.length - (intOf i).toNat)
      case atStart => exact ⟨0, 0, by omega, rfl, rfl, by simpa [Hid] using HX.out, by simpa [Hid] using HY.out, X.out⟩
      case round =>
        clear X
        obtain ⟨k, z, hk, rfl, rfl, hx, hy, Y⟩ := hrel
        by_cases hlt : k < ps.length
        · have hi := HI3.out _ Y.out.below
          obtain ⟨a', c', he, _, _, hcell⟩ := hi
          obtain ⟨rfl, rfl⟩ : a3 = a' ∧ c3 = c' := by
            simp only [Value.slice.injEq] at he
            exact ⟨he.1, he.2.2⟩
          obtain ⟨b, o, rfl, hbB, hc, hc2⟩ := hcell k hlt
          have hs1 := loP_at ps v z k hlt
          have hs2 := hiP_at ps v l.length k hlt
          have hs3 := fun h => loP_above v (ps.drop (k + 1)) (if ps[k].1 ≤ v then ps[k].2 else z) (later_above HS.out k hlt v h)
          obtain ⟨p, hp⟩ : ∃ p, p = ps[k] := ⟨_, rfl⟩
          rw [← hp] at hc hc2 hs1 hs2 hs3
          obtain ⟨m, n⟩ := p
          simp only at hc hc2 hs1 hs2 hs3
          clear he hcell hp
          have Z := hide (Y.out.alloc #[.int .i64 m, .int .i64 n] 60)
          have ZB := hide (Z.out.sub (List.sublist_append_left _ _))
          obtain ⟨wx, hwx⟩ : ∃ wx, wx = wr.alloc (.cells #[.int .i64 m, .int .i64 n] 60) := ⟨_, rfl⟩
          rw [← hwx] at Z ZB
          simp only [List.nil_append, List.cons_append] at Z
          by_cases e1 : m ≤ v
          · have t1 : decide (m ≤ v) = true := by simp; omega
            rw [if_pos e1] at hs1 hs3
            by_cases e2 : v ≤ m
            · have t2 : decide (m ≥ v) = true := by simp; omega
              have t3 : decide (v ≤ m) = true := by simp; omega
              have hf := hide (show x = n ∧ y = n from ⟨by rw [hx.out, hs1, hs3 e2], by rw [hy.out, hs2, if_pos e2]⟩)
              clear hs1 hs2 hs3 e1 e2
              go_wp2_with fail
              rw [← hwx]
              clear hwx hc hc2
              have z0 : wx.cell? ⟨wr.heap.size, 0, none⟩ = some (.int .i64 m) := Z.out.cell 1 0 rfl rfl
              have z1 : wx.cell? ⟨wr.heap.size, 1, none⟩ = some (.int .i64 n) := Z.out.cell 1 1 rfl rfl
              go_wp2_with fail
              go_quiet (fail)
              go_wp2_with fail
              go_ret2
              exact ⟨by rw [hf.out.1, hf.out.2]; rfl, (Z.out.drewN _).below⟩
            · have t2 : decide (m ≥ v) = false := by simp; omega
              have t3 : decide (v ≤ m) = false := by simp; omega
              have hn1 := hide (show x = loP (ps.drop (k + 1)) v n by rw [hx.out, hs1])
              have hn2 := hide (show y = hiP (ps.drop (k + 1)) v l.length by rw [hy.out, hs2, if_neg e2])
              clear hs1 hs2 hs3 e1 e2
              go_wp2_with fail
              rw [← hwx]
              clear hwx hc hc2
              go_roundw
              case rel => exact ⟨k + 1, n, by omega, by go_num, rfl, hn1, hn2, ZB.out⟩
              case measure => simp [intOf]; omega
          · have t1 : decide (m ≤ v) = false := by simp; omega
            have t2 : decide (m ≥ v) = true := by simp; omega
            have t3 : decide (v ≤ m) = true := by simp; omega
            rw [if_neg e1] at hs1 hs3
            have hf := hide (show x = z ∧ y = n from ⟨by rw [hx.out, hs1, hs3 (by omega)], by rw [hy.out, hs2, if_pos (by omega)]⟩)
            clear hs1 hs2 hs3 e1
            go_wp2_with fail
            rw [← hwx]
            clear hwx hc hc2
            have z0 : wx.cell? ⟨wr.heap.size, 0, none⟩ = some (.int .i64 m) := Z.out.cell 1 0 rfl rfl
            have z1 : wx.cell? ⟨wr.heap.size, 1, none⟩ = some (.int .i64 n) := Z.out.cell 1 1 rfl rfl
            go_wp2_with fail
            go_quiet (fail)
            go_wp2_with fail
            go_ret2
            exact ⟨by rw [hf.out.1, hf.out.2]; rfl, (Z.out.drewN _).below⟩
        · have hke : k = ps.length := by omega
          subst hke
          have hf := hide (show x = z ∧ y = l.length from ⟨by rw [hx.out, List.drop_length]; rfl, by rw [hy.out, List.drop_length]; rfl⟩)
          have d0 : wr.cell? ⟨w.heap.size, 0, none⟩ = some (.slice a1 l.length c1) := Y.out.cell 0 0 rfl rfl
          go_wp2_with fail
          go_quiet (fail)
          go_wp2_with fail
          go_ret2
          exact ⟨by rw [hf.out.1, hf.out.2]; rfl, (Y.out.drewN _).below⟩
    · have hf := hide (show (x, y) = (0, 0) by rw [HQ.out, if_neg (fun h => hin h.2)])
      go_wp2_with fail
      go_at_call 118
      refine (bound_no v _ (by omega)).mono ?_
      rintro e wa ⟨rfl, rfl⟩
      clear hin
      go_wp2_with fail
      go_ret2
      exact ⟨by obtain ⟨rfl, rfl⟩ := Prod.mk.inj hf.out; rfl, X.out.below⟩

end Go.Proofs.Ytajfhalalnlejaa

/- What FindPivot returns: of the reference and of the program (promise 3). -/
namespace Go.Proofs.Ytajfhalalnlejaa
open Go.RowKit Go.ChangeShapes
set_option linter.unusedSimpArgs false
set_option linter.unusedVariables false
set_option maxRecDepth 100000

/-- A number and a truth are returned; nothing that was there has turned. -/
def RetPB (w : World) (p : Int × Bool) (e : Ending) (w' : World) : Prop := e = .returned (.tuple #[.int .i64 p.1, .bool p.2]) ∧ Below w.heap.size w w'

/-- The place of the first pivot of this value, and whether there is one. -/
def fndP : List Pv → Int → Int × Bool
  | [], _ => (0, false)
  | p :: ps, v => if p.1 = v then (p.2, true) else fndP ps v

theorem fndP_at (ps : List Pv) (v : Int) (k : Nat) (h : k < ps.length) : fndP (ps.drop k) v = if ps[k].1 = v then (ps[k].2, true) else fndP (ps.drop (k + 1)) v := by
  rw [List.drop_eq_getElem_cons h]
  rfl

set_option maxHeartbeats 1000000 in
theorem sFindP_any (u : Value) (l r : List Int) (ps : List Pv) (v : Int) (w : World) (B : Nat) (hv : Ck w B u l r ps) (hB : B ≤ w.heap.size) :
    Calls Try.prog 51 #[u, .int .i64 v] w (RetPB w (fndP ps v)) := by
  obtain ⟨a1, c1, a2, c2, a3, c3, rfl, -, -, i3⟩ := hv.form
  have X := hide (Kn.one w #[.slice a1 l.length c1, .slice a2 r.length c2, .slice a3 ps.length c3] 27)
  obtain ⟨w1, hw1⟩ : ∃ w1, w1 = w.alloc (.cells #[.slice a1 l.length c1, .slice a2 r.length c2, .slice a3 ps.length c3] 27) := ⟨_, rfl⟩
  rw [← hw1] at X
  have I3 := i3.below X.out.below hB
  obtain ⟨a3', c3', he, hlen, -, hcell⟩ := I3
  obtain ⟨rfl, rfl⟩ : a3 = a3' ∧ c3 = c3' := by
    simp only [Value.slice.injEq] at he
    exact ⟨he.1, he.2.2⟩
  have HC := hide hcell
  clear he hcell i3 hv
  have d2 := X.out.cell 0 2 rfl rfl
  obtain ⟨q, hq⟩ : ∃ q, q = fndP ps v := ⟨_, rfl⟩
  rw [← hq]
  obtain ⟨x, b⟩ := q
  have HQ := hide hq
  clear hq
  go_enter Try.func51, Try.ntmps51
  go_wp2_with fail
  rw [← hw1]
  clear hw1
  go_loopw [6] (fun i wr => ∃ (k : Nat), k ≤ ps.length ∧ i = .int .i64 k ∧ Hid ((x, b) = fndP (ps.drop k) v) ∧ w1 = wr) (fun i _ => ps.length - (intOf i).toNat)
  case atStart => exact ⟨0, by omega, rfl, by simpa [Hid] using HQ.out, rfl⟩
  case round =>
    obtain ⟨k, hk, rfl, hpre, rfl⟩ := hrel
    by_cases hlt : k < ps.length
    · obtain ⟨bb, o, rfl, hbB, hc, hc2⟩ := HC.out k hlt
      have hst := fndP_at ps v k hlt
      obtain ⟨p, hp⟩ : ∃ p, p = ps[k] := ⟨_, rfl⟩
      rw [← hp] at hc hc2 hst
      obtain ⟨y, z⟩ := p
      simp only at hc hc2 hst
      clear hp
      by_cases hy : y = v
      · have hf := hide (show (x, b) = (z, true) by rw [hpre.out, hst, if_pos hy])
        have ht : decide (y = v) = true := by simp [hy]
        have ht2 : (y == v) = true := by simp [hy]
        clear hst
        go_wp2_with fail
        go_ret2
        exact ⟨by obtain ⟨rfl, rfl⟩ := Prod.mk.inj hf.out; rfl, X.out.below⟩
      · have hf := hide (show (x, b) = fndP (ps.drop (k + 1)) v by rw [hpre.out, hst, if_neg hy])
        have ht : decide (y = v) = false := by simp [hy]
        have ht2 : (y == v) = false := by simp [hy]
        clear hst
        go_wp2_with fail
        go_roundw
        case rel => exact ⟨k + 1, by omega, by go_num, hf, trivial⟩
        case measure => simp [intOf]; omega
    · have hke : k = ps.length := by omega
      subst hke
      have hf := hide (show (x, b) = (0, false) by rw [hpre.out, List.drop_length]; rfl)
      go_wp2_with fail
      go_ret2
      exact ⟨by obtain ⟨rfl, rfl⟩ := Prod.mk.inj hf.out; rfl, X.out.below⟩

set_option maxHeartbeats 1000000 in
theorem iFindP_any (u : Value) (l r : List Int) (ps : List Pv) (v : Int) (w : World) (B : Nat) (hv : Ck w B u l r ps) (hB : B ≤ w.heap.size) :
    Calls Try.prog 119 #[u, .int .i64 v] w (RetPB w (fndP ps v)) := by
  obtain ⟨a1, c1, a2, c2, a3, c3, rfl, -, -, i3⟩ := hv.form
  have X := hide (Kn.one w #[.slice a1 l.length c1, .slice a2 r.length c2, .slice a3 ps.length c3] 27)
  obtain ⟨w1, hw1⟩ : ∃ w1, w1 = w.alloc (.cells #[.slice a1 l.length c1, .slice a2 r.length c2, .slice a3 ps.length c3] 27) := ⟨_, rfl⟩
  rw [← hw1] at X
  have I3 := i3.below X.out.below hB
  obtain ⟨a3', c3', he, hlen, -, hcell⟩ := I3
  obtain ⟨rfl, rfl⟩ : a3 = a3' ∧ c3 = c3' := by
    simp only [Value.slice.injEq] at he
    exact ⟨he.1, he.2.2⟩
  have HC := hide hcell
  clear he hcell i3 hv
  have d2 := X.out.cell 0 2 rfl rfl
  obtain ⟨q, hq⟩ : ∃ q, q = fndP ps v := ⟨_, rfl⟩
  rw [← hq]
  obtain ⟨x, b⟩ := q
  have HQ := hide hq
  have HB1 := hide (Nat.le_trans hB X.out.below.size)
  clear hq
  go_enter Try.func119, Try.ntmps119
  go_wp2_with fail
  rw [← hw1]
  clear hw1
  go_wp2_with fail
  go_loopw [11] (fun i wr => ∃ (k : Nat), k ≤ ps.length ∧ i = .int .i64 k ∧ Hid ((x, b) = fndP (ps.drop k) v) ∧ Below w1.heap.size w1 wr) (fun i _ => ps.length - (intOf i).toNat)
  case atStart => exact ⟨0, by omega, rfl, by simpa [Hid] using HQ.out, Below.refl _ _⟩
  case round =>
    obtain ⟨k, hk, rfl, hpre, hb⟩ := hrel
    by_cases hlt : k < ps.length
    · obtain ⟨bb, o, rfl, hbB, hc, hc2⟩ := HC.out k hlt
      have hst := fndP_at ps v k hlt
      obtain ⟨p, hp⟩ : ∃ p, p = ps[k] := ⟨_, rfl⟩
      rw [← hp] at hc hc2 hst
      obtain ⟨y, z⟩ := p
      simp only at hc hc2 hst
      have d1 : wr.cell? ⟨bb, o + k * 2, none⟩ = some (.int .i64 y) := by rw [hb.cell (p := ⟨bb, o + k * 2, none⟩) (Nat.lt_of_lt_of_le hbB HB1.out)]; exact hc
      have d3 : wr.cell? ⟨bb, o + k * 2 + 1, none⟩ = some (.int .i64 z) := by rw [hb.cell (p := ⟨bb, o + k * 2 + 1, none⟩) (Nat.lt_of_lt_of_le hbB HB1.out)]; exact hc2
      have HBB := hide hb
      clear hp hc hc2 hb
      by_cases hy : y = v
      · have hf := hide (show (x, b) = (z, true) by rw [hpre.out, hst, if_pos hy])
        have ht2 : (y == v) = true := by simp [hy]
        clear hst
        go_wp2_with fail
        go_ret2
        exact ⟨by obtain ⟨rfl, rfl⟩ := Prod.mk.inj hf.out; rfl, X.out.below.trans ((HBB.out.alloc HBB.out.size _).mono X.out.below.size)⟩
      · have hf := hide (show (x, b) = fndP (ps.drop (k + 1)) v by rw [hpre.out, hst, if_neg hy])
        have ht2 : (y == v) = false := by simp [hy]
        clear hst
        go_wp2_with fail
        go_roundw
        case rel => exact ⟨k + 1, by omega, by go_num, hf, HBB.out.alloc HBB.out.size _⟩
        case measure => simp [intOf]; omega
    · have hke : k = ps.length := by omega
      subst hke
      have hf := hide (show (x, b) = (0, false) by rw [hpre.out, List.drop_length]; rfl)
      go_wp2_with fail
      go_ret2
      exact ⟨by obtain ⟨rfl, rfl⟩ := Prod.mk.inj hf.out; rfl, X.out.below.trans (hb.mono X.out.below.size)⟩

end Go.Proofs.Ytajfhalalnlejaa

/- Numbers of a partition: which places its swaps name, how many they are, where its place lies. Any program. -/
namespace Go.Proofs.Ytajfhalalnlejaa
set_option linter.unusedSimpArgs false
set_option linter.unusedVariables false

theorem part_nums (l : List Int) (p : Int) : ∀ (f i e : Nat), (∀ q ∈ (part l p f i e).1, (i : Int) ≤ q.1 ∧ q.1 < q.2 ∧ q.2 < (e : Int)) ∧ 2 * (part l p f i e).1.length + i ≤ max e i ∧ i ≤ (part l p f i e).2 ∧ (part l p f i e).2 ≤ max e i
  | 0, i, e => by
    refine ⟨by simp [part], ?_, ?_, ?_⟩ <;> simp [part] <;> omega
  | f + 1, i, e => by
    by_cases h : i < e
    · rw [part_step l p f i e h]
      by_cases h1 : l.getD i 0 < p
      · rw [if_pos h1]
        obtain ⟨a, b, c, d⟩ := part_nums l p f (i + 1) e
        refine ⟨fun q hq => ?_, by omega, by omega, by omega⟩
        have := a q hq
        omega
      · rw [if_neg h1]
        by_cases h2 : p ≤ l.getD (e - 1) 0
        · rw [if_pos h2]
          obtain ⟨a, b, c, d⟩ := part_nums l p f i (e - 1)
          refine ⟨fun q hq => ?_, by omega, by omega, by omega⟩
          have := a q hq
          omega
        · rw [if_neg h2]
          have hne : i ≠ e - 1 := fun h3 => by rw [← h3] at h2; omega
          obtain ⟨a, b, c, d⟩ := part_nums l p f (i + 1) (e - 1)
          refine ⟨fun q hq => ?_, ?_, ?_, ?_⟩
          · rcases List.mem_cons.1 hq with rfl | hq
            · simp only
              omega
            · have := a q hq
              omega
          · simp only [List.length_cons]
            omega
          · simp only
            omega
          · simp only
            omega
    · rw [part_stop l p _ i e h]
      refine ⟨by simp, ?_, ?_, ?_⟩ <;> simp <;> omega

theorem partP_nums (l : List Int) (a b p : Int) (hl : l.length ≤ 1048576) : (∀ q ∈ (partP l a b p).1, 0 ≤ q.1 ∧ q.1 < q.2 ∧ q.2 < (l.length : Int)) ∧ (partP l a b p).1.length ≤ 1048576 ∧ 0 ≤ (partP l a b p).2 ∧ (partP l a b p).2 ≤ (l.length : Int) := by
  unfold partP
  by_cases h : 0 ≤ a ∧ a ≤ b ∧ b ≤ (l.length : Int)
  · rw [if_pos h]
    obtain ⟨q1, q2, q3, q4⟩ := part_nums l p (b - a).toNat a.toNat b.toNat
    refine ⟨fun q hq => ?_, ?_, ?_, ?_⟩
    · have := q1 q hq
      omega
    · simp only; omega
    · simp only; omega
    · simp only; omega
  · rw [if_neg h]
    refine ⟨by simp, by simp, by simp, by simp⟩

theorem partP_wf (l : List Int) (a b p : Int) (hl : l.length ≤ 1048576) : ∀ q ∈ (partP l a b p).1, I64 q.1 ∧ I64 q.2 := fun q hq => by
  have := (partP_nums l a b p hl).1 q hq
  exact ⟨⟨by omega, by omega⟩, ⟨by omega, by omega⟩⟩

end Go.Proofs.Ytajfhalalnlejaa

/- Small bridges between the words for owned columns, and slices of swaps that came in as an argument (promise 3). -/
namespace Go.Proofs.Ytajfhalalnlejaa
open Go.RowKit Go.ChangeShapes
set_option linter.unusedSimpArgs false
set_option linter.unusedVariables false
set_option maxRecDepth 100000

theorem OC.of_ock {w : World} {x y z : Value} {l r : List Int} {ps : List Pv} {lo n1 n2 hi : Nat} (h1 : Ow w x l lo n1) (h2 : Ow w y r n1 n2) (h3 : Owp w z ps n2 hi) : OC w x y z l r ps lo hi lo n1 n1 n2 n2 hi :=
  ⟨h1, h2, h3, ⟨Nat.le_refl _, h1.le, Nat.le_trans h1.le h2.le⟩, ⟨Nat.le_trans h2.le h3.le, h3.le, Nat.le_refl _⟩, ⟨.inl (Nat.le_refl _), .inl h2.le, .inl (Nat.le_refl _)⟩, Nat.le_trans h1.le (Nat.le_trans h2.le h3.le), h3.top⟩

theorem OwS.nilcap {w : World} {base : Nat} {a : Option Addr} {n c : Nat} {ps : List Pv} (h : OwS w base (.slice a n c) ps) : a = none → c = 0 := by
  rcases h.2 with ⟨hv, _⟩ | ⟨g, cap, cur, hv, _⟩
  · simp only [Value.slice.injEq] at hv
    exact fun _ => hv.2.2
  · simp only [Value.slice.injEq] at hv
    intro h
    rw [hv.1] at h
    cases h

end Go.Proofs.Ytajfhalalnlejaa

/- What CrackAt does, in numbers and words (promise 3). -/
namespace Go.Proofs.Ytajfhalalnlejaa
open Go.RowKit Go.ChangeShapes
set_option linter.unusedSimpArgs false
set_option linter.unusedVariables false
set_option maxRecDepth 100000

/-- The column is valid and v is a bound. -/
noncomputable def crOk (l r : List Int) (ps : List Pv) (v : Int) : Bool := isCk l r ps && decide (-1000 ≤ v ∧ v ≤ 1000)
/-- The column is divided: it is valid, v a bound, and no pivot has this value. -/
noncomputable def crDiv (l r : List Int) (ps : List Pv) (v : Int) : Bool := crOk l r ps v && !(fndP ps v).2
/-- The swaps of the piece, and the place. -/
noncomputable def crPt (l r : List Int) (ps : List Pv) (v : Int) : List Pv × Int := partP l (pieceP l r ps v).1 (pieceP l r ps v).2 v
noncomputable def crS (l r : List Int) (ps : List Pv) (v : Int) : List Pv := if crDiv l r ps v = true then (crPt l r ps v).1 else []
noncomputable def crL (l r : List Int) (ps : List Pv) (v : Int) : List Int := if crDiv l r ps v = true then apL l r (crPt l r ps v).1 else l
noncomputable def crR (l r : List Int) (ps : List Pv) (v : Int) : List Int := if crDiv l r ps v = true then apR l r (crPt l r ps v).1 else r
noncomputable def crP (l r : List Int) (ps : List Pv) (v : Int) : List Pv := if crDiv l r ps v = true then adP (apL l r (crPt l r ps v).1) (apR l r (crPt l r ps v).1) ps (v, (crPt l r ps v).2) else ps

theorem adP_wf {l r : List Int} {ps : List Pv} {p : Pv} (h : ∀ q ∈ ps, I64 q.1 ∧ I64 q.2) (hp : I64 p.1 ∧ I64 p.2) : (∀ q ∈ adP l r ps p, I64 q.1 ∧ I64 q.2) ∧ (adP l r ps p).length ≤ ps.length + 1 := by
  unfold adP
  split
  · exact ⟨adIn_wf h hp, by rw [adIn_length]; exact Nat.le_refl _⟩
  · exact ⟨h, by omega⟩

theorem crack_wf (l r : List Int) (ps : List Pv) (v : Int) (hl : l.length ≤ 1048576) (hr : r.length ≤ 1048576) (hp : ps.length ≤ 1048576) (wl : ∀ x ∈ l, I64 x) (wr : ∀ x ∈ r, I64 x) (wp : ∀ p ∈ ps, I64 p.1 ∧ I64 p.2) (hv : I64 v) :
    (crL l r ps v).length ≤ 1048576 ∧ (crR l r ps v).length ≤ 1048576 ∧ (crP l r ps v).length ≤ 1048577 ∧ (∀ x ∈ crL l r ps v, I64 x) ∧ (∀ x ∈ crR l r ps v, I64 x) ∧ (∀ p ∈ crP l r ps v, I64 p.1 ∧ I64 p.2) ∧ (crS l r ps v).length ≤ 1048576 ∧ ∀ p ∈ crS l r ps v, I64 p.1 ∧ I64 p.2 := by
  unfold crL crR crP crS
  by_cases h : crDiv l r ps v = true
  · simp only [h, if_true]
    obtain ⟨n1, n2, n3, n4⟩ := partP_nums l (pieceP l r ps v).1 (pieceP l r ps v).2 v hl
    have hw := partP_wf l (pieceP l r ps v).1 (pieceP l r ps v).2 v hl
    have ha := adP_wf (l := apL l r (crPt l r ps v).1) (r := apR l r (crPt l r ps v).1) (p := (v, (crPt l r ps v).2)) wp ⟨hv, by unfold crPt; exact ⟨by omega, by omega⟩⟩
    exact ⟨by rw [apL_length]; exact hl, by rw [apR_length]; exact hr, by have := ha.2; omega, apL_wf wl, apR_wf wr, ha.1, n2, hw⟩
  · simp only [h]
    exact ⟨hl, hr, by show ps.length ≤ _; omega, wl, wr, wp, by simp, by simp⟩

/-- A column and swaps of the call's own, and a bool, are returned; nothing that was there has turned. -/
def RetOCSB (w : World) (l r : List Int) (ps sw : List Pv) (b : Bool) (e : Ending) (w' : World) : Prop := ∃ x y z sv lo hi n1 h1 n2 h2 n3 h3 slo shi, e = .returned (.tuple #[.agg #[x, y, z], sv, .bool b]) ∧ (w.heap.size ≤ lo ∧ w.heap.size ≤ slo) ∧ (hi ≤ w'.heap.size ∧ shi ≤ w'.heap.size) ∧ OC w' x y z l r ps lo hi n1 h1 n2 h2 n3 h3 ∧ Osw w' sv sw slo shi ∧ (hi ≤ slo ∨ shi ≤ lo) ∧ Below w.heap.size w w'

theorem Osw.nil {w : World} {n : Nat} (h : n ≤ w.heap.size) : Osw w (.slice none 0 0) [] n n := ⟨OwS.nil _ _, fun g hg => by simp [Value.ownBlock] at hg, Nat.le_refl _, h⟩

end Go.Proofs.Ytajfhalalnlejaa

/- Dividing a column, in numbers (promises 3 and 4): what a partition's swaps leave, that the column stays valid and the same pairs, which pivots there are. Any program. -/
namespace Go.Proofs.Ytajfhalalnlejaa
set_option linter.unusedSimpArgs false
set_option linter.unusedVariables false

theorem swapAt_getD (l : List Int) (i j k : Nat) (hi : i < l.length) (hj : j < l.length) : (swapAt l i j).getD k 0 = if k = j then l.getD i 0 else if k = i then l.getD j 0 else l.getD k 0 := by
  unfold swapAt
  simp only [List.getD_eq_getElem?_getD, List.getElem?_set]
  by_cases h1 : k = j
  · subst h1; simp [hj]
  · rw [if_neg (show ¬ j = k from fun h => h1 h.symm), if_neg h1]
    by_cases h2 : k = i
    · subst h2; simp [hi]
    · rw [if_neg (show ¬ i = k from fun h => h2 h.symm), if_neg h2]

/-- Two places exchanged in any list: the same elements. -/
theorem set_set_perm' {α : Type} (L : List α) (i j : Nat) (hi : i < L.length) (hj : j < L.length) : ((L.set i L[j]).set j L[i]).Perm L := by
  have h := Array.swap_perm (xs := L.toArray) (i := i) (j := j) (by simpa using hi) (by simpa using hj)
  have h2 := h.toList
  rw [Array.toList_swap] at h2
  simpa using h2

theorem zip_swapAt (l r : List Int) (i j : Nat) (h : r.length = l.length) (hi : i < l.length) (hj : j < l.length) : ((swapAt l i j).zip (swapAt r i j)).Perm (l.zip r) := by
  have hz : (l.zip r).length = l.length := by simp; omega
  have e : (swapAt l i j).zip (swapAt r i j) = ((l.zip r).set i ((l.zip r)[j]'(by omega))).set j ((l.zip r)[i]'(by omega)) := by
    apply List.ext_getElem
    · simp [swapAt_length]
    · intro k h1 h2
      simp only [List.getElem_zip, List.getElem_set, swapAt, List.getD_eq_getElem?_getD, List.getElem?_eq_getElem hi, List.getElem?_eq_getElem hj, List.getElem?_eq_getElem (show i < r.length by omega), List.getElem?_eq_getElem (show j < r.length by omega), Option.getD_some]
      split
      · rfl
      · split <;> rfl
  rw [e]
  exact set_set_perm' _ i j _ _

theorem zip_swaps : ∀ (sw : List Pv) (l r : List Int), r.length = l.length → sw.all (swOk l.length) = true → ((swaps l sw).zip (swaps r sw)).Perm (l.zip r)
  | [], l, r, _, _ => .refl _
  | p :: ps, l, r, h, ha => by
    simp only [List.all_cons, Bool.and_eq_true] at ha
    have h1 := ha.1
    unfold swOk at h1
    simp only [Bool.and_eq_true, decide_eq_true_eq] at h1
    simp only [swaps]
    exact (zip_swaps ps _ _ (by rw [swapAt_length, swapAt_length]; exact h) (by rw [swapAt_length]; exact ha.2)).trans (zip_swapAt l r _ _ h (by omega) (by omega))

theorem swaps_perm (sw : List Pv) (l : List Int) (ha : sw.all (swOk l.length) = true) : (swaps l sw).Perm l := by
  have h := (zip_swaps sw l l rfl ha).map Prod.fst
  rwa [List.map_fst_zip (Nat.le_refl _), List.map_fst_zip (Nat.le_refl _)] at h

theorem zip_ap (l r : List Int) (sw : List Pv) : ((apL l r sw).zip (apR l r sw)).Perm (l.zip r) := by
  unfold apL apR
  by_cases h : canSwap l r sw = true
  · rw [if_pos h, if_pos h]
    unfold canSwap at h
    simp only [Bool.and_eq_true, decide_eq_true_eq] at h
    exact zip_swaps sw l r h.1 h.2
  · rw [if_neg h, if_neg h]

/-- Swaps between the places i and e turn nothing outside. -/
theorem swaps_out : ∀ (sw : List Pv) (l : List Int) (i e : Nat), e ≤ l.length → (∀ q ∈ sw, (i : Int) ≤ q.1 ∧ q.1 < q.2 ∧ q.2 < (e : Int)) → ∀ k, k < i ∨ e ≤ k → (swaps l sw).getD k 0 = l.getD k 0
  | [], l, i, e, _, _, k, _ => rfl
  | p :: ps, l, i, e, he, h, k, hk => by
    have h1 := h p (by simp)
    rw [swaps, swaps_out ps _ i e (by rw [swapAt_length]; exact he) (fun q hq => h q (by simp [hq])) k hk, swapAt_getD _ _ _ _ (by omega) (by omega), if_neg (by omega), if_neg (by omega)]

/-- .. and what lies inside comes from inside. -/
theorem swaps_in : ∀ (sw : List Pv) (l : List Int) (i e : Nat), e ≤ l.length → (∀ q ∈ sw, (i : Int) ≤ q.1 ∧ q.1 < q.2 ∧ q.2 < (e : Int)) → ∀ k, i ≤ k → k < e → ∃ k', i ≤ k' ∧ k' < e ∧ (swaps l sw).getD k 0 = l.getD k' 0
  | [], l, i, e, _, _, k, h1, h2 => ⟨k, h1, h2, rfl⟩
  | p :: ps, l, i, e, he, h, k, hk1, hk2 => by
    have h1 := h p (by simp)
    obtain ⟨k', g1, g2, g3⟩ := swaps_in ps (swapAt l p.1.toNat p.2.toNat) i e (by rw [swapAt_length]; exact he) (fun q hq => h q (by simp [hq])) k hk1 hk2
    rw [swaps, g3, swapAt_getD _ _ _ _ (by omega) (by omega)]
    split
    · exact ⟨_, by omega, by omega, rfl⟩
    · split
      · exact ⟨_, by omega, by omega, rfl⟩
      · exact ⟨_, g1, g2, rfl⟩

theorem part_congr (p : Int) : ∀ (f i e : Nat) (l l' : List Int), (∀ k, i ≤ k → k < e → l.getD k 0 = l'.getD k 0) → part l p f i e = part l' p f i e
  | 0, _, _, _, _, _ => rfl
  | f + 1, i, e, l, l', h => by
    by_cases hie : i < e
    · rw [part_step _ _ _ _ _ hie, part_step _ _ _ _ _ hie, h i (Nat.le_refl _) hie, h (e - 1) (by omega) (by omega), part_congr p f (i + 1) e l l' (fun k h1 h2 => h k (by omega) h2), part_congr p f i (e - 1) l l' (fun k h1 h2 => h k h1 (by omega)), part_congr p f (i + 1) (e - 1) l l' (fun k h1 h2 => h k (by omega) (by omega))]
    · rw [part_stop _ _ _ _ _ hie, part_stop _ _ _ _ _ hie]

/-- A partition's swaps leave the smaller elements in front of its place. -/
theorem part_div (p : Int) : ∀ (f i e : Nat) (l : List Int), e - i ≤ f → e ≤ l.length → ∀ k, i ≤ k → k < e → ((swaps l (part l p f i e).1).getD k 0 < p ↔ k < (part l p f i e).2)
  | 0, i, e, l, hf, he, k, h1, h2 => by omega
  | f + 1, i, e, l, hf, he, k, h1, h2 => by
    have hie : i < e := by omega
    rw [part_step _ _ _ _ _ hie]
    by_cases c1 : l.getD i 0 < p
    · rw [if_pos c1]
      obtain ⟨n1, n2, n3, n4⟩ := part_nums l p f (i + 1) e
      by_cases hk : k = i
      · subst hk
        rw [swaps_out _ l (k + 1) e he n1 k (.inl (by omega))]
        exact ⟨fun _ => by omega, fun _ => c1⟩
      · exact part_div p f (i + 1) e l (by omega) he k (by omega) h2
    · rw [if_neg c1]
      by_cases c2 : p ≤ l.getD (e - 1) 0
      · rw [if_pos c2]
        obtain ⟨n1, n2, n3, n4⟩ := part_nums l p f i (e - 1)
        by_cases hk : k = e - 1
        · subst hk
          rw [swaps_out _ l i (e - 1) (by omega) n1 (e - 1) (.inr (Nat.le_refl _))]
          exact ⟨fun h => by omega, fun h => by omega⟩
        · exact part_div p f i (e - 1) l (by omega) (by omega) k h1 (by omega)
      · rw [if_neg c2]
        obtain ⟨n1, n2, n3, n4⟩ := part_nums l p f (i + 1) (e - 1)
        have hl' : (swapAt l i (e - 1)).length = l.length := swapAt_length _ _ _
        have hg := fun k => swapAt_getD l i (e - 1) k (by omega) (by omega)
        by_cases hie2 : i = e - 1
        · exfalso; rw [← hie2] at c2; omega
        have hc := part_congr p f (i + 1) (e - 1) l (swapAt l i (e - 1)) (fun k q1 q2 => by rw [hg k, if_neg (by omega), if_neg (by omega)])
        simp only [swaps]
        rw [show ((i : Int)).toNat = i by omega, show ((e : Int) - 1).toNat = e - 1 by omega]
        by_cases hk1 : k = i
        · subst hk1
          rw [swaps_out _ _ (k + 1) (e - 1) (by omega) n1 k (.inl (by omega)), hg k, if_neg (by omega), if_pos rfl]
          exact ⟨fun _ => by omega, fun _ => by omega⟩
        · by_cases hk2 : k = e - 1
          · subst hk2
            rw [swaps_out _ _ (i + 1) (e - 1) (by omega) n1 (e - 1) (.inr (Nat.le_refl _)), hg (e - 1), if_pos rfl]
            exact ⟨fun h => by omega, fun h => by omega⟩
          · rw [hc]
            exact part_div p f (i + 1) (e - 1) (swapAt l i (e - 1)) (by omega) (by omega) k (by omega) (by omega)

/-- The swaps go inward. -/
theorem part_inward (l : List Int) (p : Int) : ∀ (f i e : Nat), (part l p f i e).1.Pairwise fun a b => a.1 < b.1 ∧ b.2 < a.2
  | 0, _, _ => by simp [part]
  | f + 1, i, e => by
    by_cases hie : i < e
    · rw [part_step _ _ _ _ _ hie]
      split
      · exact part_inward l p f _ _
      · split
        · exact part_inward l p f _ _
        · obtain ⟨n1, -⟩ := part_nums l p f (i + 1) (e - 1)
          refine List.pairwise_cons.2 ⟨fun q hq => ?_, part_inward l p f _ _⟩
          have := n1 q hq
          exact ⟨by omega, by omega⟩
    · rw [part_stop _ _ _ _ _ hie]; simp

/-- Pivots that fit stand in the order of their values. -/
theorem fits_mono {l : List Int} {V A V' A' : Int} (h : Fits l V A) (h' : Fits l V' A') (hv : V ≤ V') : A ≤ A' := by
  obtain ⟨a1, a2, a3⟩ := h
  obtain ⟨b1, b2, b3⟩ := h'
  by_cases hc : A ≤ A'
  · exact hc
  · exfalso
    have h1 := (a3 A'.toNat (by omega)).2 (by omega)
    have h2 := (b3 A'.toNat (by omega)).1 (by omega)
    omega

theorem fnd_no : ∀ {ps : List Pv} {v : Int}, (fndP ps v).2 = false → ∀ q ∈ ps, q.1 ≠ v
  | [], _, _, q, hq => by simp at hq
  | p :: ps, v, h, q, hq => by
    rw [fndP] at h
    split at h
    · simp at h
    · rcases List.mem_cons.1 hq with rfl | hq
      · assumption
      · exact fnd_no h q hq

theorem fnd_app : ∀ (a b : List Pv) (v : Int), fndP (a ++ b) v = if (fndP a v).2 = true then fndP a v else fndP b v
  | [], b, v => by simp [fndP]
  | p :: a, b, v => by
    by_cases h : p.1 = v
    · simp [fndP, h]
    · have e1 : fndP (p :: (a ++ b)) v = fndP (a ++ b) v := by rw [fndP, if_neg h]
      have e2 : fndP (p :: a) v = fndP a v := by rw [fndP, if_neg h]
      rw [List.cons_append, e1, e2]
      exact fnd_app a b v

theorem fnd_ins {ps : List Pv} {p : Pv} {f : Int} (h : p.1 ≠ f) : fndP (adIn ps p) f = fndP ps f := by
  unfold adIn insAt
  conv => rhs; rw [← List.take_append_drop (behind ps p.1) ps]
  rw [fnd_app, fnd_app, fndP, if_neg h]

theorem fnd_ins' {ps : List Pv} {p : Pv} (h : (fndP ps p.1).2 = false) : fndP (adIn ps p) p.1 = (p.2, true) := by
  unfold adIn insAt
  have h1 : ¬ (fndP (ps.take (behind ps p.1)) p.1).2 = true := by
    intro h2
    have h3 := fnd_app (ps.take (behind ps p.1)) (ps.drop (behind ps p.1)) p.1
    rw [List.take_append_drop, if_pos h2] at h3
    rw [h3] at h
    rw [h] at h2; simp at h2
  rw [fnd_app, if_neg h1, fndP, if_pos rfl]

theorem Asc.cons {p : Pv} {ps : List Pv} (h : Asc (p :: ps)) : (∀ q ∈ ps, p.1 < q.1) ∧ Asc ps := List.pairwise_cons.1 h

theorem lo_spec {l : List Int} {v : Int} : ∀ (ps : List Pv) (a : Int), Asc ps → (∀ q ∈ ps, Fits l q.1 q.2) → (∀ q ∈ ps, q.1 ≠ v) → (0 ≤ a ∧ a ≤ l.length ∧ (∀ i (h : i < l.length), (i : Int) < a → l[i] < v) ∧ ∀ q ∈ ps, a ≤ q.2) →
    (0 ≤ loP ps v a ∧ loP ps v a ≤ l.length ∧ (∀ i (h : i < l.length), (i : Int) < loP ps v a → l[i] < v)) ∧ a ≤ loP ps v a ∧ ∀ q ∈ ps, q.1 < v → q.2 ≤ loP ps v a
  | [], a, _, _, _, h => ⟨⟨h.1, h.2.1, h.2.2.1⟩, Int.le_refl _, by simp⟩
  | p :: ps, a, hs, hf, hn, h => by
    obtain ⟨s1, s2⟩ := hs.cons
    have hp := hf p (by simp)
    have hpn := hn p (by simp)
    rw [loP]
    by_cases hc : p.1 ≤ v
    · rw [if_pos hc]
      obtain ⟨g1, g2, g3⟩ := lo_spec ps p.2 s2 (fun q hq => hf q (by simp [hq])) (fun q hq => hn q (by simp [hq]))
        ⟨hp.1, hp.2.1, fun i hi hlt => by have := (hp.2.2 i hi).2 hlt; omega, fun q hq => fits_mono hp (hf q (by simp [hq])) (by have := s1 q hq; omega)⟩
      refine ⟨g1, by have := h.2.2.2 p (by simp); omega, fun q hq hv => ?_⟩
      rcases List.mem_cons.1 hq with rfl | hq
      · exact g2
      · exact g3 q hq hv
    · rw [if_neg hc]
      obtain ⟨g1, g2, g3⟩ := lo_spec ps a s2 (fun q hq => hf q (by simp [hq])) (fun q hq => hn q (by simp [hq]))
        ⟨h.1, h.2.1, h.2.2.1, fun q hq => h.2.2.2 q (by simp [hq])⟩
      refine ⟨g1, g2, fun q hq hv => ?_⟩
      rcases List.mem_cons.1 hq with rfl | hq
      · omega
      · exact g3 q hq hv

theorem hi_spec {l : List Int} {v : Int} : ∀ (ps : List Pv), Asc ps → (∀ q ∈ ps, Fits l q.1 q.2) → (∀ q ∈ ps, q.1 ≠ v) →
    (0 ≤ hiP ps v l.length ∧ hiP ps v l.length ≤ l.length ∧ (∀ i (h : i < l.length), hiP ps v l.length ≤ (i : Int) → v ≤ l[i])) ∧ ∀ q ∈ ps, v < q.1 → hiP ps v l.length ≤ q.2
  | [], _, _, _ => ⟨⟨by simp [hiP], by simp [hiP], fun i h hle => by simp [hiP] at hle; omega⟩, by simp⟩
  | p :: ps, hs, hf, hn => by
    obtain ⟨s1, s2⟩ := hs.cons
    have hp := hf p (by simp)
    have hpn := hn p (by simp)
    rw [hiP]
    by_cases hc : v ≤ p.1
    · rw [if_pos hc]
      refine ⟨⟨hp.1, hp.2.1, fun i hi hle => ?_⟩, fun q hq hv => ?_⟩
      · have := hp.2.2 i hi
        by_cases h2 : l[i] < p.1
        · have := this.1 h2; omega
        · omega
      · rcases List.mem_cons.1 hq with rfl | hq
        · exact Int.le_refl _
        · exact fits_mono hp (hf q (by simp [hq])) (by have := s1 q hq; omega)
    · rw [if_neg hc]
      obtain ⟨g1, g2⟩ := hi_spec ps s2 (fun q hq => hf q (by simp [hq])) (fun q hq => hn q (by simp [hq]))
      refine ⟨g1, fun q hq hv => ?_⟩
      rcases List.mem_cons.1 hq with rfl | hq
      · omega
      · exact g2 q hq hv

theorem rowsOk_nodup {r : List Int} : RowsOk r ↔ (∀ x ∈ r, 0 ≤ x ∧ x ≤ 999) ∧ r.Nodup := by
  constructor
  · intro h
    refine ⟨fun x hx => ?_, List.pairwise_iff_getElem.2 fun i j hi hj hij => (h j hj).2.2 i hij⟩
    obtain ⟨i, hi, rfl⟩ := List.getElem_of_mem hx
    exact ⟨(h i hi).1, (h i hi).2.1⟩
  · rintro ⟨h1, h2⟩ i hi
    have h3 := h1 _ (List.getElem_mem hi)
    exact ⟨h3.1, h3.2, fun k hk => List.pairwise_iff_getElem.1 h2 k i (by omega) hi hk⟩

theorem areVals_perm {l m : List Int} (h : m.Perm l) : areVals m = areVals l := by
  unfold areVals
  rw [h.length_eq, h.all_eq]

/-- What a division does to a column that is divided. -/
structure Divided (l r : List Int) (ps : List Pv) (v : Int) (l' r' : List Int) (a b at' : Nat) : Prop where
  can : canSwap l r (crPt l r ps v).1 = true
  left : l' = swaps l (crPt l r ps v).1
  right : r' = swaps r (crPt l r ps v).1
  lo : (pieceP l r ps v).1 = a
  hi : (pieceP l r ps v).2 = b
  pl : (crPt l r ps v).2 = at'
  le : a ≤ at' ∧ at' ≤ b ∧ b ≤ l.length
  out : ∀ k, k < a ∨ b ≤ k → l'.getD k 0 = l.getD k 0 ∧ r'.getD k 0 = r.getD k 0
  ok : isCk l' r' (adIn ps (v, (at' : Int))) = true

theorem crack_divided {l r : List Int} {ps : List Pv} {v : Int} (h : crDiv l r ps v = true) :
    ∃ a b at' : Nat, Divided l r ps v (swaps l (crPt l r ps v).1) (swaps r (crPt l r ps v).1) a b at' := by
  unfold crDiv crOk at h
  simp only [Bool.and_eq_true, decide_eq_true_eq, Bool.not_eq_true'] at h
  obtain ⟨⟨hck, hv1, hv2⟩, hnf⟩ := h
  obtain ⟨c1, c2, c3, c4⟩ := isCk_parts hck
  obtain ⟨asc, fit⟩ := pvsOk_asc.1 c4
  have hne := fnd_no hnf
  obtain ⟨⟨l1, l2, l3⟩, -, l4⟩ := lo_spec ps 0 asc (fun q hq => (fit q hq).2.2) hne ⟨Int.le_refl _, by omega, fun i hi h => by omega, fun q hq => (fit q hq).2.2.1⟩
  obtain ⟨⟨g1, g2, g3⟩, g4⟩ := hi_spec (v := v) ps asc (fun q hq => (fit q hq).2.2) hne
  have hpc : pieceP l r ps v = (loP ps v 0, hiP ps v l.length) := by unfold pieceP; rw [if_pos ⟨hck, hv1, hv2⟩]
  obtain ⟨a, ha⟩ : ∃ a : Nat, loP ps v 0 = a := ⟨(loP ps v 0).toNat, by omega⟩
  obtain ⟨b, hb⟩ : ∃ b : Nat, hiP ps v l.length = b := ⟨(hiP ps v l.length).toNat, by omega⟩
  rw [ha] at l1 l2 l3 l4
  rw [hb] at g1 g2 g3 g4
  have hab : a ≤ b := by
    by_cases hc : a ≤ b
    · exact hc
    · have h1 := l3 b (by omega) (by omega)
      have h2 := g3 b (by omega) (by omega)
      omega
  have hpt : crPt l r ps v = ((part l v (b - a) a b).1, ((part l v (b - a) a b).2 : Int)) := by
    unfold crPt partP
    rw [hpc, ha, hb]
    simp only
    rw [if_pos (by omega)]
    simp only [Int.toNat_natCast]
    rw [show ((b : Int) - (a : Int)).toNat = b - a by omega]
  obtain ⟨n1, n2, n3, n4⟩ := part_nums l v (b - a) a b
  have hdiv := part_div v (b - a) a b l (Nat.le_refl _) (by omega)
  rw [hpt]
  simp only
  obtain ⟨sw, hsw⟩ : ∃ s, s = (part l v (b - a) a b).1 := ⟨_, rfl⟩
  obtain ⟨t, ht⟩ : ∃ s, s = (part l v (b - a) a b).2 := ⟨_, rfl⟩
  rw [← hsw, ← ht] at hpt hdiv
  rw [← hsw] at n1 n2 ⊢
  rw [← ht] at n3 n4
  have hall : sw.all (swOk l.length) = true := by
    rw [List.all_eq_true]
    intro q hq
    have := n1 q hq
    unfold swOk
    simp only [Bool.and_eq_true, decide_eq_true_eq]
    omega
  have hpl := swaps_perm sw l hall
  have hpr := swaps_perm sw r (by rw [c2]; exact hall)
  have houtl := swaps_out sw l a b (by omega) n1
  have hinl := swaps_in sw l a b (by omega) n1
  have hgl : ∀ i (hi : i < (swaps l sw).length), (swaps l sw)[i] = (swaps l sw).getD i 0 := fun i hi => by simp [List.getD_eq_getElem?_getD, List.getElem?_eq_getElem hi]
  have hg0 : ∀ i (hi : i < l.length), l[i] = l.getD i 0 := fun i hi => by simp [List.getD_eq_getElem?_getD, List.getElem?_eq_getElem hi]
  have hll := swaps_length l sw
  have fitv : Fits (swaps l sw) v t := by
    refine ⟨by omega, by omega, fun i hi => ?_⟩
    rw [hgl i hi]
    by_cases hi1 : i < a
    · rw [houtl i (.inl hi1), ← hg0 i (by omega)]
      exact ⟨fun _ => by omega, fun _ => l3 i (by omega) (by omega)⟩
    · by_cases hi2 : b ≤ i
      · rw [houtl i (.inr hi2), ← hg0 i (by omega)]
        have := g3 i (by omega) (by omega)
        exact ⟨fun h => by omega, fun h => by omega⟩
      · have := hdiv i (by omega) (by omega)
        rw [this]
        omega
  have fitq : ∀ q ∈ ps, Fits (swaps l sw) q.1 q.2 := by
    intro q hq
    obtain ⟨-, -, f1, f2, f3⟩ := fit q hq
    refine ⟨f1, by omega, fun i hi => ?_⟩
    rw [hgl i hi]
    by_cases hi1 : i < a ∨ b ≤ i
    · rw [houtl i hi1, ← hg0 i (by omega)]
      exact f3 i (by omega)
    · obtain ⟨k', k1, k2, k3⟩ := hinl i (by omega) (by omega)
      rw [k3, ← hg0 k' (by omega), f3 k' (by omega)]
      by_cases hqv : q.1 < v
      · have := l4 q hq hqv
        constructor <;> intro _ <;> omega
      · have := g4 q hq (by have := hne q hq; omega)
        constructor <;> intro _ <;> omega
  refine ⟨a, b, t, ⟨?_, by rw [hpt], by rw [hpt], by rw [hpc]; exact ha, by rw [hpc]; exact hb, by rw [hpt], ⟨by omega, by omega, by omega⟩, fun k hk => ⟨houtl k hk, ?_⟩, ?_⟩⟩
  · rw [hpt]
    unfold canSwap
    simp only [c2, decide_true, hall, Bool.and_self]
  · exact swaps_out sw r a b (by omega) n1 k hk
  · unfold isCk
    rw [areVals_perm hpl, c1]
    have r1 : RowsOk (swaps r sw) := by
      obtain ⟨q1, q2⟩ := rowsOk_nodup.1 c3
      exact rowsOk_nodup.2 ⟨fun x hx => q1 x (hpr.mem_iff.1 hx), hpr.nodup_iff.2 q2⟩
    have r2 : PvsOk (swaps l sw) (adIn ps (v, (t : Int))) := by
      refine pvsOk_asc.2 ⟨?_, ?_⟩
      · unfold adIn insAt Asc
        rw [List.pairwise_append, List.pairwise_cons]
        have d1 : ∀ x ∈ ps.take (behind ps v), x.1 < v := by
          intro x hx
          obtain ⟨k, hk, rfl⟩ := List.getElem_of_mem hx
          rw [List.length_take] at hk
          rw [List.getElem_take]
          have h1 := behind_before ps v k (by omega) (by omega)
          have h2 := hne _ (List.getElem_mem (show k < ps.length by omega))
          omega
        have d2 : ∀ x ∈ ps.drop (behind ps v), v < x.1 := by
          intro x hx
          obtain ⟨k, hk, rfl⟩ := List.getElem_of_mem hx
          rw [List.length_drop] at hk
          rw [List.getElem_drop]
          have h1 := behind_at ps v (by omega)
          cases k with
          | zero => exact h1
          | succ k =>
            have := List.pairwise_iff_getElem.1 asc (behind ps v) (behind ps v + (k + 1)) (by omega) (by omega) (by omega)
            omega
        refine ⟨asc.sublist (List.take_sublist _ _), ⟨fun x hx => d2 x hx, asc.sublist (List.drop_sublist _ _)⟩, fun x hx y hy => ?_⟩
        rcases List.mem_cons.1 hy with rfl | hy
        · exact d1 x hx
        · have := d1 x hx; have := d2 y hy; omega
      · intro q hq
        unfold adIn insAt at hq
        rcases List.mem_append.1 hq with hq | hq
        · have hq := List.mem_of_mem_take hq
          exact ⟨(fit q hq).1, (fit q hq).2.1, fitq q hq⟩
        · rcases List.mem_cons.1 hq with rfl | hq
          · exact ⟨by show -1001 < v; omega, hv2, fitv⟩
          · have hq := List.mem_of_mem_drop hq
            exact ⟨(fit q hq).1, (fit q hq).2.1, fitq q hq⟩
    rw [rowsOk_iff.2 r1, pvsOk_iff.2 r2, swaps_length, swaps_length, c2]
    simp

end Go.Proofs.Ytajfhalalnlejaa

/- Sorted lists of integers: the one that a list has, and what an insertion sort keeps (promise 4). -/
namespace Go.Proofs.Ytajfhalalnlejaa
set_option linter.unusedSimpArgs false
set_option linter.unusedVariables false

/-- The numbers in ascending order. -/
def sortL (l : List Int) : List Int := l.mergeSort fun x y => decide (x ≤ y)

theorem sortL_perm (l : List Int) : (sortL l).Perm l := List.mergeSort_perm _ _
theorem sortL_length (l : List Int) : (sortL l).length = l.length := (sortL_perm l).length_eq
theorem sortL_mem {l : List Int} {x : Int} : x ∈ sortL l ↔ x ∈ l := (sortL_perm l).mem_iff
theorem sortL_asc (l : List Int) : (sortL l).Pairwise (· ≤ ·) := by
  have h := List.pairwise_mergeSort (le := fun (x y : Int) => decide (x ≤ y)) (by intro a b c; simp; omega) (by intro a b; simp; omega) l
  exact h.imp (by intro a b h; simpa using h)
theorem sortL_eq {l m : List Int} (hp : m.Perm l) (hs : m.Pairwise (· ≤ ·)) : m = sortL l :=
  List.Perm.eq_of_pairwise (le := (· ≤ ·)) (fun a b _ _ h1 h2 => Int.le_antisymm h1 h2) hs (sortL_asc l) (hp.trans (sortL_perm l).symm)
theorem sortL_of_perm {l m : List Int} (hp : m.Perm l) : sortL m = sortL l := sortL_eq ((sortL_perm m).trans hp) (sortL_asc m)
theorem sortL_nil : sortL [] = [] := by simp [sortL]

/-- The first i are in order. -/
def SrtO (l : List Int) (i : Nat) (m : List Int) : Prop := ∃ S D, m = S ++ D ∧ (S.length = i ∨ m = []) ∧ S.Pairwise (· ≤ ·) ∧ m.Perm l

/-- The element at k is on its way down; without it the first i + 1 are in order. -/
def SrtI (l : List Int) (i k : Nat) (m : List Int) : Prop := ∃ A x B C, m = A ++ x :: (B ++ C) ∧ A.length = k ∧ A.length + B.length = i ∧ (A ++ B).Pairwise (· ≤ ·) ∧ (∀ b ∈ B, x ≤ b) ∧ m.Perm l

theorem SrtO.first (l : List Int) : SrtO l 1 l := by
  rcases l with _ | ⟨x, D⟩
  · exact ⟨[], [], rfl, .inr rfl, by simp, .refl _⟩
  · exact ⟨[x], D, rfl, .inl rfl, by simp, .refl _⟩

theorem SrtO.start {l m : List Int} {i : Nat} (h : SrtO l i m) (hi : i < m.length) : SrtI l i i m := by
  obtain ⟨S, D, rfl, h1, h2, h3⟩ := h
  have hS : S.length = i := by
    rcases h1 with h | h
    · exact h
    · rw [h] at hi; simp at hi
  rcases D with _ | ⟨x, D⟩
  · simp at hi; omega
  · exact ⟨S, x, [], D, by simp, hS, by simpa using hS, by simpa using h2, by simp, h3⟩

theorem SrtO.fin {l m : List Int} {i : Nat} (h : SrtO l i m) (hi : m.length ≤ i) : m = sortL l := by
  obtain ⟨S, D, rfl, h1, h2, h3⟩ := h
  have hD : D = [] := by
    rcases h1 with h | h
    · simp at hi
      exact List.eq_nil_of_length_eq_zero (by omega)
    · exact (List.append_eq_nil_iff.1 h).2
  subst hD
  simp only [List.append_nil] at h3 ⊢
  exact sortL_eq h3 h2

theorem last_split {A : List Int} {k : Nat} (h : A.length = k + 1) : ∃ A' y, A = A' ++ [y] ∧ A'.length = k := by
  rcases List.eq_nil_or_concat A with h0 | ⟨A', y, h0⟩
  · rw [h0] at h; simp at h
  · exact ⟨A', y, by rw [h0, List.concat_eq_append], by rw [h0] at h; simpa using h⟩

theorem SrtI.step {l m : List Int} {i k : Nat} (h : SrtI l i (k + 1) m) (hgt : m.getD (k + 1) 0 < m.getD k 0) : SrtI l i k (swapAt m k (k + 1)) := by
  obtain ⟨A, x, B, C, rfl, h1, h2, h3, h4, h5⟩ := h
  obtain ⟨A', y, rfl, hA⟩ := last_split h1
  subst hA
  have e1 : (A' ++ [y] ++ x :: (B ++ C)).getD A'.length 0 = y := by simp [List.getD]
  have e2 : (A' ++ [y] ++ x :: (B ++ C)).getD (A'.length + 1) 0 = x := by simp [List.getD, List.getElem?_append_right]
  rw [e1, e2] at hgt
  have e3 : swapAt (A' ++ [y] ++ x :: (B ++ C)) A'.length (A'.length + 1) = A' ++ x :: (y :: B ++ C) := by
    unfold swapAt
    rw [e1, e2]
    simp [List.set_append]
  rw [e3]
  refine ⟨A', x, y :: B, C, rfl, rfl, by simp at h2 ⊢; omega, by simpa using h3, ?_, ?_⟩
  · intro b hb
    rcases List.mem_cons.1 hb with rfl | hb
    · omega
    · exact h4 b hb
  · refine List.Perm.trans ?_ h5
    simp only [List.append_assoc, List.singleton_append, List.cons_append]
    exact (List.Perm.swap y x (B ++ C)).append_left A'

theorem SrtI.done {l m : List Int} {i k : Nat} (h : SrtI l i k m) (he : k = 0 ∨ ∃ j, k = j + 1 ∧ m.getD j 0 ≤ m.getD k 0) : SrtO l (i + 1) m := by
  obtain ⟨A, x, B, C, rfl, h1, h2, h3, h4, h5⟩ := h
  refine ⟨A ++ x :: B, C, by simp, .inl (by simp; omega), ?_, h5⟩
  rw [List.pairwise_append] at h3 ⊢
  obtain ⟨q1, q2, q3⟩ := h3
  refine ⟨q1, List.pairwise_cons.2 ⟨h4, q2⟩, ?_⟩
  intro a ha b hb
  rcases List.mem_cons.1 hb with rfl | hb
  · rcases he with he | ⟨j, he, hle⟩
    · have : A = [] := List.eq_nil_of_length_eq_zero (by omega)
      subst this; simp at ha
    · subst he
      obtain ⟨A', y, rfl, hA⟩ := last_split h1
      subst hA
      have e1 : (A' ++ [y] ++ b :: (B ++ C)).getD A'.length 0 = y := by simp [List.getD]
      have e2 : (A' ++ [y] ++ b :: (B ++ C)).getD (A'.length + 1) 0 = b := by simp [List.getD, List.getElem?_append_right]
      rw [e1, e2] at hle
      rcases List.mem_append.1 ha with ha | ha
      · rw [List.pairwise_append] at q1
        have := q1.2.2 a ha y (by simp)
        omega
      · rw [List.mem_singleton.1 ha]; exact hle
  · exact q3 a ha b hb

theorem SrtI.len {l m : List Int} {i k : Nat} (h : SrtI l i k m) : m.length = l.length ∧ k < m.length ∧ k ≤ i := by
  obtain ⟨A, x, B, C, rfl, h1, h2, -, -, h5⟩ := h
  exact ⟨h5.length_eq, by simp; omega, by omega⟩

end Go.Proofs.Ytajfhalalnlejaa

/- SortInts of the reference: an insertion sort of a copy (promise 4). -/
namespace Go.Proofs.Ytajfhalalnlejaa
open Go.RowKit Go.ChangeShapes
set_option linter.unusedSimpArgs false
set_option linter.unusedVariables false
set_option maxRecDepth 100000

/-- Integers of the call's own are returned; nothing that was there has turned. -/
def RetOw (w : World) (l : List Int) (e : Ending) (w' : World) : Prop := ∃ v hi, e = .returned v ∧ Ow w' v l w.heap.size hi ∧ Below w.heap.size w w'

theorem Ow.atS {w : World} {a : Option Addr} {n c lo hi : Nat} {l : List Int} (h : Ow w (.slice a n c) l lo hi) (h0 : 0 < l.length) :
    ∃ g, a = some ⟨g, 0, none⟩ ∧ ∀ j (hj : j < l.length), w.cell? ⟨g, j, none⟩ = some (.int .i64 l[j]) := by
  obtain ⟨⟨F, ⟨o, rfl⟩, hF⟩, hle, htop⟩ := h
  have o2 := o
  rcases o2.2 with ⟨e, hn⟩ | ⟨g, cap', cur, e, -⟩
  · exfalso; omega
  · injection e with e1 e2 e3
    subst e1
    exact ⟨g, rfl, fun j hj => (o.cell j hj).1⟩

set_option maxHeartbeats 4000000 in
theorem sSort_any (a : Option Addr) (c : Nat) (l : List Int) (w : World) (B : Nat) (h : Ints w B (.slice a l.length c) l) (hn : a = none → c = 0) (hB : B ≤ w.heap.size) (hl : l.length ≤ 1048576) :
    Calls Try.prog 80 #[.slice a l.length c] w (RetOw w (sortL l)) := by
  have H := hide (h.below (below1 w (.cells #[] 3)) hB)
  obtain ⟨i0, hi0, hi1, hi2, hi3⟩ := info_parts infoI
  have HI := hide (And.intro hi0 (And.intro hi1 (And.intro hi2 hi3)))
  have hz : a = none → l.length = 0 ∧ c = 0 := fun e => ⟨by subst e; exact ints_nil h, hn e⟩
  have HZ := hide hz
  clear h hi0 hi1 hi2 hi3 hn hz
  obtain ⟨L, hL⟩ : ∃ L, L = l.length := ⟨_, rfl⟩
  have HL := hide hL
  have hLb : L ≤ 1048576 := by rw [hL]; exact hl
  rw [← hL]
  clear hL
  go_enter Try.func80, Try.ntmps80
  go_wp2_with (first | (at_builtin; refine append_list (w.alloc (.cells #[] 3)) rfl _ _ 22 rfl w.heap.size 3 i0 _ 1 8 Try.underlying22 HI.out.1 HI.out.2.1 HI.out.2.2.1 HI.out.2.2.2 (by first | rfl | decide) (by decide) (by decide) _ rfl (World.ownsRow_made w #[] 0 (Nat.le_refl _) (by unfold maxLen; omega) rfl) w.heap.size rfl a L c (intVs l) rfl (fun h => by rw [HL.out]; exact HZ.out h) (by rw [HL.out]; simp [intVs]) (by have := ints_news H.out; exact this) (intVs_cell l) (by rw [HL.out]; exact hl) (by simp) ?_; intro v' W' hown hgr) | fail)
  have hb := hide (((Below.refl w.heap.size w).alloc (Nat.le_refl _) (.cells #[] 3)).grown hgr (by simp) (by intro k hk; cases hk; exact Nat.le_refl _))
  have O := Ow.of (lo := w.heap.size) (w' := W') (l := l) (v := v') (by unfold Is; rw [← HL.out]; exact hown) hb.out.size
  obtain ⟨a', c', rfl⟩ := O.form
  rw [← HL.out] at O
  have O := hide O
  obtain ⟨hi, hhi⟩ : ∃ hi, hi = W'.heap.size := ⟨_, rfl⟩
  rw [← hhi] at O
  rw [← HL.out]
  clear hown hgr hhi 
  go_loopw [4] (fun x wr => ∃ (i : Nat) (m : List Int), 1 ≤ i ∧ x = .int .i64 i ∧ i ≤ L + 1 ∧ Hid (SrtO l i m) ∧ Hid (Ow wr (.slice a' L c') m w.heap.size hi) ∧ Hid (Below w.heap.size w wr)) (fun x _ => L + 1 - (intOf x).toNat)
  case atStart => exact ⟨1, l, Nat.le_refl _, rfl, by omega, SrtO.first l, O.out, hb.out⟩
  case round =>
    obtain ⟨i, m, hi1, rfl, hiL, hm, o, hb'⟩ := hrel
    clear O hb
    have hlen := hide (show m.length = L by
      obtain ⟨S, D, rfl, -, -, h5⟩ := hm.out
      rw [HL.out]; exact h5.length_eq)
    by_cases hlt : i < L
    · have HII := hide (hm.out.start (by rw [hlen.out]; exact hlt))
      clear hm
      go_wp2_with fail
      go_loopw [5] (fun x wi => ∃ (k : Nat) (n : List Int), x = .int .i64 k ∧ Hid (SrtI l i k n) ∧ Hid (Ow wi (.slice a' L c') n w.heap.size hi) ∧ Hid (Below w.heap.size w wi)) (fun x _ => (intOf x).toNat)
      case atStart => exact ⟨i, m, rfl, HII.out, o.out, hb'.out⟩
      case round =>
        obtain ⟨k, n, rfl, hI, o2, hb2⟩ := hrel
        clear o hb' HII
        have hll := hI.out.len
        have HN := hide (show n.length = L by rw [hll.1, HL.out])
        have hkn : k < L := by have := hll.2.1; rw [HN.out] at this; exact this
        have hki := hll.2.2
        clear hll
        by_cases hk0 : k = 0
        · subst hk0
          have hd := hide (hI.out.done (.inl rfl))
          clear hI
          go_wp2_with fail
          go_quiet (fail)
          go_wp2_with fail
          go_roundw
          case rel => exact ⟨i + 1, n, by omega, by go_num, by omega, hd.out, o2.out.below (below_drewN (Below.refl _ _) _), below_drewN hb2.out _⟩
          case measure => simp [intOf]; omega
        · obtain ⟨k, rfl⟩ : ∃ k', k = k' + 1 := ⟨k - 1, by omega⟩
          have t1 : decide (0 < k + 1) = true := by simp
          obtain ⟨g, rfl, hc⟩ := o2.out.atS (by rw [HN.out]; omega)
          have e0 := hc k (by rw [HN.out]; omega)
          have e1 := hc (k + 1) (by rw [HN.out]; exact hkn)
          obtain ⟨y, hy⟩ : ∃ y, y = n.getD k 0 := ⟨_, rfl⟩
          obtain ⟨x, hx⟩ : ∃ x, x = n.getD (k + 1) 0 := ⟨_, rfl⟩
          rw [show n[k]'(by rw [HN.out]; omega) = y by rw [hy]; simp [List.getD, show k < n.length by rw [HN.out]; omega]] at e0
          rw [show n[k + 1]'(by rw [HN.out]; exact hkn) = x by rw [hx]; simp [List.getD, show k + 1 < n.length by rw [HN.out]; exact hkn]] at e1
          have HY := hide hy
          have HX := hide hx
          clear hc hy hx hk0
          by_cases hgt : x < y
          · have t2 : decide (x < y) = true := by simp [hgt]
            have hs := hide (hI.out.step (by rw [← HX.out, ← HY.out]; exact hgt))
            clear hI hgt
            go_wp2_with fail
            go_quiet (fail)
            go_wp2_with fail
            go_at_call 113
            refine (sSwap_ow _ n w.heap.size hi k (k + 1) _ (o2.out.below (below_drewN (Below.refl _ _) _)) (by rw [HN.out]; omega) (by rw [HN.out]; exact hkn)).mono ?_
            rintro e w3 ⟨⟨u, rfl⟩, o3, sg⟩
            have O3 := hide o3
            have B3 := hide ((below_drewN hb2.out _).trans sg.below)
            clear o3 sg
            go_wp2_with fail
            go_roundw
            case rel => exact ⟨k, swapAt n k (k + 1), by go_num, hs.out, O3.out, B3.out⟩
            case measure => simp [intOf]
          · have t2 : decide (x < y) = false := by simp [hgt]
            have hd := hide (hI.out.done (.inr ⟨k, rfl, by rw [← HX.out, ← HY.out]; omega⟩))
            clear hI hgt
            go_wp2_with fail
            go_quiet (fail)
            go_wp2_with fail
            go_roundw
            case rel => exact ⟨i + 1, n, by omega, by go_num, by omega, hd.out, o2.out.below (below_drewN (Below.refl _ _) _), below_drewN hb2.out _⟩
            case measure => simp [intOf]; omega
    · have hf := hide (hm.out.fin (by rw [hlen.out]; omega))
      rw [hf.out] at o
      go_wp2_with fail
      go_ret
      exact ⟨_, _, rfl, o.out, hb'.out⟩

end Go.Proofs.Ytajfhalalnlejaa

/- What dividing does to a column: it stays valid and the same pairs, the value is a pivot then, and once more does nothing; dividing at both ends of a range (promises 3 and 4). -/
namespace Go.Proofs.Ytajfhalalnlejaa
open Go.RowKit Go.ChangeShapes
set_option linter.unusedSimpArgs false
set_option linter.unusedVariables false
set_option maxRecDepth 100000

theorem crack_eqs {l r : List Int} {ps : List Pv} {v : Int} (h : crDiv l r ps v = true) :
    ∃ a b t : Nat, Divided l r ps v (crL l r ps v) (crR l r ps v) a b t ∧ crP l r ps v = adIn ps (v, (t : Int)) ∧ crS l r ps v = (crPt l r ps v).1 := by
  obtain ⟨a, b, t, d⟩ := crack_divided h
  have e1 : crL l r ps v = swaps l (crPt l r ps v).1 := by unfold crL apL; rw [if_pos h, if_pos d.can]
  have e2 : crR l r ps v = swaps r (crPt l r ps v).1 := by unfold crR apR; rw [if_pos h, if_pos d.can]
  refine ⟨a, b, t, by rw [e1, e2]; exact d, ?_, by unfold crS; rw [if_pos h]⟩
  unfold crP adP
  rw [if_pos h]
  have e3 : apL l r (crPt l r ps v).1 = swaps l (crPt l r ps v).1 := by unfold apL; rw [if_pos d.can]
  have e4 : apR l r (crPt l r ps v).1 = swaps r (crPt l r ps v).1 := by unfold apR; rw [if_pos d.can]
  rw [e3, e4, d.pl, if_pos (show adOk _ _ ps (v, (t : Int)) = true from d.ok)]

theorem crack_none {l r : List Int} {ps : List Pv} {v : Int} (h : ¬ crDiv l r ps v = true) : crL l r ps v = l ∧ crR l r ps v = r ∧ crP l r ps v = ps ∧ crS l r ps v = [] := by
  unfold crL crR crP crS
  rw [if_neg h, if_neg h, if_neg h, if_neg h]
  exact ⟨rfl, rfl, rfl, rfl⟩

theorem crack_isCk {l r : List Int} {ps : List Pv} {v : Int} (h : isCk l r ps = true) : isCk (crL l r ps v) (crR l r ps v) (crP l r ps v) = true := by
  by_cases hd : crDiv l r ps v = true
  · obtain ⟨a, b, t, d, e, -⟩ := crack_eqs hd
    rw [e]; exact d.ok
  · obtain ⟨e1, e2, e3, -⟩ := crack_none hd
    rw [e1, e2, e3]; exact h

theorem crack_found {l r : List Int} {ps : List Pv} {v : Int} (h : crOk l r ps v = true) : (fndP (crP l r ps v) v).2 = true := by
  by_cases hd : crDiv l r ps v = true
  · obtain ⟨a, b, t, d, e, -⟩ := crack_eqs hd
    rw [e]
    have hn : (fndP ps v).2 = false := by
      unfold crDiv at hd
      simp only [Bool.and_eq_true, Bool.not_eq_true'] at hd
      exact hd.2
    have := fnd_ins' (p := (v, (t : Int))) hn
    simp only at this
    rw [this]
  · rw [(crack_none hd).2.2.1]
    unfold crDiv at hd
    rw [h] at hd
    simpa using hd

theorem crack_keeps {l r : List Int} {ps : List Pv} {v f : Int} (h : (fndP ps f).2 = true) : fndP (crP l r ps v) f = fndP ps f := by
  by_cases hd : crDiv l r ps v = true
  · obtain ⟨a, b, t, d, e, -⟩ := crack_eqs hd
    rw [e]
    refine fnd_ins (p := (v, (t : Int))) ?_
    intro hv
    simp only at hv
    subst hv
    unfold crDiv at hd
    rw [h] at hd
    simp at hd
  · rw [(crack_none hd).2.2.1]

theorem crack_zip (l r : List Int) (ps : List Pv) (v : Int) : ((crL l r ps v).zip (crR l r ps v)).Perm (l.zip r) := by
  unfold crL crR
  by_cases hd : crDiv l r ps v = true
  · rw [if_pos hd, if_pos hd]; exact zip_ap _ _ _
  · rw [if_neg hd, if_neg hd]

theorem crack_again {l r : List Int} {ps : List Pv} {v : Int} (h : crOk l r ps v = true) : ¬ crDiv (crL l r ps v) (crR l r ps v) (crP l r ps v) v = true := by
  unfold crDiv
  rw [crack_found h]
  simp

/-- There are at most as many pivots as there are bounds. -/
theorem pvs_len {l : List Int} {ps : List Pv} (h : PvsOk l ps) : ps.length ≤ 2001 := by
  have low : ∀ k (hk : k < ps.length), -1000 + (k : Int) ≤ ps[k].1 := by
    intro k
    induction k with
    | zero =>
      intro hk
      have := (h 0 hk).1
      simp only [prevV, if_true] at this
      omega
    | succ k ih =>
      intro hk
      have h1 := (h (k + 1) hk).1
      rw [prevV_succ ps k (by omega)] at h1
      have := ih (by omega)
      omega
  by_cases hc : ps.length ≤ 2001
  · exact hc
  · have h1 := low 2001 (by omega)
    have h2 := (h 2001 (by omega)).2.1
    omega

/-- Both ends of a range: whether the column is divided there. -/
noncomputable def seOk (l r : List Int) (ps : List Pv) (f t : Int) : Bool := isCk l r ps && isR f t
noncomputable def seL (l r : List Int) (ps : List Pv) (f t : Int) : List Int := if seOk l r ps f t = true then crL (crL l r ps f) (crR l r ps f) (crP l r ps f) t else l
noncomputable def seR (l r : List Int) (ps : List Pv) (f t : Int) : List Int := if seOk l r ps f t = true then crR (crL l r ps f) (crR l r ps f) (crP l r ps f) t else r
noncomputable def seP (l r : List Int) (ps : List Pv) (f t : Int) : List Pv := if seOk l r ps f t = true then crP (crL l r ps f) (crR l r ps f) (crP l r ps f) t else ps
noncomputable def seF (l r : List Int) (ps : List Pv) (f t : Int) : Int := if seOk l r ps f t = true then (fndP (seP l r ps f t) f).1 else 0
noncomputable def seT (l r : List Int) (ps : List Pv) (f t : Int) : Int := if seOk l r ps f t = true then (fndP (seP l r ps f t) t).1 else 0
noncomputable def seN (l r : List Int) (ps : List Pv) (f t : Int) : Nat := if seOk l r ps f t = true then (crS l r ps f).length + (crS (crL l r ps f) (crR l r ps f) (crP l r ps f) t).length else 0

theorem crOk_of {l r : List Int} {ps : List Pv} {v : Int} (h : isCk l r ps = true) (h1 : -1000 ≤ v) (h2 : v ≤ 1000) : crOk l r ps v = true := by
  unfold crOk
  rw [h, decide_eq_true ⟨h1, h2⟩]; rfl

/-- The second division leaves the pivot of the first one at its place. -/
theorem se_first {l r : List Int} {ps : List Pv} {f t : Int} (h : seOk l r ps f t = true) : (fndP (crP l r ps f) f).1 = seF l r ps f t := by
  unfold seF seP
  rw [if_pos h, if_pos h]
  unfold seOk at h
  simp only [Bool.and_eq_true] at h
  have hr := isR_true h.2
  rw [crack_keeps (crack_found (crOk_of h.1 hr.1 hr.2.1))]

theorem se_isCk {l r : List Int} {ps : List Pv} {f t : Int} (h : isCk l r ps = true) : isCk (seL l r ps f t) (seR l r ps f t) (seP l r ps f t) = true := by
  unfold seL seR seP
  by_cases hs : seOk l r ps f t = true
  · rw [if_pos hs, if_pos hs, if_pos hs]; exact crack_isCk (crack_isCk h)
  · rw [if_neg hs, if_neg hs, if_neg hs]; exact h

theorem se_zip (l r : List Int) (ps : List Pv) (f t : Int) : ((seL l r ps f t).zip (seR l r ps f t)).Perm (l.zip r) := by
  unfold seL seR
  by_cases hs : seOk l r ps f t = true
  · rw [if_pos hs, if_pos hs]; exact (crack_zip _ _ _ _).trans (crack_zip _ _ _ _)
  · rw [if_neg hs, if_neg hs]

/-- What a column of the call's own needs. -/
def Wf (l r : List Int) (ps : List Pv) (n : Nat) : Prop := l.length ≤ 1048576 ∧ r.length ≤ 1048576 ∧ ps.length ≤ n ∧ (∀ x ∈ l, I64 x) ∧ (∀ x ∈ r, I64 x) ∧ ∀ p ∈ ps, I64 p.1 ∧ I64 p.2

theorem crack_Wf {l r : List Int} {ps : List Pv} {v : Int} {n : Nat} (h : Wf l r ps n) (hn : n ≤ 1048576) (hv : I64 v) : Wf (crL l r ps v) (crR l r ps v) (crP l r ps v) (n + 1) ∧ (crS l r ps v).length ≤ 1048576 ∧ ∀ p ∈ crS l r ps v, I64 p.1 ∧ I64 p.2 := by
  obtain ⟨h1, h2, h3, h4, h5, h6⟩ := h
  obtain ⟨q1, q2, q3, q4, q5, q6, q7, q8⟩ := crack_wf l r ps v h1 h2 (by omega) h4 h5 h6 hv
  refine ⟨⟨q1, q2, ?_, q4, q5, q6⟩, q7, q8⟩
  by_cases hd : crDiv l r ps v = true
  · obtain ⟨a, b, t, d, e, -⟩ := crack_eqs hd
    rw [e, adIn_length]; omega
  · rw [(crack_none hd).2.2.1]; omega

theorem wf_ck {l r : List Int} {ps : List Pv} {n : Nat} (h : Wf l r ps n) (hc : isCk l r ps = true) : Wf l r ps 2001 :=
  ⟨h.1, h.2.1, pvs_len (isCk_parts hc).2.2.2, h.2.2.2⟩

theorem se_Wf {l r : List Int} {ps : List Pv} {f t : Int} (h : Wf l r ps 1048576) (hf : I64 f) (ht : I64 t) : Wf (seL l r ps f t) (seR l r ps f t) (seP l r ps f t) 1048576 ∧ seN l r ps f t ≤ 2097152 := by
  unfold seL seR seP seN
  by_cases hs : seOk l r ps f t = true
  · rw [if_pos hs, if_pos hs, if_pos hs, if_pos hs]
    have hck : isCk l r ps = true := by unfold seOk at hs; simp only [Bool.and_eq_true] at hs; exact hs.1
    obtain ⟨w1, s1, -⟩ := crack_Wf (wf_ck h hck) (by omega) hf
    obtain ⟨w2, s2, -⟩ := crack_Wf w1 (by omega) ht
    exact ⟨⟨w2.1, w2.2.1, by have := w2.2.2.1; omega, w2.2.2.2⟩, by omega⟩
  · rw [if_neg hs, if_neg hs, if_neg hs, if_neg hs]
    exact ⟨h, by omega⟩

theorem fnd_wf {ps : List Pv} {v : Int} (h : ∀ p ∈ ps, I64 p.1 ∧ I64 p.2) : I64 (fndP ps v).1 := by
  induction ps with
  | nil => exact ⟨by simp [fndP], by simp [fndP]⟩
  | cons p ps ih =>
    rw [fndP]
    split
    · exact (h p (by simp)).2
    · exact ih fun q hq => h q (by simp [hq])

/-- A column of the call's own and three numbers are returned; nothing that was there has turned. -/
def RetSel (w : World) (l r : List Int) (ps : List Pv) (f t n : Int) (e : Ending) (w' : World) : Prop := ∃ x y z lo hi n1 h1 n2 h2 n3 h3, e = .returned (.tuple #[.agg #[x, y, z], .int .i64 f, .int .i64 t, .int .i64 n]) ∧ w.heap.size ≤ lo ∧ hi ≤ w'.heap.size ∧ OC w' x y z l r ps lo hi n1 h1 n2 h2 n3 h3 ∧ Below w.heap.size w w'

end Go.Proofs.Ytajfhalalnlejaa

/- What EncodeFixed and DecodeFixed of both packages return, for every argument. -/
namespace Go.Proofs.Ytajfhalalnlejaa
open Go.RowKit
set_option linter.unusedSimpArgs false
set_option linter.unusedVariables false

theorem infoB : (Try.prog.info? 5).map (fun i => (i.zero, i.size, i.bytes)) = some (some (.int .u8 0), 1, 1) := by kernel_rfl

def encF (n : Nat) : Nat → List UInt8
  | 0 => []
  | k + 1 => UInt8.ofNat (n / 256 ^ k % 256) :: encF n k
theorem div_pow_succ (n k : Nat) : n / 256 ^ k / 256 = n / 256 ^ (k + 1) := by rw [Nat.div_div_eq_div_mul, Nat.pow_succ]
theorem encF_length (n k : Nat) : (encF n k).length = k := by induction k <;> simp [encF, *]

/-- What EncodeFixed returns. -/
def EncF (n width : Int) : List UInt8 := if 1 ≤ width ∧ width ≤ 7 ∧ 0 ≤ n ∧ n.toNat / 256 ^ width.toNat = 0 then encF n.toNat width.toNat else []

theorem EncF_yes (n width : Nat) (h1 : 1 ≤ width) (h2 : width ≤ 7) (h : n / 256 ^ width = 0) : EncF n width = encF n width := by
  unfold EncF; rw [if_pos ⟨by omega, by omega, by omega, by simpa using h⟩]; simp
theorem EncF_big (n width : Nat) (h : n / 256 ^ width ≠ 0) : EncF n width = [] := by
  unfold EncF; rw [if_neg (fun hh => h (by simpa using hh.2.2.2))]
theorem EncF_no (n width : Int) (h : width < 1 ∨ 7 < width ∨ n < 0) : EncF n width = [] := by
  unfold EncF; rw [if_neg (by omega)]

/-- A string is returned; nothing that was there has turned. -/
def RetS (w : World) (l : List UInt8) (e : Ending) (w' : World) : Prop := e = .returned (.string ⟨l.toArray⟩) ∧ Below w.heap.size w w'

theorem rep_set (a j : Nat) (x : UInt8) (l : List UInt8) (h : j + 1 = a) : (List.replicate a (0 : UInt8) ++ l).set j x = List.replicate j 0 ++ (x :: l) := by
  subst h
  rw [List.set_append_left _ _ (by simp), List.replicate_succ', List.set_append_right _ _ (by simp)]
  simp

theorem shr_zero {n width : Nat} (h : ((n : Int) / 2 ^ (8 * width) != 0) = false) : n / 256 ^ width = 0 := by
  have e : (2 : Nat) ^ (8 * width) = 256 ^ width := by rw [Nat.pow_mul]
  have h1 : ((n : Int) / 2 ^ (8 * width)) = ((n / 256 ^ width : Nat) : Int) := by rw [← e]; simp
  rw [h1, bne_eq_false_iff_eq] at h
  exact Int.natCast_eq_zero.1 h
theorem shr_more {n width : Nat} (h : ((n : Int) / 2 ^ (8 * width) != 0) = true) : n / 256 ^ width ≠ 0 := by
  have e : (2 : Nat) ^ (8 * width) = 256 ^ width := by rw [Nat.pow_mul]
  have h1 : ((n : Int) / 2 ^ (8 * width)) = ((n / 256 ^ width : Nat) : Int) := by rw [← e]; simp
  rw [h1] at h
  intro h0
  rw [h0] at h
  simp at h

end Go.Proofs.Ytajfhalalnlejaa

/- What DecodeFixed of both packages returns, for every argument. -/
namespace Go.Proofs.Ytajfhalalnlejaa
open Go.RowKit
set_option linter.unusedSimpArgs false
set_option linter.unusedVariables false

def decF (l : List UInt8) : Nat := l.foldl (fun a b => a * 256 + b.toNat) 0
theorem decF_snoc (l : List UInt8) (b : UInt8) : decF (l ++ [b]) = decF l * 256 + b.toNat := by simp [decF]
theorem decF_lt (l : List UInt8) : decF l < 256 ^ l.length := by
  suffices h : ∀ (l : List UInt8) (a k : Nat), a < 256 ^ k → l.foldl (fun a b => a * 256 + b.toNat) a < 256 ^ (k + l.length) by
    have := h l 0 0 (by simp)
    simpa [decF] using this
  intro l
  induction l with
  | nil => intro a k h; simpa using h
  | cons b l ih =>
    intro a k h
    have h2 := ih (a * 256 + b.toNat) (k + 1) (by have := b.toNat_lt; rw [Nat.pow_succ]; omega)
    simp only [List.foldl_cons, List.length_cons]
    rw [show k + (l.length + 1) = k + 1 + l.length by omega]
    exact h2
theorem decF_le (l : List UInt8) (h : l.length ≤ 6) : decF l ≤ 281474976710655 := by
  have h1 := decF_lt l
  have h2 : 256 ^ l.length ≤ 256 ^ 6 := Nat.pow_le_pow_right (by omega) h
  omega
theorem take_snoc (s : ByteArray) (k : Nat) (h : k < s.size) : s.data.toList.take (k + 1) = s.data.toList.take k ++ [s[k]] := by
  rw [List.take_succ_eq_append_getElem (by simpa using h)]; rfl

/-- A number and a truth are returned; nothing that was there has turned. -/
def RetIB (w : World) (p : Int × Bool) (e : Ending) (w' : World) : Prop := e = .returned (.tuple #[.int .i64 p.1, .bool p.2]) ∧ Below w.heap.size w w'

/-- What DecodeFixed returns. -/
def DecF (s : ByteArray) (width : Int) : Int × Bool := if 1 ≤ width ∧ width ≤ 7 ∧ width ≤ s.size then ((decF (s.data.toList.take width.toNat) : Int), true) else (0, false)

end Go.Proofs.Ytajfhalalnlejaa

/- The reader of drawn inputs (spec.l1Cur): its functions return numbers in their ranges and write into the reader alone. -/
namespace Go.Proofs.Ytajfhalalnlejaa
open Go.RowKit Go.ChangeShapes
set_option linter.unusedSimpArgs false
set_option linter.unusedVariables false
set_option maxRecDepth 100000

/-- The bytes of the code are there. -/
def CodeAt (w : World) (a : Option Addr) (len cap : Nat) : Prop := len ≤ 9223372036854775807 ∧ (∀ x, a = some x → 0 < len → x.block < w.heap.size) ∧ ∀ j, j < len → ∃ (b o : Nat) (x : Nat), a = some ⟨b, o, none⟩ ∧ x < 256 ∧ w.cell? ⟨b, o + j, none⟩ = some (.int .u8 x)

theorem CodeAt.below {w w' : World} {a : Option Addr} {len cap B : Nat} (h : CodeAt w a len cap) (hb : Below B w w') (hB : w.heap.size ≤ B) : CodeAt w' a len cap := by
  obtain ⟨h1, h2, h3⟩ := h
  refine ⟨h1, fun x hx h0 => Nat.lt_of_lt_of_le (h2 x hx h0) hb.size, fun j hj => ?_⟩
  obtain ⟨b, o, x, e, hx, hc⟩ := h3 j hj
  exact ⟨b, o, x, e, hx, by rw [hb.cell (p := ⟨b, o + j, none⟩) (Nat.lt_of_lt_of_le (show b < _ from h2 ⟨b, o, none⟩ e (by omega)) hB)]; exact hc⟩

/-- A reader of that code lies in block g. -/
def Cur (a : Option Addr) (len cap : Nat) (w : World) (g : Nat) : Prop :=
  ∃ (i : Nat) (h : Int), w.heap[g]? = some (.cells #[.slice a len cap, .int .i64 i, .int .i64 h] 138 (0, 0)) ∧ i ≤ len

theorem cur_cell {w : World} {g : Nat} {x y z : Value} {t : TypeId} (h : w.heap[g]? = some (.cells #[x, y, z] t (0, 0))) :
    w.cell? ⟨g, 0, none⟩ = some x ∧ w.cell? ⟨g, 1, none⟩ = some y ∧ w.cell? ⟨g, 2, none⟩ = some z ∧ w.frozen? ⟨g, 1, none⟩ = false ∧ w.frozen? ⟨g, 2, none⟩ = false := by
  refine ⟨?_, ?_, ?_, ?_, ?_⟩
  · rw [cell_of_row w g 0 _ t (0, 0) h]; rfl
  · rw [cell_of_row w g 1 _ t (0, 0) h]; rfl
  · rw [cell_of_row w g 2 _ t (0, 0) h]; rfl
  · exact frozen_of_row w g 1 _ t h
  · exact frozen_of_row w g 2 _ t h

theorem and255 (y : Int) : 0 ≤ bits .and .i64 y 255 ∧ bits .and .i64 y 255 ≤ 255 := by
  have e : (BitVec.ofInt 64 255).toNat = 255 := by decide
  have h : (BitVec.ofInt 64 y &&& BitVec.ofInt 64 255).toNat ≤ 255 := by
    rw [BitVec.toNat_and, e]
    exact Nat.and_le_right
  show 0 ≤ IntKind.i64.wrap ((BitVec.ofInt 64 y &&& BitVec.ofInt 64 255).toNat : Int) ∧ IntKind.i64.wrap ((BitVec.ofInt 64 y &&& BitVec.ofInt 64 255).toNat : Int) ≤ 255
  rw [IntWalk.i64_in _ (by omega)]
  omega

/-- A small number is returned, the reader stands, nothing else has turned. -/
def RetB (a : Option Addr) (len cap g : Nat) (w : World) (m : Int) (e : Ending) (w' : World) : Prop := ∃ x : Int, 0 ≤ x ∧ x ≤ m ∧ e = .returned (.int .i64 x) ∧ Cur a len cap w' g ∧ w.grownBy w' (some g)

theorem cur_set (w : World) (g j : Nat) (cs : Array Value) (t : TypeId) (u : Value) (h : w.heap[g]? = some (.cells cs t (0, 0))) : (w.setCell ⟨g, j, none⟩ u).heap[g]? = some (.cells (cs.setIfInBounds j u) t (0, 0)) := heap_setCell_same w g j cs t u h

theorem cur_set1 (w : World) (g : Nat) (x y z u : Value) (t : TypeId) (h : w.heap[g]? = some (.cells #[x, y, z] t (0, 0))) : (w.setCell ⟨g, 1, none⟩ u).heap[g]? = some (.cells #[x, u, z] t (0, 0)) := by
  rw [cur_set w g 1 _ _ u h]; rfl
theorem cur_set2 (w : World) (g : Nat) (x y z u : Value) (t : TypeId) (h : w.heap[g]? = some (.cells #[x, y, z] t (0, 0))) : (w.setCell ⟨g, 2, none⟩ u).heap[g]? = some (.cells #[x, y, u] t (0, 0)) := by
  rw [cur_set w g 2 _ _ u h]; rfl

theorem grown_set (w : World) (g j : Nat) (u : Value) : w.grownBy (w.setCell ⟨g, j, none⟩ u) (some g) := ⟨rfl, rfl, rfl, by simp, fun k hk hne => heap_setCell_other w ⟨g, j, none⟩ k u (fun e => hne (by simp [e]))⟩

theorem grown_trans {a b c : World} {r : Option Nat} (h : a.grownBy b r) (k : b.grownBy c r) : a.grownBy c r :=
  ⟨k.os.trans h.os, k.tape.trans h.tape, k.output.trans h.output, Nat.le_trans h.size k.size, fun i hi hne => (k.block i (Nat.lt_of_lt_of_le hi h.size) hne).trans (h.block i hi hne)⟩

theorem grown_drewN (w : World) (r : Option Nat) (n : Nat) : w.grownBy (w.drewN n) r := ⟨rfl, rfl, rfl, Nat.le_refl _, fun _ _ _ => rfl⟩

theorem code_apart {w : World} {b o j g : Nat} {x : Int} {y z : Int} {s : Option Addr} {n c : Nat} {t : TypeId} (hc : w.cell? ⟨b, o + j, none⟩ = some (.int .u8 x)) (hh : w.heap[g]? = some (.cells #[.slice s n c, .int .i64 y, .int .i64 z] t (0, 0))) : b ≠ g := by
  intro e
  subst e
  rw [cell_of_row w b (o + j) _ t (0, 0) hh] at hc
  match o + j, hc with
  | 0, hc => simp at hc
  | 1, hc => simp at hc
  | 2, hc => simp at hc
  | k + 3, hc => simp at hc

set_option maxHeartbeats 2000000 in
theorem byte_any (a : Option Addr) (len cap g : Nat) (w : World) (hcode : CodeAt w a len cap) (hc : Cur a len cap w g) :
    Calls Try.prog 114 #[.pointer (some ⟨g, 0, none⟩)] w (RetB a len cap g w 255) := by
  obtain ⟨i, h, hh, hil⟩ := hc
  have hlen := hcode.1
  obtain ⟨c0, c1, c2, f1, f2⟩ := cur_cell hh
  obtain ⟨h1, e1⟩ : ∃ h1, wrap64 (wrap64 (h * 6364136223846793005) + 1442695040888963407) = h1 := ⟨_, rfl⟩
  obtain ⟨x0, e2⟩ : ∃ x0, bits .and .i64 (bits .xor .i64 (h1 / 8589934592) (h1 / 35184372088832)) 255 = x0 := ⟨_, rfl⟩
  have hx0 := and255 (bits .xor .i64 (h1 / 8589934592) (h1 / 35184372088832))
  rw [e2] at hx0
  obtain ⟨hx1, hx2⟩ := hx0
  have s2 := cur_set2 w g _ _ _ (.int .i64 h1) _ hh
  have HH := hide hh
  clear hh
  by_cases hlt : i < len
  · obtain ⟨b, o, y, rfl, hy, hcy⟩ := hcode.2.2 i hlt
    have hbg := code_apart hcy HH.out
    obtain ⟨x3, e3⟩ : ∃ x3, bits .and .i64 (x0 + (y : Int)) 255 = x3 := ⟨_, rfl⟩
    have hx3 := and255 (x0 + (y : Int))
    rw [e3] at hx3
    obtain ⟨hx4, hx5⟩ := hx3
    have hlt2 : (i : Int) < (len : Int) := by omega
    have HS := hide s2
    clear hcode s2
    go_enter Try.func114, Try.ntmps114
    go_wp2
    go_quiet (fail)
    go_wp2
    go_quiet (fail)
    go_wp2
    have q1 : IntKind.i64.wrap (y : Int) = (y : Int) := IntWalk.i64_in _ (by omega)
    have q2 : IntKind.i64.wrap (x0 + (y : Int)) = x0 + (y : Int) := IntWalk.i64_in _ (by omega)
    go_quiet (fail)
    go_wp2
    go_ret
    have s3 := cur_set1 _ g _ _ _ (.int .i64 ((i + 1 : Nat) : Int)) _ HS.out
    exact ⟨x3, hx4, hx5, rfl, ⟨i + 1, h1, s3, by omega⟩, grown_trans (grown_set w g 2 (.int .i64 h1)) (grown_trans (grown_set _ g 1 (.int .i64 ((i + 1 : Nat) : Int))) ⟨rfl, rfl, rfl, Nat.le_refl _, fun _ _ _ => rfl⟩)⟩
  · have hd : decide (i < len) = false := by simp; omega
    have HS := hide s2
    clear hcode s2
    go_enter Try.func114, Try.ntmps114
    go_wp2
    go_quiet (fail)
    go_wp2
    go_quiet (fail)
    go_wp2
    go_ret
    exact ⟨x0, hx1, hx2, rfl, ⟨i, h1, HS.out, hil⟩, grown_trans (grown_set w g 2 (.int .i64 h1)) ⟨rfl, rfl, rfl, Nat.le_refl _, fun _ _ _ => rfl⟩⟩

/-- A reader in block g over a code that lies below block B. -/
structure Rd (B : Nat) (a : Option Addr) (len cap : Nat) (w : World) (g : Nat) : Prop where
  code : CodeAt w a len cap
  cur : Cur a len cap w g
  low : ∀ x, a = some x → 0 < len → x.block < B
  high : B ≤ g

theorem Rd.lt {B : Nat} {a : Option Addr} {len cap g : Nat} {w : World} (h : Rd B a len cap w g) : g < w.heap.size := by
  obtain ⟨i, x, hh, _⟩ := h.cur
  exact (Array.getElem?_eq_some_iff.1 hh).1

theorem Rd.step {B : Nat} {a : Option Addr} {len cap g : Nat} {w w' : World} (h : Rd B a len cap w g) (hb : Below B w w') (hg : w'.heap[g]? = w.heap[g]?) : Rd B a len cap w' g := by
  refine ⟨?_, ?_, h.low, h.high⟩
  · obtain ⟨h1, h2, h3⟩ := h.code
    refine ⟨h1, fun x hx h0 => Nat.lt_of_lt_of_le (h2 x hx h0) hb.size, fun j hj => ?_⟩
    obtain ⟨b, o, x, e, hx, hc⟩ := h3 j hj
    exact ⟨b, o, x, e, hx, by rw [hb.cell (p := ⟨b, o + j, none⟩) (show b < B from h.low ⟨b, o, none⟩ e (by omega))]; exact hc⟩
  · obtain ⟨i, x, hh, hi⟩ := h.cur
    exact ⟨i, x, hg.trans hh, hi⟩

theorem Rd.alloc {B : Nat} {a : Option Addr} {len cap g : Nat} {w : World} (h : Rd B a len cap w g) (o : Obj) : Rd B a len cap (w.alloc o) g :=
  h.step ((Below.refl B w).alloc (by have := h.lt; have := h.high; omega) o) (Below.heap_alloc _ _ _ h.lt)

/-- A small number is returned, the reader stands, nothing else has turned. -/
def RetR (B : Nat) (a : Option Addr) (len cap g : Nat) (w : World) (m : Int) (e : Ending) (w' : World) : Prop := ∃ x : Int, 0 ≤ x ∧ x ≤ m ∧ e = .returned (.int .i64 x) ∧ Rd B a len cap w' g ∧ w.grownBy w' (some g)

theorem grown_below {B g : Nat} {w w' : World} (h : w.grownBy w' (some g)) (hB : B ≤ g) (hs : B ≤ w.heap.size) : Below B w w' :=
  ⟨h.os, h.tape, h.output, h.size, fun k hk => h.block k (by omega) (fun e => by have := Option.some.inj e; omega)⟩

theorem byte_rd (B : Nat) (a : Option Addr) (len cap g : Nat) (w : World) (h : Rd B a len cap w g) : Calls Try.prog 114 #[.pointer (some ⟨g, 0, none⟩)] w (RetR B a len cap g w 255) :=
  (byte_any a len cap g w h.code h.cur).mono fun e w' ⟨x, h1, h2, h3, h4, h5⟩ => by
    have hlt := h.lt
    have hb : Below B w w' := grown_below h5 h.high (by have := h.high; omega)
    refine ⟨x, h1, h2, h3, ⟨?_, h4, h.low, h.high⟩, h5⟩
    obtain ⟨k1, k2, k3⟩ := h.code
    refine ⟨k1, fun x hx h0 => Nat.lt_of_lt_of_le (k2 x hx h0) hb.size, fun j hj => ?_⟩
    obtain ⟨b, o, x, e, hx, hc⟩ := k3 j hj
    exact ⟨b, o, x, e, hx, by rw [hb.cell (p := ⟨b, o + j, none⟩) (show b < B from h.low ⟨b, o, none⟩ e (by omega))]; exact hc⟩

set_option maxHeartbeats 2000000 in
theorem below_rd (B : Nat) (a : Option Addr) (len cap g : Nat) (w : World) (h : Rd B a len cap w g) (n : Int) (hn : 1 ≤ n) (hn2 : n ≤ 4294967296) : Calls Try.prog 81 #[.pointer (some ⟨g, 0, none⟩), .int .i64 n] w (RetR B a len cap g w (n - 1)) := by
  have H := hide h
  clear h
  by_cases h256 : n ≤ 256
  · go_enter Try.func81, Try.ntmps81
    go_wp2_with (go_at_call 114; refine (byte_rd B a len cap g _ H.out).mono ?_; rintro e wa ⟨x, hx0, hx1, rfl, hr, hg⟩)
    go_ret
    exact ⟨x % n, Int.emod_nonneg _ (by omega), by have := Int.emod_lt_of_pos x (show 0 < n by omega); omega, rfl, hr, hg⟩
  · go_enter Try.func81, Try.ntmps81
    go_wp2_with fail
    refine (byte_rd B a len cap g _ H.out).mono ?_
    rintro e wa ⟨x, hx0, hx1, rfl, hr, hg⟩
    have HR := hide hr
    clear hr
    go_wp2_with fail
    refine (byte_rd B a len cap g _ HR.out).mono ?_
    rintro e wb ⟨y, hy0, hy1, rfl, hr2, hg2⟩
    have HR2 := hide hr2
    clear hr2
    go_wp2_with fail
    refine (byte_rd B a len cap g _ HR2.out).mono ?_
    rintro e wc ⟨z, hz0, hz1, rfl, hr3, hg3⟩
    have HR3 := hide hr3
    clear hr3
    go_wp2_with fail
    refine (byte_rd B a len cap g _ HR3.out).mono ?_
    rintro e wd ⟨t, ht0, ht1, rfl, hr4, hg4⟩
    have HR4 := hide hr4
    clear hr4
    go_wp2_with fail
    go_ret
    exact ⟨(x * 16777216 + y * 65536 + z * 256 + t) % n, Int.emod_nonneg _ (by omega), by have := Int.emod_lt_of_pos (x * 16777216 + y * 65536 + z * 256 + t) (show 0 < n by omega); omega, rfl, HR4.out, grown_trans hg (grown_trans hg2 (grown_trans hg3 hg4))⟩

/-- The argument code of a drawn law. -/
def CodeV (w : World) (v : Value) : Prop := ∃ a len cap, v = .slice a len cap ∧ CodeAt w a len cap

theorem open_code {H : Type} {enc : TypeId × Value → H} {W : World} {base : Nat} {v : Value} {d : DataW H} {p : List MemPlace} (hv : Value.okWide Try.prog W .any base 52 v) (h : DataW.Trod enc Try.prog W 0 (fun _ => true) true 52 v d p) : CodeV W v := by
  obtain ⟨a, len, cap, rfl⟩ := WideShapes.okWide_slice Try.underlying52 hv
  obtain ⟨fuel, hf⟩ := h
  rcases open_ints Try.underlying52 Try.underlying5 (by kernel_rfl) hf with ⟨hcs, _⟩ | ⟨x, l, c, zs, hcs, _, hl, hm, hz, _, hcell, hwz⟩
  · simp [Value.cells] at hcs
    obtain ⟨rfl, rfl, rfl⟩ := hcs
    exact ⟨_, _, _, rfl, by omega, (fun x hx => by cases hx), fun j hj => by omega⟩
  · simp [Value.cells] at hcs
    obtain ⟨rfl, rfl, rfl⟩ := hcs
    have hz' : zs.length = cap := by simpa using hz
    have hcl : ∀ j, j < len → W.cell? (x.add j) = some (.int .u8 (zs.getD j 0)) := fun j hj => hcell j (by omega)
    refine ⟨_, _, _, rfl, by unfold maxLen at hm; omega, ?_, ?_⟩
    · intro y hy h0
      obtain rfl := Option.some.inj hy
      have h1 := World.block_lt_of_cell? _ _ (hcl 0 h0)
      simpa [Addr.add] using h1
    · intro j hj
      obtain ⟨b, off, spot⟩ := x
      have hc := hcl j hj
      have hspot : spot = none := by simpa [Addr.add] using World.cell?_spot (hcl 0 (by omega))
      subst hspot
      have hg : zs.getD j 0 ∈ zs := by
        rw [List.getD_eq_getElem?_getD, List.getElem?_eq_getElem (by omega)]
        exact List.getElem_mem _
      have hb := bounds_u8 (hwz _ hg)
      refine ⟨b, off, (zs.getD j 0).toNat, rfl, by omega, ?_⟩
      rw [show (((zs.getD j 0).toNat : Nat) : Int) = zs.getD j 0 by omega]
      simpa [Addr.add_lit] using hc

end Go.Proofs.Ytajfhalalnlejaa

/- The drawn numbers and texts: they return, with values in range, and write into new memory alone. -/
namespace Go.Proofs.Ytajfhalalnlejaa
open Go.RowKit
set_option linter.unusedSimpArgs false
set_option linter.unusedVariables false
set_option maxRecDepth 100000

/-- A new reader. -/
def RetP (a : Option Addr) (len cap : Nat) (w : World) (e : Ending) (w' : World) : Prop := ∃ g, e = .returned (.pointer (some ⟨g, 0, none⟩)) ∧ Rd w.heap.size a len cap w' g ∧ Below w.heap.size w w'

theorem rd_new (a : Option Addr) (len cap : Nat) (w : World) (h : Int) (hcode : CodeAt w a len cap) : Rd w.heap.size a len cap (w.alloc (.cells #[.slice a len cap, .int .i64 0, .int .i64 h] 138)) w.heap.size :=
  ⟨hcode.below ((Below.refl w.heap.size w).alloc (Nat.le_refl _) _) (Nat.le_refl _), ⟨0, h, heap_alloc_new w _, by omega⟩, hcode.2.1, Nat.le_refl _⟩

set_option maxHeartbeats 2000000 in
theorem new_any (a : Option Addr) (len cap : Nat) (w : World) (hcode : CodeAt w a len cap) (hlen : len ≤ 1048576) :
    Calls Try.prog 73 #[.slice a len cap] w (RetP a len cap w) := by
  have H := hide hcode
  clear hcode
  go_enter Try.func73, Try.ntmps73
  go_wp2
  go_loopw [3, 4] (fun hh i wr => ∃ (k : Nat) (h : Int), k ≤ len ∧ i = .int .i64 k ∧ hh = .int .i64 h ∧ k ≤ 4000 ∧ w = wr) (fun _ i _ => 4000 - (intOf i).toNat)
  case atStart => exact ⟨0, _, by omega, rfl, rfl, by omega, rfl⟩
  case round =>
    obtain ⟨k, h, hk, rfl, rfl, hk2, rfl⟩ := hrel
    by_cases hl : k < len
    · by_cases h4 : k < 4000
      · obtain ⟨b, o, x, rfl, hx, hc⟩ := H.out.2.2 k hl
        go_wp2
        go_roundw
        case rel => exact ⟨k + 1, _, by omega, by go_num, rfl, by omega, trivial⟩
        case measure => simp [intOf]; omega
      · go_wp2
        go_ret
        exact ⟨_, rfl, rd_new a len cap w h H.out, (Below.refl _ _).alloc (Nat.le_refl _) _⟩
    · go_wp2
      go_ret
      exact ⟨_, rfl, rd_new a len cap w h H.out, (Below.refl _ _).alloc (Nat.le_refl _) _⟩

/-- A number is returned, the reader stands, nothing below B has turned. -/
def RetN (B : Nat) (a : Option Addr) (len cap g : Nat) (w : World) (e : Ending) (w' : World) : Prop := ∃ x : Int, -9223372036854775808 ≤ x ∧ x ≤ 9223372036854775807 ∧ e = .returned (.int .i64 x) ∧ Rd B a len cap w' g ∧ Below B w w'

set_option maxHeartbeats 2000000 in
theorem pick_rd (B : Nat) (a : Option Addr) (len cap g : Nat) (w : World) (h : Rd B a len cap w g) (b n c : Nat) (hn : 1 ≤ n) (hn2 : n ≤ 4294967296) (hbg : b ≠ g) (hb : b < w.heap.size)
    (hc : ∀ j, j < n → ∃ v : Int, w.cell? ⟨b, j, none⟩ = some (.int .i64 v) ∧ -9223372036854775808 ≤ v ∧ v ≤ 9223372036854775807) :
    Calls Try.prog 109 #[.pointer (some ⟨g, 0, none⟩), .slice (some ⟨b, 0, none⟩) n c] w (RetN B a len cap g w) := by
  have H := hide h
  have HC := hide hc
  have hgs := hide h.high
  have hlt := h.lt
  clear h hc
  go_enter Try.func109, Try.ntmps109
  go_wp2_with fail
  refine (below_rd B a len cap g _ H.out (n : Int) (by omega) (by omega)).mono ?_
  rintro e wa ⟨x, hx0, hx1, rfl, hr, hg⟩
  obtain ⟨j, rfl⟩ := Int.eq_ofNat_of_zero_le hx0
  obtain ⟨v, hv, v1, v2⟩ := HC.out j (by omega)
  have hv2 : wa.cell? ⟨b, j, none⟩ = some (.int .i64 v) := by rw [World.cell?_of_block (w := w) (hg.block b hb (fun e => hbg (Option.some.inj e)))]; exact hv
  have hj : (j : Int) < (n : Int) := by omega
  have HR := hide hr
  have HG := hide hg
  clear hr hg hv hx1
  go_wp2_with fail
  go_ret
  exact ⟨v, v1, v2, rfl, HR.out, grown_below HG.out hgs.out (by have := hgs.out; omega)⟩

theorem lits_at (w : World) (L : List Int) (t : TypeId) (hL : L.all (fun v => decide (-9223372036854775808 ≤ v) && decide (v ≤ 9223372036854775807)) = true) :
    ∀ j, j < L.length → ∃ v : Int, (w.alloc (.cells (L.map (Value.int .i64)).toArray t)).cell? ⟨w.heap.size, j, none⟩ = some (.int .i64 v) ∧ -9223372036854775808 ≤ v ∧ v ≤ 9223372036854775807 := by
  intro j hj
  refine ⟨L[j], ?_, ?_⟩
  · rw [World.cell?_alloc_mark]
    simp [hj]
  · have := List.all_eq_true.1 hL L[j] (List.getElem_mem hj)
    simpa using this

def numLits : List Int := [-1, 0, 127, 128, 255, 256, 16383, 16384, 65535, 65536, 562949953421311, 562949953421312, 999999999, 1000000000, -999999999, 9223372036854775807, -9223372036854775808]

/-- A text of at most m bytes is returned. -/
def RetT (B : Nat) (a : Option Addr) (len cap g : Nat) (w : World) (m : Nat) (e : Ending) (w' : World) : Prop := ∃ l : List UInt8, l.length ≤ m ∧ e = .returned (.string ⟨l.toArray⟩) ∧ Rd B a len cap w' g ∧ Below B w w'

theorem own_apart {w : World} {base : Nat} {e t : TypeId} {v : Value} {l : List UInt8} {g : Nat} {cs : Array Value} (h : Bs w base e v l) (hg : w.heap[g]? = some (.cells cs t (0, 0))) (he : e ≠ t) : v.ownBlock ≠ some g := by
  intro hv
  rcases h.2 with ⟨rfl, _⟩ | ⟨k, cap, cur, rfl, _, hk, _⟩
  · simp [Value.ownBlock] at hv
  · simp [Value.ownBlock] at hv
    subst hv
    rw [hg] at hk
    simp at hk
    exact he hk.2.symm

theorem Bs.grown {w w' : World} {base : Nat} {e : TypeId} {v : Value} {l : List UInt8} {g : Nat} (h : Bs w base e v l) (hg : w.grownBy w' (some g)) (hne : v.ownBlock ≠ some g) : Bs w' base e v l :=
  World.ownsRow.kept h hg (.inr hne)

/-- out = append(out, byte(x)), with what is said of the blocks that were there. -/
theorem bs_append2 {P : Program} (W : World) {ops : Array Oper} {rest : List Oper} {o : Oper} {a : Act} {Q : Exit → Act → World → Prop} (hgd : o.guard = none) (s x : Operand) (t : TypeId)
    (ho : o.op = .call { callee := .builtin .append, args := #[s, x], argTypes := #[t, t] })
    (base : Nat) (e : TypeId) (ht : P.underlying t = some (.slice e)) (hinf : (P.info? e).map (fun i => (i.zero, i.size, i.bytes)) = some (some (.int .u8 0), 1, 1))
    (v : Value) (l : List UInt8) (hown : Bs W base e v l) (hs : a.eval s = v) (b : Int) (c : Nat) (h0 : 0 ≤ b) (h1 : b ≤ 255)
    (hx : a.eval x = .slice (some ⟨W.heap.size, 0, none⟩) 1 c) (hlen : l.length < 140737488355328) (hbase : base ≤ W.heap.size)
    (h : ∀ v' w', Bs w' base e v' (l ++ [UInt8.ofNat b.toNat]) → Below base W w' → (∀ k, k < W.heap.size → some k ≠ v.ownBlock → w'.heap[k]? = W.heap[k]?) → wpList P ops Q rest (a.put o.dst v') w') :
    wpList P ops Q (o :: rest) a (W.alloc (.cells #[.int .u8 b] e)) := by
  obtain ⟨i0, hi, hz0, hz1, hz2⟩ := info_parts hinf
  refine wpList_append_own _ hgd s x t ho base e i0 (.int .u8 0) 1 1 ht hi hz0 hz1 hz2 rfl (by decide) v l.length (byteVs l) hs (hown.alloc _) ⟨W.heap.size, 0, none⟩ 1 c [.int .u8 b] hx rfl ?_ ?_ ?_ ?_ ?_ ?_
  · intro j u hj
    match j, hj with
    | 0, hj => simp at hj; subst hj; simp [Addr.add]
  · intro u hu; simp at hu; subst hu; rfl
  · unfold maxLen; omega
  · omega
  · simp; omega
  · intro v' w' hown' hgrow _
    refine h v' w' ?_ ?_ ?_
    · unfold Bs
      rw [byteVs_append, byteVs_one h0 h1, List.length_append]
      exact hown'
    · exact (((Below.refl base W).alloc hbase _).grown hgrow (by simp; omega) (fun k hk => (World.ownsRow.lt hown k hk).1))
    · intro k hk hne
      rw [hgrow.block k (by simp; omega) hne, Below.heap_alloc _ _ _ hk]

/-- A drawn number; a drawn text; two drawn numbers. -/
def RetDn (w : World) (e : Ending) (w' : World) : Prop := ∃ x : Int, -9223372036854775808 ≤ x ∧ x ≤ 9223372036854775807 ∧ e = .returned (.int .i64 x) ∧ Below w.heap.size w w'
def RetDt (w : World) (e : Ending) (w' : World) : Prop := ∃ l : List UInt8, l.length ≤ 40 ∧ e = .returned (.string ⟨l.toArray⟩) ∧ Below w.heap.size w w'
def RetDnn (w : World) (e : Ending) (w' : World) : Prop := ∃ x y : Int, -9223372036854775808 ≤ x ∧ x ≤ 9223372036854775807 ∧ -1 ≤ y ∧ y ≤ 8 ∧ e = .returned (.tuple #[.int .i64 x, .int .i64 y]) ∧ Below w.heap.size w w'

end Go.Proofs.Ytajfhalalnlejaa

/- Drawn numbers, lists and ranges, by what may turn: the reader's block alone. -/
namespace Go.Proofs.Ytajfhalalnlejaa
open Go.RowKit Go.ChangeShapes
set_option linter.unusedSimpArgs false
set_option linter.unusedVariables false
set_option maxRecDepth 100000

theorem grown_only {w w' : World} {g : Nat} (h : w.grownBy w' (some g)) : Only [g] w w' :=
  ⟨⟨h.os, h.tape, h.output, h.size, fun k hk => absurd hk (Nat.not_lt_zero k)⟩, fun k hk hn => h.block k hk (fun e => hn (by simp [Option.some.inj e]))⟩

theorem Only.then' {F : List Nat} {w a c : World} (h : Only F w a) (hb : Below w.heap.size a c) : Only F w c :=
  ⟨h.below.trans (hb.mono (Nat.zero_le _)), fun b hlt hn => (hb.block b hlt).trans (h.block b hlt hn)⟩

theorem Only.low {F : List Nat} {w w' : World} (h : Only F w w') {B : Nat} (hF : ∀ b ∈ F, B ≤ b) (hB : B ≤ w.heap.size) : Below B w w' := h.toBelow hF hB

theorem Rd.only {B : Nat} {a : Option Addr} {len cap g : Nat} {w w' : World} {F : List Nat} (h : Rd B a len cap w g) (ho : Only F w w') (hF : ∀ b ∈ F, g < b) : Rd B a len cap w' g := by
  have hlt := h.lt
  have hh := h.high
  exact h.step (ho.toBelow (fun b hb => by have := hF b hb; omega) (by omega)) (ho.block g hlt (fun hb => by have := hF g hb; omega))

theorem Is.only {w w' : World} {base : Nat} {e : TypeId} {v : Value} {l : List Int} {F : List Nat} (h : Is w base e v l) (ho : Only F w w') (hF : ∀ b ∈ F, b < base) : Is w' base e v l := by
  refine ⟨h.1, ?_⟩
  rcases h.2 with h2 | ⟨g, cap, cur, hv, hb, hg, r⟩
  · exact .inl h2
  · exact .inr ⟨g, cap, cur, hv, hb, by rw [ho.block g (Array.getElem?_eq_some_iff.1 hg).1 (fun hf => by have := hF g hf; omega)]; exact hg, r⟩

/-- A drawn number with P is returned, the reader stands, of what was there only its block may have turned. -/
def RetD (B : Nat) (a : Option Addr) (len cap g : Nat) (w : World) (P : Int → Prop) (e : Ending) (w' : World) : Prop := ∃ x : Int, P x ∧ e = .returned (.int .i64 x) ∧ Rd B a len cap w' g ∧ Only [g] w w'

theorem below_d (B : Nat) (a : Option Addr) (len cap g : Nat) (w : World) (h : Rd B a len cap w g) (n : Int) (hn : 1 ≤ n) (hn2 : n ≤ 4294967296) :
    Calls Try.prog 81 #[.pointer (some ⟨g, 0, none⟩), .int .i64 n] w (RetD B a len cap g w (fun x => 0 ≤ x ∧ x < n)) :=
  (below_rd B a len cap g w h n hn hn2).mono fun e w' ⟨x, h1, h2, h3, h4, h5⟩ => ⟨x, ⟨h1, by omega⟩, h3, h4, grown_only h5⟩

set_option maxHeartbeats 2000000 in
theorem pickI_d (B : Nat) (a : Option Addr) (len cap g : Nat) (w : World) (h : Rd B a len cap w g) (L : List Int) (b n c : Nat) (hn : n = L.length) (hn1 : 1 ≤ n) (hn2 : n ≤ 1000) (hbg : b ≠ g) (hb : b < w.heap.size)
    (hc : ∀ j (hj : j < L.length), w.cell? ⟨b, j, none⟩ = some (.int .i64 L[j])) :
    Calls Try.prog 109 #[.pointer (some ⟨g, 0, none⟩), .slice (some ⟨b, 0, none⟩) n c] w (RetD B a len cap g w (· ∈ L)) := by
  have H := hide h
  have HC := hide hc
  have HN := hide hn
  clear h hc hn
  go_enter Try.func109, Try.ntmps109
  go_wp2_with fail
  refine (below_d B a len cap g _ H.out (n : Int) (by omega) (by omega)).mono ?_
  rintro e wa ⟨x, ⟨hx0, hx1⟩, rfl, hr, hg⟩
  obtain ⟨j, rfl⟩ := Int.eq_ofNat_of_zero_le hx0
  have hjL : j < L.length := by have := HN.out; omega
  obtain ⟨v, hvv⟩ : ∃ v, v = L[j] := ⟨_, rfl⟩
  have hv := HC.out j hjL
  rw [← hvv] at hv
  have hv2 : wa.cell? ⟨b, j, none⟩ = some (.int .i64 v) := by rw [World.cell?_of_block (w := w) (hg.block b hb (by simp; exact hbg))]; exact hv
  have hj : (j : Int) < (n : Int) := by omega
  have HR := hide hr
  have HG := hide hg
  have HV := hide (show v ∈ L by rw [hvv]; exact List.getElem_mem _)
  clear hr hg hv hx1 hvv
  go_wp2_with fail
  go_ret
  exact ⟨v, HV.out, rfl, HR.out, HG.out⟩

/-- A drawn text of L is returned. -/
def RetDS (B : Nat) (a : Option Addr) (len cap g : Nat) (w : World) (L : List ByteArray) (e : Ending) (w' : World) : Prop := ∃ x ∈ L, e = .returned (.string x) ∧ Rd B a len cap w' g ∧ Only [g] w w'

/-- The cells of a list of literals, just made. -/
theorem litsI (w : World) (L : List Int) (t : TypeId) : ∀ j (hj : j < L.length), (w.alloc (.cells (L.map (Value.int .i64)).toArray t)).cell? ⟨w.heap.size, j, none⟩ = some (.int .i64 L[j]) := by
  intro j hj
  rw [World.cell?_alloc_mark]
  simp [hj]
theorem litsS (w : World) (L : List ByteArray) (t : TypeId) : ∀ j (hj : j < L.length), (w.alloc (.cells (L.map Value.string).toArray t)).cell? ⟨w.heap.size, j, none⟩ = some (.string L[j]) := by
  intro j hj
  rw [World.cell?_alloc_mark]
  simp [hj]

theorem wide_pos {x : Int} (h : x ∈ [3, 10, 30, 1000]) : x = 3 ∨ x = 10 ∨ x = 30 ∨ x = 1000 := by simpa using h

/-- Drawn small numbers in a row of the call's own. -/
def RetVs (B : Nat) (a : Option Addr) (len cap g : Nat) (w : World) (most : Nat) (e : Ending) (w' : World) : Prop :=
  ∃ gl capl l, e = .returned (.slice (some ⟨gl, 0, none⟩) l.length capl) ∧ Is w' w.heap.size 3 (.slice (some ⟨gl, 0, none⟩) l.length capl) l ∧ l.length ≤ most ∧ (∀ x ∈ l, -1000 ≤ x ∧ x ≤ 1000) ∧ Rd B a len cap w' g ∧ Only [g] w w'

set_option maxHeartbeats 4000000 in
theorem vals_d (B : Nat) (a : Option Addr) (len cap g : Nat) (w : World) (h : Rd B a len cap w g) (most : Nat) (hm : most ≤ 1000) :
    Calls Try.prog 123 #[.pointer (some ⟨g, 0, none⟩), .int .i64 most] w (RetVs B a len cap g w most) := by
  have hlt := h.lt
  have h1 := h.alloc (.cells #[] 3)
  have HO := hide (Is.made w w.heap.size 3 (Nat.le_refl _))
  have HW := hide (Only.of_below (F := [g]) ((Below.refl w.heap.size w).alloc (Nat.le_refl _) (.cells #[] 3)))
  have H1 := hide (h1.alloc (.cells #[.int .i64 3, .int .i64 10, .int .i64 30, .int .i64 1000] 3))
  have HO := hide (HO.out.below ((Below.refl _ _).alloc (Nat.le_refl _) (.cells #[.int .i64 3, .int .i64 10, .int .i64 30, .int .i64 1000] 3)))
  have HW := hide (HW.out.trans (Only.of_below ((Below.refl _ _).alloc (Nat.le_refl _) (.cells #[.int .i64 3, .int .i64 10, .int .i64 30, .int .i64 1000] 3))))
  have hlits := hide (litsI (w.alloc (.cells #[] 3)) [3, 10, 30, 1000] 3)
  have hz : (w.alloc (.cells #[] 3)).heap.size = w.heap.size + 1 := by simp
  rw [hz] at hlits
  clear h h1 hz
  go_enter Try.func123, Try.ntmps123
  go_wp2_with fail
  refine (pickI_d B a len cap g _ H1.out [3, 10, 30, 1000] (w.heap.size + 1) 4 4 rfl (by omega) (by omega) (by omega) (by simp) hlits.out).mono ?_
  rintro e wa ⟨wd, hwd, rfl, hr, ho⟩
  have hwd2 := wide_pos hwd
  have hw1 : 1 ≤ wd ∧ wd ≤ 1000 := by omega
  have HR := hide hr
  have HO := hide (HO.out.only ho (by simp; exact hlt))
  have HW := hide (HW.out.trans ho)
  clear hr ho hwd hwd2
  obtain ⟨hw1, hw2⟩ := hw1
  go_wp2_with fail
  refine (below_d B a len cap g _ HR.out ((most : Int) + 1) (by omega) (by omega)).mono ?_
  rintro e wb ⟨n, ⟨n0, n1⟩, rfl, hr, ho⟩
  have HR := hide hr
  have HO := hide (HO.out.only ho (by simp; exact hlt))
  have HW := hide (HW.out.trans ho)
  clear hr ho
  obtain ⟨N, rfl⟩ := Int.eq_ofNat_of_zero_le n0
  have hN : N ≤ most := by omega
  clear n0 n1
  go_wp2_with fail
  go_loopw [5, 7, 8] (fun v nn _ wr => ∃ (k : Nat) (l : List Int) (gl capl : Nat), v = .slice (some ⟨gl, 0, none⟩) l.length capl ∧ k ≤ N ∧ nn = .int .i64 k ∧ l.length + k = N ∧ Hid (∀ x ∈ l, -1000 ≤ x ∧ x ≤ 1000) ∧ Hid (Is wr w.heap.size 3 v l) ∧ Hid (Rd B a len cap wr g) ∧ Hid (Only [g] w wr)) (fun _ nn _ _ => (intOf nn).toNat)
  case atStart => exact ⟨N, [], _, _, rfl, by omega, rfl, by simp, by simp [Hid], HO.out, HR.out, HW.out⟩
  case round =>
    clear HO HR HW H1 hlits
    obtain ⟨k, l, gl, capl, rfl, hk, rfl, hlk, hl, O, R, W⟩ := hrel
    by_cases hk0 : k = 0
    · subst hk0
      have HLK := hide hlk
      clear hlk
      go_wp2_with fail
      go_ret
      exact ⟨_, _, l, rfl, O.out, by have := HLK.out; omega, hl.out, R.out, W.out⟩
    · have HLK := hide hlk
      have hll : l.length ≤ 1000 := by omega
      clear hlk
      go_wp2_with fail
      refine (below_d B a len cap g _ R.out wd (by omega) (by omega)).mono ?_
      rintro e wc ⟨x, ⟨x0, x1⟩, rfl, hr, ho⟩
      have R := hide hr
      have O := hide (O.out.only ho (by simp; exact hlt))
      have W := hide (W.out.trans ho)
      have hsz := hide W.out.below.size
      clear hr ho
      go_wp2_with (first | (at_builtin; refine is_append1 wc rfl _ _ 22 rfl w.heap.size 3 Try.underlying22 infoI _ l O.out rfl _ _ rfl (by omega) hsz.out ?_; intro v2 w2 hown2 hb2) | fail)
      have R := hide (R.out.step (hb2.mono (by have := R.out.high; omega)) (hb2.block g hlt))
      have W := hide (W.out.then' hb2)
      obtain ⟨g2, c2, rfl, -, -⟩ := World.ownsRow.form hown2 (by simp)
      have O := hide hown2
      clear hown2 hb2
      go_roundw
      case rel => exact ⟨k - 1, l ++ [x - wd / 3], _, _, rfl, by omega, by go_num, by have := HLK.out; simp; omega, by
        intro y hy
        rcases List.mem_append.1 hy with hy | hy
        · exact hl.out y hy
        · simp at hy; subst hy; omega, O.out, R.out, W.out⟩
      case measure => simp [intOf]; omega

end Go.Proofs.Ytajfhalalnlejaa

/- Blocks of the call's own whose contents are known, while a reader's block (G) may turn; any program. -/
namespace Go.Proofs.Ytajfhalalnlejaa
open Go.RowKit
set_option linter.unusedSimpArgs false
set_option linter.unusedVariables false

/-- Since the call began (world w) nothing old has turned; each block of L, made since, holds what L says. -/
structure Kd (G : List Nat) (w W : World) (L : List (Nat × Array Value × TypeId)) : Prop where
  only : Only G w W
  hold : ∀ e ∈ L, W.heap[e.1]? = some (.cells e.2.1 e.2.2 (0, 0))
  high : ∀ e ∈ L, w.heap.size ≤ e.1
  nodup : (L.map (·.1)).Nodup

theorem Kd.start (G : List Nat) (w : World) : Kd G w w [] := ⟨Only.refl _ _, fun e h => by simp at h, fun e h => by simp at h, by simp⟩

theorem Kd.alloc {G : List Nat} {w W : World} {L : List (Nat × Array Value × TypeId)} (h : Kd G w W L) (c : Array Value) (t : TypeId) : Kd G w (W.alloc (.cells c t)) (L ++ [(W.heap.size, c, t)]) := by
  have lt : ∀ e ∈ L, e.1 < W.heap.size := fun e he => (Array.getElem?_eq_some_iff.1 (h.hold e he)).1
  refine ⟨h.only.trans (Only.of_below ((Below.refl _ _).alloc (Nat.le_refl _) _)), fun e he => ?_, fun e he => ?_, ?_⟩
  · rcases List.mem_append.1 he with he | he
    · rw [Below.heap_alloc _ _ _ (lt e he)]; exact h.hold e he
    · obtain rfl : e = (W.heap.size, c, t) := by simpa using he
      exact heap_alloc_new W _
  · rcases List.mem_append.1 he with he | he
    · exact h.high e he
    · obtain rfl : e = (W.heap.size, c, t) := by simpa using he
      exact h.only.below.size
  · rw [List.map_append, List.nodup_append]
    refine ⟨h.nodup, by simp, fun a ha b hb => ?_⟩
    obtain ⟨e, he, rfl⟩ := List.mem_map.1 ha
    obtain rfl : b = W.heap.size := by simpa using hb
    exact Nat.ne_of_lt (lt e he)

theorem Kd.up {G : List Nat} {w W W' : World} {L : List (Nat × Array Value × TypeId)} (h : Kd G w W L) (hb : Below W.heap.size W W') : Kd G w W' L :=
  ⟨h.only.trans (Only.of_below hb), fun e he => by rw [hb.block _ (Array.getElem?_eq_some_iff.1 (h.hold e he)).1]; exact h.hold e he, h.high, h.nodup⟩

/-- A callee's call right behind the making of a block. -/
theorem Kd.upA {G : List Nat} {w W W' : World} {L : List (Nat × Array Value × TypeId)} {c : Array Value} {t : TypeId} (h : Kd G w W L) (hb : Below (W.alloc (.cells c t)).heap.size (W.alloc (.cells c t)) W') : Kd G w W' (L ++ [(W.heap.size, c, t)]) := (h.alloc c t).up hb

theorem Kd.drew {G : List Nat} {w W : World} {L : List (Nat × Array Value × TypeId)} (h : Kd G w W L) : Kd G w W.drew L := ⟨h.only.drew, h.hold, h.high, h.nodup⟩
theorem Kd.drewN {G : List Nat} {w W : World} {L : List (Nat × Array Value × TypeId)} (h : Kd G w W L) (n : Nat) : Kd G w (W.drewN n) L := ⟨h.only.trans (Only.of_below (below_drewN (Below.refl _ _) n)), h.hold, h.high, h.nodup⟩

/-- The same, where the making came right behind a draw. -/
theorem Kd.upD {G : List Nat} {w W W' : World} {L : List (Nat × Array Value × TypeId)} {c : Array Value} {t : TypeId} (h : Kd G w W L) (hb : Below (W.alloc (.cells c t)).drew.heap.size (W.alloc (.cells c t)).drew W') : Kd G w W' (L ++ [(W.heap.size, c, t)]) := (h.alloc c t).drew.up hb

theorem Kd.mem {G : List Nat} {w W : World} {L : List (Nat × Array Value × TypeId)} (h : Kd G w W L) (i : Nat) {g : Nat} {c : Array Value} {t : TypeId} (ho : L[i]? = some (g, c, t)) : W.heap[g]? = some (.cells c t (0, 0)) := h.hold _ (List.mem_of_getElem? ho)

theorem Kd.cell {G : List Nat} {w W : World} {L : List (Nat × Array Value × TypeId)} (h : Kd G w W L) (i j : Nat) {g : Nat} {c : Array Value} {t : TypeId} {x : Value} (ho : L[i]? = some (g, c, t)) (hx : c[j]? = some x) : W.cell? ⟨g, j, none⟩ = some x := by
  rw [cell_of_row W g j c t (0, 0) (h.mem i ho)]; exact hx

theorem Kd.free {G : List Nat} {w W : World} {L : List (Nat × Array Value × TypeId)} (h : Kd G w W L) (i j : Nat) {g : Nat} {c : Array Value} {t : TypeId} (ho : L[i]? = some (g, c, t)) : W.frozen? ⟨g, j, none⟩ = false := frozen_of_row W g j c t (h.mem i ho)

theorem Kd.lt {G : List Nat} {w W : World} {L : List (Nat × Array Value × TypeId)} (h : Kd G w W L) (i : Nat) {g : Nat} {c : Array Value} {t : TypeId} (ho : L[i]? = some (g, c, t)) : g < W.heap.size := (Array.getElem?_eq_some_iff.1 (h.mem i ho)).1

theorem Kd.low {G : List Nat} {w W : World} {L : List (Nat × Array Value × TypeId)} (h : Kd G w W L) (i : Nat) {g : Nat} {c : Array Value} {t : TypeId} (ho : L[i]? = some (g, c, t)) : w.heap.size ≤ g := h.high _ (List.mem_of_getElem? ho)

/-- A store into one of them. -/
theorem Kd.set {G : List Nat} {w W : World} {L : List (Nat × Array Value × TypeId)} (h : Kd G w W L) (i j : Nat) {g : Nat} {c : Array Value} {t : TypeId} (ho : L[i]? = some (g, c, t)) (u : Value) : Kd G w (W.setCell ⟨g, j, none⟩ u) (L.set i (g, c.setIfInBounds j u, t)) := by
  have hi : i < L.length := (List.getElem?_eq_some_iff.1 ho).1
  have hg := (List.getElem?_eq_some_iff.1 ho).2
  have hmap : (L.set i (g, c.setIfInBounds j u, t)).map (·.1) = L.map (·.1) := by
    apply List.ext_getElem
    · simp
    · intro k h1 h2
      by_cases hk : k = i
      · subst hk; simp [hg]
      · simp [List.getElem_set, Ne.symm hk]
  have other : ∀ k (hk : k < L.length), k ≠ i → L[k].1 ≠ g := by
    intro k hk hki e
    have h2 := List.pairwise_iff_getElem.1 h.nodup
    have hL : (L.map (·.1)).length = L.length := List.length_map _
    rcases Nat.lt_or_gt_of_ne hki with hlt | hlt
    · have := h2 k i (by omega) (by omega) hlt
      simp [e, hg] at this
    · have := h2 i k (by omega) (by omega) hlt
      simp [e, hg] at this
  refine ⟨h.only.then' ((Below.refl _ _).setCell (h.low i ho) u), fun e he => ?_, fun e he => ?_, by rw [hmap]; exact h.nodup⟩
  · obtain ⟨k, hk, rfl⟩ := List.getElem_of_mem he
    rw [List.length_set] at hk
    by_cases hki : k = i
    · subst hki
      simp only [List.getElem_set_self]
      exact heap_setCell_same W g j c t u (h.mem k ho)
    · rw [List.getElem_set_ne (Ne.symm hki)]
      rw [heap_setCell_other W ⟨g, j, none⟩ _ u (other k hk hki)]
      exact h.hold _ (List.getElem_mem hk)
  · obtain ⟨k, hk, rfl⟩ := List.getElem_of_mem he
    rw [List.length_set] at hk
    by_cases hki : k = i
    · subst hki
      simp only [List.getElem_set_self]
      exact h.low k ho
    · rw [List.getElem_set_ne (Ne.symm hki)]
      exact h.high _ (List.getElem_mem hk)

/-- All that is known of some of them is forgotten. -/
theorem Kd.sub {G : List Nat} {w W : World} {L M : List (Nat × Array Value × TypeId)} (h : Kd G w W L) (hs : M.Sublist L) : Kd G w W M :=
  ⟨h.only, fun e he => h.hold e (hs.subset he), fun e he => h.high e (hs.subset he), h.nodup.sublist (hs.map _)⟩


/-- A draw: the reader's block turns. -/
theorem Kd.drawn {G : List Nat} {w W W' : World} {L : List (Nat × Array Value × TypeId)} (h : Kd G w W L) (ho : Only G W W') (hG : ∀ b ∈ G, b < w.heap.size) : Kd G w W' L :=
  ⟨h.only.trans ho, fun e he => by rw [ho.block _ (Array.getElem?_eq_some_iff.1 (h.hold e he)).1 (fun hb => by have := hG _ hb; have := h.high e he; omega)]; exact h.hold e he, h.high, h.nodup⟩

/-- Blocks above them turn. -/
theorem Kd.far {G : List Nat} {w W W' : World} {L : List (Nat × Array Value × TypeId)} {B : Nat} (h : Kd G w W L) (hb : Below B W W') (hB : w.heap.size ≤ B) (hL : ∀ e ∈ L, e.1 < B) : Kd G w W' L :=
  ⟨h.only.then' (hb.mono hB), fun e he => by rw [hb.block _ (hL e he)]; exact h.hold e he, h.high, h.nodup⟩

/-- Blocks turn that are none of them. -/
theorem Kd.others {G F : List Nat} {w W W' : World} {L : List (Nat × Array Value × TypeId)} (h : Kd G w W L) (ho : Only F W W') (hF : ∀ b ∈ F, b ∈ G ∨ w.heap.size ≤ b) (hL : ∀ e ∈ L, e.1 ∉ F) : Kd G w W' L :=
  ⟨⟨h.only.below.trans ho.below, fun b hb hn => (ho.block b (Nat.lt_of_lt_of_le hb h.only.below.size) (fun hf => (hF b hf).elim hn (fun h1 => by omega))).trans (h.only.block b hb hn)⟩,
    fun e he => by rw [ho.block _ (Array.getElem?_eq_some_iff.1 (h.hold e he)).1 (hL e he)]; exact h.hold e he, h.high, h.nodup⟩

theorem Kd.one (G : List Nat) (w : World) (c : Array Value) (t : TypeId) : Kd G w (w.alloc (.cells c t)) [(w.heap.size, c, t)] := (Kd.start G w).alloc c t

end Go.Proofs.Ytajfhalalnlejaa

/- Drawn ranges: they return, with bounds that are small, and write into the reader's block alone. -/
namespace Go.Proofs.Ytajfhalalnlejaa
open Go.RowKit Go.ChangeShapes
set_option linter.unusedSimpArgs false
set_option linter.unusedVariables false
set_option maxRecDepth 100000

/-- A drawn range is returned. -/
def RetDR (B : Nat) (a : Option Addr) (len cap g : Nat) (w : World) (e : Ending) (w' : World) : Prop :=
  ∃ f t : Int, (-3000 ≤ f ∧ f ≤ 3000 ∧ -3000 ≤ t ∧ t ≤ 3000) ∧ e = .returned (.agg #[.int .i64 f, .int .i64 t]) ∧ Rd B a len cap w' g ∧ Only [g] w w'

theorem pick4 {B : Nat} {a : Option Addr} {len cap g : Nat} {w : World} (R : Rd B a len cap w g) (p q r s : Int) (b : Nat) (hb : b = w.heap.size) :
    Calls Try.prog 109 #[.pointer (some ⟨g, 0, none⟩), .slice (some ⟨b, 0, none⟩) 4 4] (w.alloc (.cells #[.int .i64 p, .int .i64 q, .int .i64 r, .int .i64 s] 3)) (RetD B a len cap g w (fun x => x = p ∨ x = q ∨ x = r ∨ x = s)) := by
  subst hb
  refine (pickI_d B a len cap g _ (R.alloc _) [p, q, r, s] w.heap.size 4 4 rfl (by omega) (by omega) (by have := R.lt; omega) (by simp) (litsI w [p, q, r, s] 3)).mono ?_
  rintro e w' ⟨x, hx, he, hr, ho⟩
  exact ⟨x, by simpa using hx, he, hr, (Only.of_below ((Below.refl _ _).alloc (Nat.le_refl _) _)).trans ho⟩

end Go.Proofs.Ytajfhalalnlejaa

/- Drawn columns: a value near to one of a column's (promise 3). -/
namespace Go.Proofs.Ytajfhalalnlejaa
open Go.RowKit Go.ChangeShapes
set_option linter.unusedSimpArgs false
set_option linter.unusedVariables false
set_option maxRecDepth 100000

/-- A drawn bool is returned, the reader stands, of what was there only its block may have turned. -/
def RetDB (B : Nat) (a : Option Addr) (len cap g : Nat) (w : World) (e : Ending) (w' : World) : Prop := ∃ b : Bool, e = .returned (.bool b) ∧ Rd B a len cap w' g ∧ Only [g] w w'

theorem once_d (B : Nat) (a : Option Addr) (len cap g : Nat) (w : World) (h : Rd B a len cap w g) (n : Int) (hn : 1 ≤ n) (hn2 : n ≤ 1000) :
    Calls Try.prog 124 #[.pointer (some ⟨g, 0, none⟩), .int .i64 n] w (RetDB B a len cap g w) := by
  have H := hide h
  clear h
  go_enter Try.func124, Try.ntmps124
  go_wp2_with fail
  refine (below_d B a len cap g _ H.out n hn (by omega)).mono ?_
  rintro e wa ⟨x, -, rfl, hr, ho⟩
  have HR := hide hr
  have HO := hide ho
  clear hr ho
  go_wp2_with fail
  go_ret
  exact ⟨_, rfl, HR.out, HO.out⟩

theorem OC.only {w w' : World} {x y z : Value} {l r : List Int} {ps : List Pv} {lo hi n1 h1 n2 h2 n3 h3 g : Nat} (h : OC w x y z l r ps lo hi n1 h1 n2 h2 n3 h3) (ho : Only [g] w w') (hg : g < lo) : OC w' x y z l r ps lo hi n1 h1 n2 h2 n3 h3 := by
  have ht := h.top
  have s : Seg g (g + 1) w w' := ho.seg (by intro b hb; simp at hb; omega) (by omega)
  exact h.seg s (.inr (by omega))

theorem Ow.at2 {w : World} {g n c lo hi : Nat} {l : List Int} (h : Ow w (.slice (some ⟨g, 0, none⟩) n c) l lo hi) (j : Nat) (hj : j < l.length) : w.cell? ⟨g, j, none⟩ = some (.int .i64 l[j]) := by
  obtain ⟨g', e, hc⟩ := h.atS (by omega)
  obtain rfl : g = g' := by simpa using e
  exact hc j hj

/-- Small drawn numbers of a column. -/
def VP (v : Int) : Prop := -1002 ≤ v ∧ v ≤ 1002

theorem pick6 {x : Int} (h : x ∈ [(0 : Int), 3, -2, -1000, 1000, 50]) : VP x := by
  unfold VP
  simp at h
  omega

set_option maxHeartbeats 4000000 in
theorem value_d (B : Nat) (a : Option Addr) (len cap g : Nat) (w : World) (h : Rd B a len cap w g) (a1 a2 a3 : Option Addr) (c1 c2 c3 : Nat) (l r : List Int) (ps : List Pv) (lo hi n1 h1 n2 h2 n3 h3 : Nat)
    (o : OC w (.slice a1 l.length c1) (.slice a2 r.length c2) (.slice a3 ps.length c3) l r ps lo hi n1 h1 n2 h2 n3 h3) (hg : g < lo) (hl : l.length ≤ 1000) (hv : ∀ x ∈ l, -1000 ≤ x ∧ x ≤ 1000) :
    Calls Try.prog 110 #[.pointer (some ⟨g, 0, none⟩), .agg #[.slice a1 l.length c1, .slice a2 r.length c2, .slice a3 ps.length c3]] w (RetD B a len cap g w VP) := by
  have hlt := h.lt
  have R := hide (h.alloc (.cells #[.slice a1 l.length c1, .slice a2 r.length c2, .slice a3 ps.length c3] 27))
  have X := hide (Kd.one [g] w #[.slice a1 l.length c1, .slice a2 r.length c2, .slice a3 ps.length c3] 27)
  have O := hide (o.below (below1 w (.cells #[.slice a1 l.length c1, .slice a2 r.length c2, .slice a3 ps.length c3] 27)))
  have HV := hide hv
  clear hv o
  obtain ⟨w1, hw1⟩ : ∃ w1, w1 = w.alloc (.cells #[.slice a1 l.length c1, .slice a2 r.length c2, .slice a3 ps.length c3] 27) := ⟨_, rfl⟩
  have hz := hide (show w1.heap.size = w.heap.size + 1 by rw [hw1]; simp)
  rw [← hw1] at R X O
  clear h
  have PK := fun (W : World) (hr : Rd B a len cap W g) => pickI_d B a len cap g _ (hr.alloc (.cells ([(0 : Int), 3, -2, -1000, 1000, 50].map (Value.int .i64)).toArray 3)) [0, 3, -2, -1000, 1000, 50] W.heap.size 6 6 rfl (by omega) (by omega) (by have := hr.lt; omega) (by simp) (litsI W [0, 3, -2, -1000, 1000, 50] 3)
  have PK := hide PK
  have P1 := hide (show Calls Try.prog 109 #[.pointer (some ⟨g, 0, none⟩), .slice (some ⟨w.heap.size + 1, 0, none⟩) 6 6] (w1.alloc (.cells #[.int .i64 0, .int .i64 3, .int .i64 (-2), .int .i64 (-1000), .int .i64 1000, .int .i64 50] 3)) (RetD B a len cap g (w1.alloc (.cells #[.int .i64 0, .int .i64 3, .int .i64 (-2), .int .i64 (-1000), .int .i64 1000, .int .i64 50] 3)) (· ∈ [(0 : Int), 3, -2, -1000, 1000, 50])) by
    have := PK.out w1 R.out
    rw [hz.out] at this
    exact this)
  have c00 : w1.cell? ⟨w.heap.size, 0, none⟩ = some (.slice a1 l.length c1) := X.out.cell 0 0 rfl rfl
  by_cases h0 : l.length = 0
  · have t0 : decide (0 < l.length) = false := decide_eq_false (by omega)
    clear h0
    go_enter Try.func110, Try.ntmps110
    rw [hw1] at c00
    go_wp2_with fail
    rw [← hw1]
    clear hw1 c00
    refine P1.out.mono ?_
    rintro e wa ⟨x, hx, rfl, hr, ho⟩
    have hx := hide (pick6 hx)
    have R := hide hr
    have X := hide (X.out.only.trans ((Only.of_below (below1 _ _)).trans ho))
    clear hr ho
    go_wp2_with fail
    go_ret
    exact ⟨x, hx.out, rfl, R.out, X.out⟩
  · have t0 : decide (0 < l.length) = true := decide_eq_true (by omega)
    have HZ := hide h0
    clear h0
    go_enter Try.func110, Try.ntmps110
    rw [hw1] at c00
    go_wp2_with fail
    rw [← hw1]
    clear hw1 c00
    go_at_call 124
    refine (once_d B a len cap g _ R.out 4 (by omega) (by omega)).mono ?_
    rintro e w2 ⟨b, rfl, hr, ho⟩
    have R := hide hr
    have X := hide (X.out.drawn ho (by simp; exact hlt))
    have O := hide (O.out.only ho hg)
    clear hr ho
    cases b
    · have c00 : w2.cell? ⟨w.heap.size, 0, none⟩ = some (.slice a1 l.length c1) := X.out.cell 0 0 rfl rfl
      obtain ⟨gv, hgv, hcv⟩ := O.out.x.atS (by have := HZ.out; omega)
      subst hgv
      have HC := hide hcv
      have HL := hide (show (1 : Int) ≤ (l.length : Int) by have := HZ.out; omega)
      have hGm := hide (show ∀ b ∈ [g], b < w.heap.size from by intro b hb; rw [List.mem_singleton.1 hb]; exact hlt)
      have HL2 := hide (show (l.length : Int) ≤ 4294967296 by omega)
      clear hcv
      go_wp2_with fail
      have R := hide (R.out.step (Below.refl _ _).drew rfl)
      have X := hide X.out.drew
      have O := hide (O.out.below (Below.refl _ _).drew)
      go_region_with (first
        | (go_at_call 81; (with_reducible refine (below_d B a len cap g _ R.out (l.length : Int) HL.out HL2.out).mono ?_); rintro e wq ⟨k, ⟨k0, k1⟩, rfl, hr, ho⟩; obtain ⟨k, rfl⟩ := Int.eq_ofNat_of_zero_le k0; have hkl : k < l.length := (by omega); replace R := hide hr; replace X := hide (X.out.drawn ho hGm.out); replace O := hide (O.out.only ho hg); clear c00; have c00 : wq.cell? ⟨w.heap.size, 0, none⟩ = some (.slice (some ⟨gv, 0, none⟩) l.length c1) := X.out.cell 0 0 rfl rfl; obtain ⟨y, hy⟩ : ∃ y, y = l[k] := ⟨_, rfl⟩; have ec := O.out.x.at2 k hkl; rw [← hy] at ec; have HY := HV.out _ (List.getElem_mem hkl); rw [← hy] at HY; replace HY := hide HY; have HYY := hide hy; clear hy hr ho k0)
        | (go_at_call 81; (with_reducible refine (below_d B a len cap g _ R.out 3 (by omega) (by omega)).mono ?_); rintro e wq ⟨j, ⟨j0, j1⟩, rfl, hr, ho⟩; replace R := hide hr; replace X := hide (X.out.drawn ho hGm.out); replace O := hide (O.out.only ho hg); clear c00; have c00 : wq.cell? ⟨w.heap.size, 0, none⟩ = some (.slice (some ⟨gv, 0, none⟩) l.length c1) := X.out.cell 0 0 rfl rfl; clear ec; have ec := O.out.x.at2 k hkl; rw [← HYY.out] at ec; have hyb := HY.out))
      all_goals go_wp2_with fail
      all_goals
        have w1' : IntKind.i64.wrap (y + j) = y + j := by rw [IntWalk.i64_left, IntWalk.wrap64_in _ (by omega)]
        have w2' : IntKind.i64.wrap (y + j - 1) = y + j - 1 := by rw [IntWalk.i64_left, IntWalk.wrap64_in _ (by omega)]
        have w3' : RowKit.wrap64 (y + j) = y + j := IntWalk.wrap64_in _ (by omega)
        have w4' : RowKit.wrap64 (y + j - 1) = y + j - 1 := IntWalk.wrap64_in _ (by omega)
        exact bodyPost_ret (v := .int .i64 (y + j - 1)) (by simp [results, Try.results110, go_sem, Act.put, w1', w2', w3', w4']) rfl ⟨y + j - 1, by unfold VP; omega, rfl, R.out, X.out.only⟩
    · go_wp2_with fail
      refine (PK.out _ R.out).mono ?_
      rintro e wa ⟨x, hx, rfl, hr, ho⟩
      have hx := hide (pick6 hx)
      have R := hide hr
      have X := hide (X.out.only.trans ((Only.of_below (below1 _ _)).trans ho))
      clear hr ho
      go_wp2_with fail
      go_ret
      exact ⟨x, hx.out, rfl, R.out, X.out⟩

end Go.Proofs.Ytajfhalalnlejaa

/- FnPartitions in numbers (promise 3): the swaps of a partition go inward, leave the smaller elements in front, and are undone in reverse order. Any program. -/
namespace Go.Proofs.Ytajfhalalnlejaa
set_option linter.unusedSimpArgs false
set_option linter.unusedVariables false

theorem swapAt_twice (l : List Int) (i j : Nat) (hi : i < l.length) (hj : j < l.length) : swapAt (swapAt l i j) i j = l := by
  apply List.ext_getElem
  · rw [swapAt_length, swapAt_length]
  · intro k h1 h2
    have e : ∀ (m : List Int) (h : k < m.length), m[k] = m.getD k 0 := fun m h => by simp [List.getD_eq_getElem?_getD, List.getElem?_eq_getElem h]
    rw [e _ h1, e _ h2, swapAt_getD _ _ _ _ (by rw [swapAt_length]; exact hi) (by rw [swapAt_length]; exact hj), swapAt_getD l i j i hi hj, swapAt_getD l i j j hi hj, swapAt_getD l i j k hi hj, if_pos rfl]
    by_cases h3 : k = j
    · subst h3
      rw [if_pos rfl]
      by_cases h4 : i = k
      · subst h4; simp
      · rw [if_neg h4]; first | done | simp
    · rw [if_neg h3, if_neg h3]
      by_cases h4 : k = i
      · subst h4; simp
      · rw [if_neg h4, if_neg h4]

theorem swaps_append : ∀ (a b : List Pv) (l : List Int), swaps l (a ++ b) = swaps (swaps l a) b
  | [], b, l => rfl
  | p :: a, b, l => by simp only [List.cons_append, swaps]; exact swaps_append a b _

theorem swaps_undo : ∀ (sw : List Pv) (l : List Int), sw.all (swOk l.length) = true → swaps (swaps l sw) sw.reverse = l
  | [], l, _ => rfl
  | p :: ps, l, h => by
    simp only [List.all_cons, Bool.and_eq_true] at h
    have h1 := h.1
    unfold swOk at h1
    simp only [Bool.and_eq_true, decide_eq_true_eq] at h1
    rw [List.reverse_cons, swaps_append]
    have e1 : swaps l (p :: ps) = swaps (swapAt l p.1.toNat p.2.toNat) ps := rfl
    rw [e1, swaps_undo ps (swapAt l p.1.toNat p.2.toNat) (by rw [swapAt_length]; exact h.2)]
    show swapAt _ _ _ = l
    exact swapAt_twice l _ _ (by omega) (by omega)

/-- What a partition of valid places is. -/
structure PtOk (l : List Int) (a b p : Int) (sw : List Pv) (t : Int) : Prop where
  all : sw.all (swOk l.length) = true
  inward : sw.Pairwise fun x y => x.1 < y.1 ∧ y.2 < x.2
  order : ∀ q ∈ sw, q.1 < q.2
  len : 2 * (sw.length : Int) ≤ b - a
  lo : a ≤ t
  hi : t ≤ b
  div : ∀ k : Nat, a ≤ (k : Int) → (k : Int) < b → ((swaps l sw).getD k 0 < p ↔ (k : Int) < t)

theorem pt_valid {l : List Int} {a b p : Int} (h : 0 ≤ a ∧ a ≤ b ∧ b ≤ (l.length : Int)) : PtOk l a b p (partP l a b p).1 (partP l a b p).2 := by
  unfold partP
  rw [if_pos h]
  simp only
  obtain ⟨n1, n2, n3, n4⟩ := part_nums l p (b - a).toNat a.toNat b.toNat
  refine ⟨?_, part_inward _ _ _ _ _, fun q hq => (n1 q hq).2.1, by omega, by omega, by omega, fun k h1 h2 => ?_⟩
  · rw [List.all_eq_true]
    intro q hq
    have := n1 q hq
    unfold swOk
    simp only [Bool.and_eq_true, decide_eq_true_eq]
    omega
  · have := part_div p (b - a).toNat a.toNat b.toNat l (by omega) (by omega) k (by omega) (by omega)
    rw [this]
    omega

/-- The new column of valid places has its values, or another length. -/
theorem new_or {l : List Int} (h : (newL l).length = l.length) : newL l = l ∧ (newR l).length = l.length := by
  unfold newL newR at *
  by_cases ha : areVals l = true
  · rw [if_pos ha, if_pos ha]
    exact ⟨rfl, rowsN_length _⟩
  · rw [if_neg ha] at h
    rw [if_neg ha, if_neg ha]
    have : l = [] := List.eq_nil_of_length_eq_zero (by simpa using h.symm)
    subst this
    exact ⟨rfl, rfl⟩

theorem newL_len {l : List Int} (hl : l.length ≤ 12) (hw : ∀ x ∈ l, I64 x) : (newL l).length ≤ 1048576 ∧ (newR l).length ≤ 1048576 ∧ (∀ x ∈ newL l, I64 x) ∧ ∀ x ∈ newR l, I64 x := by
  unfold newL newR
  split
  · exact ⟨by omega, by rw [rowsN_length]; omega, hw, rowsN_wf _ (by omega)⟩
  · exact ⟨by simp, by simp, by simp, by simp⟩

theorem ap_done {l r : List Int} {sw : List Pv} (hr : r.length = l.length) (ha : sw.all (swOk l.length) = true) : canSwap l r sw = true ∧ apL l r sw = swaps l sw ∧ apR l r sw = swaps r sw := by
  have h : canSwap l r sw = true := by unfold canSwap; rw [ha, hr]; simp
  unfold apL apR
  rw [if_pos h, if_pos h]
  exact ⟨h, rfl, rfl⟩

theorem ap_undone {l r : List Int} {sw : List Pv} (hr : r.length = l.length) (ha : sw.all (swOk l.length) = true) :
    canSwap (apL l r sw) (apR l r sw) sw.reverse = true ∧ apL (apL l r sw) (apR l r sw) sw.reverse = l ∧ apR (apL l r sw) (apR l r sw) sw.reverse = r := by
  obtain ⟨h1, h2, h3⟩ := ap_done hr ha
  rw [h2, h3]
  have hall : sw.reverse.all (swOk (swaps l sw).length) = true := by rw [List.all_reverse, swaps_length]; exact ha
  obtain ⟨h4, h5, h6⟩ := ap_done (l := swaps l sw) (r := swaps r sw) (sw := sw.reverse) (by rw [swaps_length, swaps_length]; exact hr) hall
  exact ⟨h4, by rw [h5]; exact swaps_undo sw l ha, by rw [h6]; exact swaps_undo sw r (by rw [hr]; exact ha)⟩

end Go.Proofs.Ytajfhalalnlejaa

/- What ApplySwaps of the reference returns (promise 3). Written by gen_aps.py. -/
namespace Go.Proofs.Ytajfhalalnlejaa
open Go.RowKit Go.ChangeShapes
set_option linter.unusedSimpArgs false
set_option linter.unusedVariables false
set_option maxRecDepth 100000

set_option maxHeartbeats 4000000 in
theorem sApply_eq (a1 a2 a3 : Option Addr) (c1 c2 c3 : Nat) (sv : Value) (l r : List Int) (ps sw : List Pv) (w : World) (B : Nat) (V : Hid (Ck w B (.agg #[.slice a1 l.length c1, .slice a2 l.length c2, .slice a3 ps.length c3]) l r ps)) (HR : Hid (r.length = l.length)) (hs : Pvs w B sv sw) (hB : B ≤ w.heap.size) (hl : l.length ≤ 1048576) (hp : ps.length ≤ 1048576) (t : Bool) (HT : Hid (t = sw.all (swOk l.length))) (LL RR : List Int) (HLL : Hid (LL = if t = true then swaps l sw else l)) (HRR : Hid (RR = if t = true then swaps r sw else r)) :
    Calls Try.prog 100 #[.agg #[.slice a1 l.length c1, .slice a2 l.length c2, .slice a3 ps.length c3], sv] w (RetOCB w LL RR ps t) := by
  have HC := hide hs
  obtain ⟨ad, cap, rfl, hlen, hwf, hcell⟩ := hs
  have HCC := hide hcell
  clear hcell hwf
  have X := hide (Kn.two w #[.slice a1 l.length c1, .slice a2 l.length c2, .slice a3 ps.length c3] #[.slice none 0 0, .slice none 0 0, .slice none 0 0] 27 27)
  obtain ⟨w1, hw1⟩ : ∃ w1, w1 = (w.alloc (.cells #[.slice a1 l.length c1, .slice a2 l.length c2, .slice a3 ps.length c3] 27)).alloc (.cells #[.slice none 0 0, .slice none 0 0, .slice none 0 0] 27) := ⟨_, rfl⟩
  have hz1 := hide (show w1.heap.size = w.heap.size + 1 + 1 by rw [hw1]; simp)
  rw [← hw1] at X
  have hq0 : ((l.length : Int) != (l.length : Int)) = false := by simp
  have C0 := hide (fun (W : World) (h : Below w.heap.size w W) => sCopy_any _ l r ps W B (V.out.below h hB) (Nat.le_trans hB h.size) hl (by rw [HR.out]; exact hl) hp)
  go_enter Try.func100, Try.ntmps100
  go_wp2_with fail
  rw [← hw1]
  clear hw1
  have c0 : w1.cell? ⟨w.heap.size, 0, none⟩ = some (.slice a1 l.length c1) := X.out.cell 0 0 rfl rfl
  have c1' : w1.cell? ⟨w.heap.size, 1, none⟩ = some (.slice a2 l.length c2) := X.out.cell 0 1 rfl rfl
  have c2' : w1.cell? ⟨w.heap.size, 2, none⟩ = some (.slice a3 ps.length c3) := X.out.cell 0 2 rfl rfl
  go_wp2_with fail
  go_at_call 66
  refine (C0.out _ X.out.below).mono ?_
  rintro e w2 ⟨x, y, z, lo, hi, n1, h1, n2, h2, n3, h3, rfl, q1, q2, O, hb⟩
  obtain ⟨x1, k1, rfl⟩ := O.x.form
  obtain ⟨x2, k2, hx2⟩ := O.y.form
  rw [HR.out] at hx2
  subst hx2
  obtain ⟨x3, k3, rfl⟩ := O.z.own.form
  have X2 := hide (X.out.up hb)
  have X3 := hide (X2.out.alloc #[.slice x1 l.length k1, .slice x2 l.length k2, .slice x3 ps.length k3] 27)
  have O3 := hide (O.below ((Below.refl w2.heap.size w2).alloc (Nat.le_refl _) (.cells #[.slice x1 l.length k1, .slice x2 l.length k2, .slice x3 ps.length k3] 27)))
  clear c0 c1' c2' O hb X X2
  obtain ⟨m, hm⟩ : ∃ m, m = w2.heap.size := ⟨_, rfl⟩
  obtain ⟨w3, hw3⟩ : ∃ w3, w3 = w2.alloc (.cells #[.slice x1 l.length k1, .slice x2 l.length k2, .slice x3 ps.length k3] 27) := ⟨_, rfl⟩
  rw [← hw3] at X3 O3
  rw [← hm] at X3 q2
  simp only [List.cons_append, List.nil_append] at X3
  have Q1 := hide q1
  have Q2 := hide q2
  have EL := hide HLL.out
  have ER := hide HRR.out
  clear HLL HRR
  go_wp2_with fail
  rw [← hw3]
  try rw [← hm]
  clear hw3 hm q1 q2
  go_loopw [7] (fun u wr => ∃ (k : Nat), k ≤ sw.length ∧ u = .int .i64 k ∧ Hid ((sw.take k).all (swOk l.length) = true) ∧ Hid (Kn w wr [(w.heap.size, #[.slice a1 l.length c1, .slice a2 l.length c2, .slice a3 ps.length c3], 27), (w.heap.size + 1, #[.slice none 0 0, .slice none 0 0, .slice none 0 0], 27), (m, #[.slice x1 l.length k1, .slice x2 l.length k2, .slice x3 ps.length k3], 27)]) ∧ Hid (OC wr (.slice x1 l.length k1) (.slice x2 l.length k2) (.slice x3 ps.length k3) (swaps l (sw.take k)) (swaps r (sw.take k)) ps lo hi n1 h1 n2 h2 n3 h3)) (fun u _ => sw.length - (intOf u).toNat)
  case atStart => exact ⟨0, by omega, rfl, by simp [Hid], X3.out, by simpa [Hid, swaps] using O3.out⟩
  case round =>
      clear X3 O3
      obtain ⟨k, hk, rfl, hall, K, O⟩ := hrel
      have e0 : wr.cell? ⟨m, 0, none⟩ = some (.slice x1 l.length k1) := K.out.cell 2 0 rfl rfl
      have e1 : wr.cell? ⟨m, 1, none⟩ = some (.slice x2 l.length k2) := K.out.cell 2 1 rfl rfl
      by_cases hlt : k < sw.length
      · have es1 := hide (swaps_take l sw k hlt)
        have es2 := hide (swaps_take r sw k hlt)
        have hat := hide (all_take (swOk l.length) sw k hlt)
        obtain ⟨b1, o1, rfl, hb1, hc1, hc2⟩ := HCC.out k hlt
        obtain ⟨x, hx⟩ : ∃ x, x = sw[k].1 := ⟨_, rfl⟩
        obtain ⟨y, hy⟩ : ∃ y, y = sw[k].2 := ⟨_, rfl⟩
        rw [← hx] at hc1
        rw [← hy] at hc2
        have d1 : wr.cell? ⟨b1, o1 + k * 2, none⟩ = some (.int .i64 x) := by rw [K.out.below.cell (p := ⟨b1, o1 + k * 2, none⟩) (Nat.lt_of_lt_of_le hb1 hB)]; exact hc1
        have d2 : wr.cell? ⟨b1, o1 + k * 2 + 1, none⟩ = some (.int .i64 y) := by rw [K.out.below.cell (p := ⟨b1, o1 + k * 2 + 1, none⟩) (Nat.lt_of_lt_of_le hb1 hB)]; exact hc2
        have HX := hide hx
        have HY := hide hy
        clear hc1 hc2 hx hy hb1
        by_cases p1 : 0 ≤ x ∧ x ≤ (l.length : Int) - 1
        · have C1 := hide (fun (W : World) => in_yes x 0 ((l.length : Int) - 1) W p1.1 p1.2)
          by_cases p2 : 0 ≤ y ∧ y ≤ (l.length : Int) - 1
          · have C2 := hide (fun (W : World) => in_yes y 0 ((l.length : Int) - 1) W p2.1 p2.2)
            have HA2 := hide (show (sw.take (k + 1)).all (swOk l.length) = true by rw [hat.out, hall.out]; unfold swOk; rw [← HX.out, ← HY.out]; simp; omega)
            obtain ⟨i, rfl⟩ := Int.eq_ofNat_of_zero_le p1.1
            obtain ⟨j, rfl⟩ := Int.eq_ofNat_of_zero_le p2.1
            have ES1 := hide (show swaps l (sw.take (k + 1)) = swapAt (swaps l (sw.take k)) i j by rw [es1.out, ← HX.out, ← HY.out]; rfl)
            have ES2 := hide (show swaps r (sw.take (k + 1)) = swapAt (swaps r (sw.take k)) i j by rw [es2.out, ← HX.out, ← HY.out]; rfl)
            have H1 := hide (show i < (swaps l (sw.take k)).length by rw [swaps_length]; omega)
            have H2 := hide (show j < (swaps l (sw.take k)).length by rw [swaps_length]; omega)
            have H3 := hide (show i < (swaps r (sw.take k)).length by rw [swaps_length, HR.out]; omega)
            have H4 := hide (show j < (swaps r (sw.take k)).length by rw [swaps_length, HR.out]; omega)
            clear p1 p2 hat es1 es2
            go_wp2_with fail
            go_at_call 82
            refine (C1.out _).mono ?_
            rintro e' wa ⟨rfl, rfl⟩
            go_wp2_with fail
            go_at_call 82
            refine (C2.out _).mono ?_
            rintro e' wa ⟨rfl, rfl⟩
            go_wp2_with fail
            go_at_call 113
            refine (sSwap_ow _ (swaps l (sw.take k)) n1 h1 i j wr O.out.x H1.out H2.out).mono ?_
            rintro e' w6 ⟨⟨u, rfl⟩, Ox, s1⟩
            obtain ⟨l1, l2, l3⟩ := O.out.low
            obtain ⟨g1, g2, g3⟩ := O.out.high
            obtain ⟨r1, r2, r3⟩ := O.out.apart
            have hz := hz1.out
            have hq1 := Q1.out
            have hq2 := Q2.out
            have hm := K.out.lt 2 rfl
            have hlo := O.out.x.le
            have K3 := hide (K.out.seg s1 (by omega) (by intro e he; simp at he; rcases he with rfl | rfl | rfl <;> simp <;> omega))
            have Oy := hide (O.out.y.seg s1 (by omega))
            have Oz := hide (O.out.z.seg s1 (by omega))
            have Ox := hide Ox
            have s1 := hide s1
            have e1 : w6.cell? ⟨m, 1, none⟩ = some (.slice x2 l.length k2) := K3.out.cell 2 1 rfl rfl
            have e0 : w6.cell? ⟨m, 0, none⟩ = some (.slice x1 l.length k1) := K3.out.cell 2 0 rfl rfl
            have L := hide (And.intro l1 (And.intro l2 l3))
            have G := hide (And.intro g1 (And.intro g2 g3))
            have A := hide (And.intro r1 (And.intro r2 r3))
            clear l1 l2 l3 g1 g2 g3 r1 r2 r3 hz hq1 hq2 hm hlo
            go_wp2_with fail
            go_at_call 113
            refine (sSwap_ow _ (swaps r (sw.take k)) n2 h2 i j w6 Oy.out H3.out H4.out).mono ?_
            rintro e' w7 ⟨⟨u', rfl⟩, Oy7, s2⟩
            obtain ⟨l1, l2, l3⟩ := L.out
            obtain ⟨g1, g2, g3⟩ := G.out
            obtain ⟨r1, r2, r3⟩ := A.out
            have hz := hz1.out
            have hq1 := Q1.out
            have hq2 := Q2.out
            have hm := K.out.lt 2 rfl
            have hlo := O.out.y.le
            have K4 := hide (K3.out.seg s2 (by omega) (by intro e he; simp at he; rcases he with rfl | rfl | rfl <;> simp <;> omega))
            have Ox7 := hide (Ox.out.seg s2 (by omega))
            have Oz7 := hide (Oz.out.seg s2 (by omega))
            have hsz := hide (Nat.le_trans O.out.top.2 (Nat.le_trans s1.out.below.size s2.below.size))
            have Oy7 := hide Oy7
            clear l1 l2 l3 g1 g2 g3 r1 r2 r3 hz hq1 hq2 hm hlo K3 s2 e0 e1
            go_wp2_with fail
            go_roundw
            case rel =>
              refine ⟨k + 1, by omega, by go_num, HA2.out, K4.out, ?_⟩
              show OC _ _ _ _ _ _ _ _ _ _ _ _ _ _ _
              rw [ES1.out, ES2.out]
              exact ⟨Ox7.out, Oy7.out, Oz7.out, L.out, G.out, A.out, O.out.top.1, hsz.out⟩
            case measure => simp [intOf]; omega
          · have C2 := hide (fun (W : World) => in_no y 0 ((l.length : Int) - 1) W (by omega))
            go_wp2_with fail
            go_at_call 82
            refine (C1.out _).mono ?_
            rintro e' wa ⟨rfl, rfl⟩
            go_wp2_with fail
            go_at_call 82
            refine (C2.out _).mono ?_
            rintro e' wa ⟨rfl, rfl⟩
            have tf : t = false := by
              rw [HT.out]
              exact List.all_eq_false.2 ⟨sw[k], List.getElem_mem hlt, by unfold swOk; rw [← HX.out, ← HY.out]; simp; omega⟩
            subst tf
            obtain rfl : LL = l := EL.out
            obtain rfl : RR = r := ER.out
            have b0 : wr.cell? ⟨w.heap.size, 0, none⟩ = some (.slice a1 LL.length c1) := K.out.cell 0 0 rfl rfl
            have b1 : wr.cell? ⟨w.heap.size, 1, none⟩ = some (.slice a2 LL.length c2) := K.out.cell 0 1 rfl rfl
            have b2 : wr.cell? ⟨w.heap.size, 2, none⟩ = some (.slice a3 ps.length c3) := K.out.cell 0 2 rfl rfl
            go_wp2_with fail
            go_at_call 66
            refine (C0.out _ K.out.below).mono ?_
            rintro e w5 ⟨y1, y2, y3, lo5, hi5, m1, j1, m2, j2, m3, j3, rfl, p3, p4, O5, hb5⟩
            obtain ⟨v1, d1', rfl⟩ := O5.x.form
            obtain ⟨v2, d2', hv2⟩ := O5.y.form
            rw [HR.out] at hv2
            subst hv2
            obtain ⟨v3, d3', rfl⟩ := O5.z.own.form
            have K5 := hide (K.out.up hb5)
            have O5 := hide O5
            have P3 := hide (Nat.le_trans K.out.below.size p3)
            have P5 := hide (Nat.lt_of_lt_of_le (K.out.lt 1 rfl) p3)
            clear b0 b1 b2 hb5 p3 p4 K O
            have g0 : w5.cell? ⟨w.heap.size + 1, 0, none⟩ = some (.slice none 0 0) := K5.out.cell 1 0 rfl rfl
            have g1 : w5.cell? ⟨w.heap.size + 1, 1, none⟩ = some (.slice none 0 0) := K5.out.cell 1 1 rfl rfl
            have g2 : w5.cell? ⟨w.heap.size + 1, 2, none⟩ = some (.slice none 0 0) := K5.out.cell 1 2 rfl rfl
            have f0 := K5.out.free 1 0 rfl
            have f1 := K5.out.free 1 1 rfl
            have f2 := K5.out.free 1 2 rfl
            go_wp2_with fail
            have Z := ((K5.out.set 1 0 rfl (.slice v1 LL.length d1')).set 1 1 rfl (.slice v2 LL.length d2')).set 1 2 rfl (.slice v3 ps.length d3')
            have z0 := Z.cell 1 0 rfl rfl
            have z1 := Z.cell 1 1 rfl rfl
            have z2 := Z.cell 1 2 rfl rfl
            have O6 := O5.out.seg (seg3 _ (w.heap.size + 1) (.slice v1 LL.length d1') (.slice v2 LL.length d2') (.slice v3 ps.length d3')) (.inr P5.out)
            exact bodyPost_ret (v := .tuple #[.agg #[.slice v1 LL.length d1', .slice v2 LL.length d2', .slice v3 ps.length d3'], .bool false]) (by simp [results, Try.results100, go_sem, z0, z1, z2]) rfl
              ⟨_, _, _, lo5, hi5, m1, j1, m2, j2, m3, j3, rfl, P3.out, O6.top.2, O6, Z.below⟩
        · have C1 := hide (fun (W : World) => in_no x 0 ((l.length : Int) - 1) W (by omega))
          have q := True.intro
          · skip
            go_wp2_with fail
            go_at_call 82
            refine (C1.out _).mono ?_
            rintro e' wa ⟨rfl, rfl⟩
            have tf : t = false := by
              rw [HT.out]
              exact List.all_eq_false.2 ⟨sw[k], List.getElem_mem hlt, by unfold swOk; rw [← HX.out, ← HY.out]; simp; omega⟩
            subst tf
            obtain rfl : LL = l := EL.out
            obtain rfl : RR = r := ER.out
            have b0 : wr.cell? ⟨w.heap.size, 0, none⟩ = some (.slice a1 LL.length c1) := K.out.cell 0 0 rfl rfl
            have b1 : wr.cell? ⟨w.heap.size, 1, none⟩ = some (.slice a2 LL.length c2) := K.out.cell 0 1 rfl rfl
            have b2 : wr.cell? ⟨w.heap.size, 2, none⟩ = some (.slice a3 ps.length c3) := K.out.cell 0 2 rfl rfl
            go_wp2_with fail
            go_at_call 66
            refine (C0.out _ K.out.below).mono ?_
            rintro e w5 ⟨y1, y2, y3, lo5, hi5, m1, j1, m2, j2, m3, j3, rfl, p3, p4, O5, hb5⟩
            obtain ⟨v1, d1', rfl⟩ := O5.x.form
            obtain ⟨v2, d2', hv2⟩ := O5.y.form
            rw [HR.out] at hv2
            subst hv2
            obtain ⟨v3, d3', rfl⟩ := O5.z.own.form
            have K5 := hide (K.out.up hb5)
            have O5 := hide O5
            have P3 := hide (Nat.le_trans K.out.below.size p3)
            have P5 := hide (Nat.lt_of_lt_of_le (K.out.lt 1 rfl) p3)
            clear b0 b1 b2 hb5 p3 p4 K O
            have g0 : w5.cell? ⟨w.heap.size + 1, 0, none⟩ = some (.slice none 0 0) := K5.out.cell 1 0 rfl rfl
            have g1 : w5.cell? ⟨w.heap.size + 1, 1, none⟩ = some (.slice none 0 0) := K5.out.cell 1 1 rfl rfl
            have g2 : w5.cell? ⟨w.heap.size + 1, 2, none⟩ = some (.slice none 0 0) := K5.out.cell 1 2 rfl rfl
            have f0 := K5.out.free 1 0 rfl
            have f1 := K5.out.free 1 1 rfl
            have f2 := K5.out.free 1 2 rfl
            go_wp2_with fail
            have Z := ((K5.out.set 1 0 rfl (.slice v1 LL.length d1')).set 1 1 rfl (.slice v2 LL.length d2')).set 1 2 rfl (.slice v3 ps.length d3')
            have z0 := Z.cell 1 0 rfl rfl
            have z1 := Z.cell 1 1 rfl rfl
            have z2 := Z.cell 1 2 rfl rfl
            have O6 := O5.out.seg (seg3 _ (w.heap.size + 1) (.slice v1 LL.length d1') (.slice v2 LL.length d2') (.slice v3 ps.length d3')) (.inr P5.out)
            exact bodyPost_ret (v := .tuple #[.agg #[.slice v1 LL.length d1', .slice v2 LL.length d2', .slice v3 ps.length d3'], .bool false]) (by simp [results, Try.results100, go_sem, z0, z1, z2]) rfl
              ⟨_, _, _, lo5, hi5, m1, j1, m2, j2, m3, j3, rfl, P3.out, O6.top.2, O6, Z.below⟩
      · have hke : k = sw.length := by omega
        subst hke
        rw [List.take_length] at O hall
        have tt : t = true := by rw [HT.out]; exact hall.out
        subst tt
        have EL : Hid (LL = swaps l sw) := EL.out
        have ER : Hid (RR = swaps r sw) := ER.out
        clear e0 e1
        rw [← EL.out, ← ER.out] at O
        have e0 : wr.cell? ⟨m, 0, none⟩ = some (.slice x1 l.length k1) := K.out.cell 2 0 rfl rfl
        have e1 : wr.cell? ⟨m, 1, none⟩ = some (.slice x2 l.length k2) := K.out.cell 2 1 rfl rfl
        have e2 : wr.cell? ⟨m, 2, none⟩ = some (.slice x3 ps.length k3) := K.out.cell 2 2 rfl rfl
        have g0 : wr.cell? ⟨w.heap.size + 1, 0, none⟩ = some (.slice none 0 0) := K.out.cell 1 0 rfl rfl
        have g1 : wr.cell? ⟨w.heap.size + 1, 1, none⟩ = some (.slice none 0 0) := K.out.cell 1 1 rfl rfl
        have g2 : wr.cell? ⟨w.heap.size + 1, 2, none⟩ = some (.slice none 0 0) := K.out.cell 1 2 rfl rfl
        have f0 := K.out.free 1 0 rfl
        have f1 := K.out.free 1 1 rfl
        have f2 := K.out.free 1 2 rfl
        go_wp2_with fail
        have Z := ((K.out.set 1 0 rfl (.slice x1 l.length k1)).set 1 1 rfl (.slice x2 l.length k2)).set 1 2 rfl (.slice x3 ps.length k3)
        have z0 := Z.cell 1 0 rfl rfl
        have z1 := Z.cell 1 1 rfl rfl
        have z2 := Z.cell 1 2 rfl rfl
        have q1 := Q1.out
        have hz := hz1.out
        have O6 := O.out.seg (seg3 _ (w.heap.size + 1) (.slice x1 l.length k1) (.slice x2 l.length k2) (.slice x3 ps.length k3)) (.inr (by omega))
        exact bodyPost_ret (v := .tuple #[.agg #[.slice x1 l.length k1, .slice x2 l.length k2, .slice x3 ps.length k3], .bool true]) (by simp [results, Try.results100, go_sem, z0, z1, z2]) rfl
          ⟨_, _, _, lo, hi, n1, h1, n2, h2, n3, h3, rfl, by omega, O6.top.2, O6, Z.below⟩

set_option maxHeartbeats 4000000 in
theorem sApply_ne (a1 a2 a3 : Option Addr) (c1 c2 c3 : Nat) (sv : Value) (l r : List Int) (ps sw : List Pv) (w : World) (B : Nat) (V : Hid (Ck w B (.agg #[.slice a1 l.length c1, .slice a2 r.length c2, .slice a3 ps.length c3]) l r ps)) (HR : ¬ (r.length = l.length)) (hs : Pvs w B sv sw) (hB : B ≤ w.heap.size) (hl : l.length ≤ 1048576) (hr : r.length ≤ 1048576) (hp : ps.length ≤ 1048576) :
    Calls Try.prog 100 #[.agg #[.slice a1 l.length c1, .slice a2 r.length c2, .slice a3 ps.length c3], sv] w (RetOCB w l r ps false) := by
  obtain ⟨ad, cap, rfl, -⟩ := hs
  have hq0 : ((r.length : Int) != (l.length : Int)) = true := by simp; omega
  have hq1 : (r.length == l.length) = false := by simp; omega
  have hq2 : decide (r.length = l.length) = false := by simp; omega
  clear HR
  have X := hide (Kn.two w #[.slice a1 l.length c1, .slice a2 r.length c2, .slice a3 ps.length c3] #[.slice none 0 0, .slice none 0 0, .slice none 0 0] 27 27)
  obtain ⟨w1, hw1⟩ : ∃ w1, w1 = (w.alloc (.cells #[.slice a1 l.length c1, .slice a2 r.length c2, .slice a3 ps.length c3] 27)).alloc (.cells #[.slice none 0 0, .slice none 0 0, .slice none 0 0] 27) := ⟨_, rfl⟩
  have hz1 := hide (show w1.heap.size = w.heap.size + 1 + 1 by rw [hw1]; simp)
  rw [← hw1] at X
  have C0 := hide (fun (W : World) (h : Below w.heap.size w W) => sCopy_any _ l r ps W B (V.out.below h hB) (Nat.le_trans hB h.size) hl hr hp)
  go_enter Try.func100, Try.ntmps100
  go_wp2_with fail
  rw [← hw1]
  clear hw1
  have c0 : w1.cell? ⟨w.heap.size, 0, none⟩ = some (.slice a1 l.length c1) := X.out.cell 0 0 rfl rfl
  have c1' : w1.cell? ⟨w.heap.size, 1, none⟩ = some (.slice a2 r.length c2) := X.out.cell 0 1 rfl rfl
  have c2' : w1.cell? ⟨w.heap.size, 2, none⟩ = some (.slice a3 ps.length c3) := X.out.cell 0 2 rfl rfl
  go_wp2_with fail
  go_at_call 66
  refine (C0.out _ X.out.below).mono ?_
  rintro e w2 ⟨x, y, z, lo, hi, n1, h1, n2, h2, n3, h3, rfl, q1, q2, O, hb⟩
  obtain ⟨x1, k1, rfl⟩ := O.x.form
  obtain ⟨x2, k2, rfl⟩ := O.y.form
  obtain ⟨x3, k3, rfl⟩ := O.z.own.form
  have X2 := hide (X.out.up hb)
  have X3 := hide (X2.out.alloc #[.slice x1 l.length k1, .slice x2 r.length k2, .slice x3 ps.length k3] 27)
  have O3 := hide (O.below ((Below.refl w2.heap.size w2).alloc (Nat.le_refl _) (.cells #[.slice x1 l.length k1, .slice x2 r.length k2, .slice x3 ps.length k3] 27)))
  clear c0 c1' c2' O hb X X2
  obtain ⟨m, hm⟩ : ∃ m, m = w2.heap.size := ⟨_, rfl⟩
  obtain ⟨w3, hw3⟩ : ∃ w3, w3 = w2.alloc (.cells #[.slice x1 l.length k1, .slice x2 r.length k2, .slice x3 ps.length k3] 27) := ⟨_, rfl⟩
  rw [← hw3] at X3 O3
  rw [← hm] at X3 q2
  simp only [List.cons_append, List.nil_append] at X3
  have b0 : w3.cell? ⟨w.heap.size, 0, none⟩ = some (.slice a1 l.length c1) := X3.out.cell 0 0 rfl rfl
  have b1 : w3.cell? ⟨w.heap.size, 1, none⟩ = some (.slice a2 r.length c2) := X3.out.cell 0 1 rfl rfl
  have g0 : w3.cell? ⟨w.heap.size + 1, 0, none⟩ = some (.slice none 0 0) := X3.out.cell 1 0 rfl rfl
  have g1 : w3.cell? ⟨w.heap.size + 1, 1, none⟩ = some (.slice none 0 0) := X3.out.cell 1 1 rfl rfl
  have g2 : w3.cell? ⟨w.heap.size + 1, 2, none⟩ = some (.slice none 0 0) := X3.out.cell 1 2 rfl rfl
  have f0 := X3.out.free 1 0 rfl
  have f1 := X3.out.free 1 1 rfl
  have f2 := X3.out.free 1 2 rfl
  have Q1 := hide q1
  have Q2 := hide q2
  rw [hw3] at b0 b1 g0 g1 g2 f0 f1 f2
  go_wp2_with fail
  have Z := ((X3.out.set 1 0 rfl (.slice x1 l.length k1)).set 1 1 rfl (.slice x2 r.length k2)).set 1 2 rfl (.slice x3 ps.length k3)
  have q1 := Q1.out
  have hz := hz1.out
  have O6 := O3.out.seg (seg3 _ (w.heap.size + 1) (.slice x1 l.length k1) (.slice x2 r.length k2) (.slice x3 ps.length k3)) (.inr (by omega))
  rw [hw3] at Z O6
  have z0 := Z.cell 1 0 rfl rfl
  have z1 := Z.cell 1 1 rfl rfl
  have z2 := Z.cell 1 2 rfl rfl
  exact bodyPost_ret (v := .tuple #[.agg #[.slice x1 l.length k1, .slice x2 r.length k2, .slice x3 ps.length k3], .bool false]) (by simp [results, Try.results100, go_sem, z0, z1, z2]) rfl
    ⟨_, _, _, lo, hi, n1, h1, n2, h2, n3, h3, rfl, by omega, O6.top.2, O6, Z.below⟩

theorem sApply_any (v sv : Value) (l r : List Int) (ps sw : List Pv) (w : World) (B : Nat) (hv : Ck w B v l r ps) (hs : Pvs w B sv sw) (hB : B ≤ w.heap.size) (hl : l.length ≤ 1048576) (hr : r.length ≤ 1048576) (hp : ps.length ≤ 1048576) :
    Calls Try.prog 100 #[v, sv] w (RetOCB w (apL l r sw) (apR l r sw) ps (canSwap l r sw)) := by
  obtain ⟨a1, c1, a2, c2, a3, c3, rfl, -⟩ := hv.form
  by_cases h : r.length = l.length
  · rw [h] at hv ⊢
    have e : canSwap l r sw = sw.all (swOk l.length) := by unfold canSwap; rw [decide_eq_true h]; rfl
    exact sApply_eq a1 a2 a3 c1 c2 c3 sv l r ps sw w B hv h hs hB hl hp _ e _ _ rfl rfl
  · have e : canSwap l r sw = false := by unfold canSwap; rw [decide_eq_false h]; rfl
    have e1 : apL l r sw = l := by unfold apL; rw [e]; rfl
    have e2 : apR l r sw = r := by unfold apR; rw [e]; rfl
    rw [e, e1, e2]
    exact sApply_ne a1 a2 a3 c1 c2 c3 sv l r ps sw w B hv h hs hB hl hr hp

end Go.Proofs.Ytajfhalalnlejaa

/- What CrackAt of the reference returns (promise 3). Written by gen_crs.py. -/
namespace Go.Proofs.Ytajfhalalnlejaa
open Go.RowKit Go.ChangeShapes
set_option linter.unusedSimpArgs false
set_option linter.unusedVariables false
set_option maxRecDepth 100000

set_option maxHeartbeats 8000000 in
theorem sCrack_any (u : Value) (l r : List Int) (ps : List Pv) (v : Int) (w : World) (B : Nat) (hv : Ck w B u l r ps) (hB : B ≤ w.heap.size) (hl : l.length ≤ 1048576) (hr : r.length ≤ 1048576) (hp : ps.length ≤ 1048576) (hvw : I64 v) :
    Calls Try.prog 52 #[u, .int .i64 v] w (RetOCSB w (crL l r ps v) (crR l r ps v) (crP l r ps v) (crS l r ps v) (crOk l r ps v)) := by
  obtain ⟨a1, c1, a2, c2, a3, c3, rfl, i1, i2, i3⟩ := hv.form
  obtain ⟨wl, wr, wpl, wp⟩ := hv.wf
  have V := hide hv
  have I1 := hide i1
  clear hv i1 i2 i3
  obtain ⟨t0, ht0⟩ : ∃ t, t = isCk l r ps := ⟨_, rfl⟩
  obtain ⟨bd, hbd⟩ : ∃ t, t = decide (-1000 ≤ v ∧ v ≤ 1000) := ⟨_, rfl⟩
  obtain ⟨fd, hfd⟩ : ∃ p, p = fndP ps v := ⟨_, rfl⟩
  obtain ⟨pc, hpc⟩ : ∃ p, p = pieceP l r ps v := ⟨_, rfl⟩
  obtain ⟨pt, hpt⟩ : ∃ p, p = crPt l r ps v := ⟨_, rfl⟩
  obtain ⟨L1, hL1⟩ : ∃ p, p = apL l r pt.1 := ⟨_, rfl⟩
  obtain ⟨R1, hR1⟩ : ∃ p, p = apR l r pt.1 := ⟨_, rfl⟩
  obtain ⟨P1, hP1⟩ : ∃ p, p = adP L1 R1 ps (v, pt.2) := ⟨_, rfl⟩
  obtain ⟨nl, hnl⟩ : ∃ p, p = crL l r ps v := ⟨_, rfl⟩
  obtain ⟨nr, hnr⟩ : ∃ p, p = crR l r ps v := ⟨_, rfl⟩
  obtain ⟨np, hnp⟩ : ∃ p, p = crP l r ps v := ⟨_, rfl⟩
  obtain ⟨ns, hns⟩ : ∃ p, p = crS l r ps v := ⟨_, rfl⟩
  obtain ⟨ok, hok⟩ : ∃ p, p = crOk l r ps v := ⟨_, rfl⟩
  have HOK := hide (show ok = (t0 && bd) by rw [hok, ht0, hbd]; rfl)
  have HDV := hide (show crDiv l r ps v = ((t0 && bd) && !fd.2) by rw [ht0, hbd, hfd]; rfl)
  have HNL := hide (show nl = if ((t0 && bd) && !fd.2) = true then L1 else l by rw [← HDV.out, hnl, hL1, hpt]; rfl)
  have HNR := hide (show nr = if ((t0 && bd) && !fd.2) = true then R1 else r by rw [← HDV.out, hnr, hR1, hpt]; rfl)
  have HNP := hide (show np = if ((t0 && bd) && !fd.2) = true then P1 else ps by rw [← HDV.out, hnp, hP1, hL1, hR1, hpt]; rfl)
  have HNS := hide (show ns = if ((t0 && bd) && !fd.2) = true then pt.1 else [] by rw [← HDV.out, hns, hpt]; rfl)
  rw [← hnl, ← hnr, ← hnp, ← hns, ← hok]
  have HPT := hide (show pt = partP l pc.1 pc.2 v by rw [hpt, hpc]; rfl)
  have hnum := partP_nums l pc.1 pc.2 v hl
  have hpw := partP_wf l pc.1 pc.2 v hl
  rw [← HPT.out] at hnum hpw
  have HL1 := hide (show L1.length ≤ 1048576 ∧ (∀ x ∈ L1, I64 x) by rw [hL1]; exact ⟨by rw [apL_length]; exact hl, apL_wf wl⟩)
  have HR1 := hide (show R1.length ≤ 1048576 ∧ (∀ x ∈ R1, I64 x) by rw [hR1]; exact ⟨by rw [apR_length]; exact hr, apR_wf wr⟩)
  have HNM := hide hnum
  have HPW := hide hpw
  have HWP := hide wp
  have CK := hide (fun (W : World) (h : Below w.heap.size w W) => show Calls Try.prog 35 #[.agg #[.slice a1 l.length c1, .slice a2 r.length c2, .slice a3 ps.length c3]] W (RetB1 W t0) by rw [ht0]; exact sIsCk_any _ l r ps W B (V.out.below h hB) (Nat.le_trans hB h.size))
  have CF := hide (fun (W : World) (h : Below w.heap.size w W) => show Calls Try.prog 51 #[.agg #[.slice a1 l.length c1, .slice a2 r.length c2, .slice a3 ps.length c3], .int .i64 v] W (RetPB W fd) by rw [hfd]; exact sFindP_any _ l r ps v W B (V.out.below h hB) (Nat.le_trans hB h.size))
  have CC := hide (fun (W : World) (h : Below w.heap.size w W) => sCopy_any _ l r ps W B (V.out.below h hB) (Nat.le_trans hB h.size) hl hr hp)
  have CP := hide (fun (W : World) (h : Below w.heap.size w W) => show Calls Try.prog 50 #[.agg #[.slice a1 l.length c1, .slice a2 r.length c2, .slice a3 ps.length c3], .int .i64 v] W (RetII W pc) by rw [hpc]; exact sPieceOf_any _ l r ps v W B (V.out.below h hB) (Nat.le_trans hB h.size))
  have CT := hide (fun (W : World) (h : Below w.heap.size w W) => show Calls Try.prog 99 #[.slice a1 l.length c1, .int .i64 pc.1, .int .i64 pc.2, .int .i64 v] W (RetSI W pt) by rw [HPT.out]; exact sPart_any _ l pc.1 pc.2 v W B (I1.out.below h hB) (Nat.le_trans hB h.size) hl)
  have CAp := hide (fun (W : World) (sv : Value) (h : Below w.heap.size w W) (h2 : Pvs W W.heap.size sv pt.1) => show Calls Try.prog 100 #[.agg #[.slice a1 l.length c1, .slice a2 r.length c2, .slice a3 ps.length c3], sv] W (RetOCB W L1 R1 ps (canSwap l r pt.1)) by rw [hL1, hR1]; exact sApply_any _ sv l r ps pt.1 W W.heap.size ((V.out.below h hB).mono (Nat.le_trans hB h.size)) h2 (Nat.le_refl _) hl hr hp)
  have CAd := hide (fun (W : World) (x : Value) (h : Ck W W.heap.size x L1 R1 ps) => show Calls Try.prog 101 #[x, .agg #[.int .i64 v, .int .i64 pt.2]] W (RetOCB W L1 R1 P1 (adOk L1 R1 ps (v, pt.2))) by rw [hP1]; exact sAdd_any x L1 R1 ps v pt.2 W W.heap.size h ⟨hvw, ⟨by have := HNM.out; omega, by have := HNM.out; omega⟩⟩ (Nat.le_refl _) HL1.out.1 HR1.out.1 hp)
  have HBD := hide hbd
  clear ht0 hbd hfd hpc hpt hL1 hR1 hP1 hnl hnr hnp hns hok hnum hpw wl wr wpl wp
  obtain ⟨f0, f1⟩ := fd
  obtain ⟨pa, pb⟩ := pc
  obtain ⟨sw, at0⟩ := pt
  simp only at HDV HNL HNR HNP HNS CT CAp CAd HNM HPW CP HPT
  obtain ⟨cs, hcs⟩ : ∃ t, t = canSwap l r sw := ⟨_, rfl⟩
  obtain ⟨ad, had⟩ : ∃ t, t = adOk L1 R1 ps (v, at0) := ⟨_, rfl⟩
  rw [← hcs] at CAp
  rw [← had] at CAd
  clear hcs had
  have X := hide (Kn.two w #[.slice a1 l.length c1, .slice a2 r.length c2, .slice a3 ps.length c3] #[.slice none 0 0, .slice none 0 0, .slice none 0 0] 27 27)
  obtain ⟨w1, hw1⟩ : ∃ w1, w1 = (w.alloc (.cells #[.slice a1 l.length c1, .slice a2 r.length c2, .slice a3 ps.length c3] 27)).alloc (.cells #[.slice none 0 0, .slice none 0 0, .slice none 0 0] 27) := ⟨_, rfl⟩
  have hz1 := hide (show w1.heap.size = w.heap.size + 1 + 1 by rw [hw1]; simp)
  rw [← hw1] at X
  have d0 : w1.cell? ⟨w.heap.size, 0, none⟩ = some (.slice a1 l.length c1) := X.out.cell 0 0 rfl rfl
  have d1 : w1.cell? ⟨w.heap.size, 1, none⟩ = some (.slice a2 r.length c2) := X.out.cell 0 1 rfl rfl
  have d2 : w1.cell? ⟨w.heap.size, 2, none⟩ = some (.slice a3 ps.length c3) := X.out.cell 0 2 rfl rfl
  rw [hw1] at d0 d1 d2
  go_enter Try.func52, Try.ntmps52
  go_wp2_with fail
  rw [← hw1]
  clear hw1 d0 d1 d2
  go_at_call 35
  refine (CK.out _ X.out.below).mono ?_
  rintro e w2 ⟨rfl, hb⟩
  have X := hide (X.out.up hb)
  have N2 := hide (Nat.le_trans (Nat.le_of_eq hz1.out.symm) hb.size)
  clear hb
  cases t0 with
  | false =>
    have d0 : w2.cell? ⟨w.heap.size, 0, none⟩ = some (.slice a1 l.length c1) := X.out.cell 0 0 rfl rfl
    have d1 : w2.cell? ⟨w.heap.size, 1, none⟩ = some (.slice a2 r.length c2) := X.out.cell 0 1 rfl rfl
    have d2 : w2.cell? ⟨w.heap.size, 2, none⟩ = some (.slice a3 ps.length c3) := X.out.cell 0 2 rfl rfl
    cases f1 with
    | false =>
      obtain rfl : nl = l := by simpa [Hid] using HNL
      obtain rfl : nr = r := by simpa [Hid] using HNR
      obtain rfl : np = ps := by simpa [Hid] using HNP
      obtain rfl : ns = [] := by simpa [Hid] using HNS
      obtain rfl : ok = false := by simpa [Hid] using HOK
      go_wp2_with fail
      go_at_call 66
      refine (CC.out _ X.out.below).mono ?_
      rintro e w8 ⟨x', y', z', lo', hi', n1', h1', n2', h2', n4, h4, rfl, q1, q2, O8, hb⟩
      obtain ⟨v1, j1, rfl⟩ := O8.x.form
      obtain ⟨v2, j2, rfl⟩ := O8.y.form
      obtain ⟨v3, j4, rfl⟩ := O8.z.own.form
      have K8 := hide (X.out.up hb)
      have P3 := hide (Nat.le_trans X.out.below.size q1)
      have P5 := hide (Nat.lt_of_lt_of_le (X.out.lt 1 rfl) q1)
      have O8 := hide O8
      clear d0 d1 d2 hb q1 q2 X
      have KA := hide (K8.out.alloc #[] 151)
      have OA := hide (O8.out.below (below1 w8 (.cells #[] 151)))
      have OM := hide (Osw.of (OwS.made w8 w8.heap.size (Nat.le_refl _)) (by simp))
      have g0 : (w8.alloc (.cells #[] 151)).cell? ⟨w.heap.size + 1, 0, none⟩ = some (.slice none 0 0) := KA.out.cell 1 0 rfl rfl
      have g1 : (w8.alloc (.cells #[] 151)).cell? ⟨w.heap.size + 1, 1, none⟩ = some (.slice none 0 0) := KA.out.cell 1 1 rfl rfl
      have g2 : (w8.alloc (.cells #[] 151)).cell? ⟨w.heap.size + 1, 2, none⟩ = some (.slice none 0 0) := KA.out.cell 1 2 rfl rfl
      have f0' : (w8.alloc (.cells #[] 151)).frozen? ⟨w.heap.size + 1, 0, none⟩ = false := KA.out.free 1 0 rfl
      have f1' : (w8.alloc (.cells #[] 151)).frozen? ⟨w.heap.size + 1, 1, none⟩ = false := KA.out.free 1 1 rfl
      have f2' : (w8.alloc (.cells #[] 151)).frozen? ⟨w.heap.size + 1, 2, none⟩ = false := KA.out.free 1 2 rfl
      go_wp2_with fail
      have Z := ((KA.out.set 1 0 rfl (.slice v1 nl.length j1)).set 1 1 rfl (.slice v2 nr.length j2)).set 1 2 rfl (.slice v3 np.length j4)
      have z0 := Z.cell 1 0 rfl rfl
      have z1 := Z.cell 1 1 rfl rfl
      have z2 := Z.cell 1 2 rfl rfl
      have P6 := Nat.le_trans P3.out (Nat.le_trans O8.out.top.1 O8.out.top.2)
      have P7 : w.heap.size + 1 + 1 ≤ w8.heap.size := Nat.le_trans P5.out (Nat.le_trans O8.out.top.1 O8.out.top.2)
      have O9 := OA.out.seg (seg3 _ (w.heap.size + 1) (.slice v1 nl.length j1) (.slice v2 nr.length j2) (.slice v3 np.length j4)) (.inr P5.out)
      have M9 := OM.out.seg (seg3 _ (w.heap.size + 1) (.slice v1 nl.length j1) (.slice v2 nr.length j2) (.slice v3 np.length j4)) (.inr P7)
      exact bodyPost_ret (v := .tuple #[.agg #[.slice v1 nl.length j1, .slice v2 nr.length j2, .slice v3 np.length j4], .slice (some ⟨w8.heap.size, 0, none⟩) 0 0, .bool false]) (by simp [results, Try.results52, go_sem, z0, z1, z2]) rfl
        ⟨_, _, _, _, lo', hi', n1', h1', n2', h2', n4, h4, _, _, rfl, ⟨P3.out, P6⟩, ⟨O9.top.2, M9.top⟩, O9, M9, .inl O8.out.top.2, Z.below⟩
    | true =>
      obtain rfl : nl = l := by simpa [Hid] using HNL
      obtain rfl : nr = r := by simpa [Hid] using HNR
      obtain rfl : np = ps := by simpa [Hid] using HNP
      obtain rfl : ns = [] := by simpa [Hid] using HNS
      obtain rfl : ok = false := by simpa [Hid] using HOK
      go_wp2_with fail
      go_at_call 66
      refine (CC.out _ X.out.below).mono ?_
      rintro e w8 ⟨x', y', z', lo', hi', n1', h1', n2', h2', n4, h4, rfl, q1, q2, O8, hb⟩
      obtain ⟨v1, j1, rfl⟩ := O8.x.form
      obtain ⟨v2, j2, rfl⟩ := O8.y.form
      obtain ⟨v3, j4, rfl⟩ := O8.z.own.form
      have K8 := hide (X.out.up hb)
      have P3 := hide (Nat.le_trans X.out.below.size q1)
      have P5 := hide (Nat.lt_of_lt_of_le (X.out.lt 1 rfl) q1)
      have O8 := hide O8
      clear d0 d1 d2 hb q1 q2 X
      have KA := hide (K8.out.alloc #[] 151)
      have OA := hide (O8.out.below (below1 w8 (.cells #[] 151)))
      have OM := hide (Osw.of (OwS.made w8 w8.heap.size (Nat.le_refl _)) (by simp))
      have g0 : (w8.alloc (.cells #[] 151)).cell? ⟨w.heap.size + 1, 0, none⟩ = some (.slice none 0 0) := KA.out.cell 1 0 rfl rfl
      have g1 : (w8.alloc (.cells #[] 151)).cell? ⟨w.heap.size + 1, 1, none⟩ = some (.slice none 0 0) := KA.out.cell 1 1 rfl rfl
      have g2 : (w8.alloc (.cells #[] 151)).cell? ⟨w.heap.size + 1, 2, none⟩ = some (.slice none 0 0) := KA.out.cell 1 2 rfl rfl
      have f0' : (w8.alloc (.cells #[] 151)).frozen? ⟨w.heap.size + 1, 0, none⟩ = false := KA.out.free 1 0 rfl
      have f1' : (w8.alloc (.cells #[] 151)).frozen? ⟨w.heap.size + 1, 1, none⟩ = false := KA.out.free 1 1 rfl
      have f2' : (w8.alloc (.cells #[] 151)).frozen? ⟨w.heap.size + 1, 2, none⟩ = false := KA.out.free 1 2 rfl
      go_wp2_with fail
      have Z := ((KA.out.set 1 0 rfl (.slice v1 nl.length j1)).set 1 1 rfl (.slice v2 nr.length j2)).set 1 2 rfl (.slice v3 np.length j4)
      have z0 := Z.cell 1 0 rfl rfl
      have z1 := Z.cell 1 1 rfl rfl
      have z2 := Z.cell 1 2 rfl rfl
      have P6 := Nat.le_trans P3.out (Nat.le_trans O8.out.top.1 O8.out.top.2)
      have P7 : w.heap.size + 1 + 1 ≤ w8.heap.size := Nat.le_trans P5.out (Nat.le_trans O8.out.top.1 O8.out.top.2)
      have O9 := OA.out.seg (seg3 _ (w.heap.size + 1) (.slice v1 nl.length j1) (.slice v2 nr.length j2) (.slice v3 np.length j4)) (.inr P5.out)
      have M9 := OM.out.seg (seg3 _ (w.heap.size + 1) (.slice v1 nl.length j1) (.slice v2 nr.length j2) (.slice v3 np.length j4)) (.inr P7)
      exact bodyPost_ret (v := .tuple #[.agg #[.slice v1 nl.length j1, .slice v2 nr.length j2, .slice v3 np.length j4], .slice (some ⟨w8.heap.size, 0, none⟩) 0 0, .bool false]) (by simp [results, Try.results52, go_sem, z0, z1, z2]) rfl
        ⟨_, _, _, _, lo', hi', n1', h1', n2', h2', n4, h4, _, _, rfl, ⟨P3.out, P6⟩, ⟨O9.top.2, M9.top⟩, O9, M9, .inl O8.out.top.2, Z.below⟩
  | true =>
    cases bd with
    | false =>
      have d0 : w2.cell? ⟨w.heap.size, 0, none⟩ = some (.slice a1 l.length c1) := X.out.cell 0 0 rfl rfl
      have d1 : w2.cell? ⟨w.heap.size, 1, none⟩ = some (.slice a2 r.length c2) := X.out.cell 0 1 rfl rfl
      have d2 : w2.cell? ⟨w.heap.size, 2, none⟩ = some (.slice a3 ps.length c3) := X.out.cell 0 2 rfl rfl
      have hvb := of_decide_eq_false HBD.out.symm
      have CB := hide (fun (W : World) => in_no v (-1000) 1000 W (by omega))
      clear hvb
      go_wp2_with fail
      go_at_call 82
      refine (CB.out _).mono ?_
      rintro e wq ⟨rfl, rfl⟩
      cases f1 with
      | false =>
        obtain rfl : nl = l := by simpa [Hid] using HNL
        obtain rfl : nr = r := by simpa [Hid] using HNR
        obtain rfl : np = ps := by simpa [Hid] using HNP
        obtain rfl : ns = [] := by simpa [Hid] using HNS
        obtain rfl : ok = false := by simpa [Hid] using HOK
        go_wp2_with fail
        go_at_call 66
        refine (CC.out _ X.out.below).mono ?_
        rintro e w8 ⟨x', y', z', lo', hi', n1', h1', n2', h2', n4, h4, rfl, q1, q2, O8, hb⟩
        obtain ⟨v1, j1, rfl⟩ := O8.x.form
        obtain ⟨v2, j2, rfl⟩ := O8.y.form
        obtain ⟨v3, j4, rfl⟩ := O8.z.own.form
        have K8 := hide (X.out.up hb)
        have P3 := hide (Nat.le_trans X.out.below.size q1)
        have P5 := hide (Nat.lt_of_lt_of_le (X.out.lt 1 rfl) q1)
        have O8 := hide O8
        clear d0 d1 d2 hb q1 q2 X
        have KA := hide (K8.out.alloc #[] 151)
        have OA := hide (O8.out.below (below1 w8 (.cells #[] 151)))
        have OM := hide (Osw.of (OwS.made w8 w8.heap.size (Nat.le_refl _)) (by simp))
        have g0 : (w8.alloc (.cells #[] 151)).cell? ⟨w.heap.size + 1, 0, none⟩ = some (.slice none 0 0) := KA.out.cell 1 0 rfl rfl
        have g1 : (w8.alloc (.cells #[] 151)).cell? ⟨w.heap.size + 1, 1, none⟩ = some (.slice none 0 0) := KA.out.cell 1 1 rfl rfl
        have g2 : (w8.alloc (.cells #[] 151)).cell? ⟨w.heap.size + 1, 2, none⟩ = some (.slice none 0 0) := KA.out.cell 1 2 rfl rfl
        have f0' : (w8.alloc (.cells #[] 151)).frozen? ⟨w.heap.size + 1, 0, none⟩ = false := KA.out.free 1 0 rfl
        have f1' : (w8.alloc (.cells #[] 151)).frozen? ⟨w.heap.size + 1, 1, none⟩ = false := KA.out.free 1 1 rfl
        have f2' : (w8.alloc (.cells #[] 151)).frozen? ⟨w.heap.size + 1, 2, none⟩ = false := KA.out.free 1 2 rfl
        go_wp2_with fail
        have Z := ((KA.out.set 1 0 rfl (.slice v1 nl.length j1)).set 1 1 rfl (.slice v2 nr.length j2)).set 1 2 rfl (.slice v3 np.length j4)
        have z0 := Z.cell 1 0 rfl rfl
        have z1 := Z.cell 1 1 rfl rfl
        have z2 := Z.cell 1 2 rfl rfl
        have P6 := Nat.le_trans P3.out (Nat.le_trans O8.out.top.1 O8.out.top.2)
        have P7 : w.heap.size + 1 + 1 ≤ w8.heap.size := Nat.le_trans P5.out (Nat.le_trans O8.out.top.1 O8.out.top.2)
        have O9 := OA.out.seg (seg3 _ (w.heap.size + 1) (.slice v1 nl.length j1) (.slice v2 nr.length j2) (.slice v3 np.length j4)) (.inr P5.out)
        have M9 := OM.out.seg (seg3 _ (w.heap.size + 1) (.slice v1 nl.length j1) (.slice v2 nr.length j2) (.slice v3 np.length j4)) (.inr P7)
        exact bodyPost_ret (v := .tuple #[.agg #[.slice v1 nl.length j1, .slice v2 nr.length j2, .slice v3 np.length j4], .slice (some ⟨w8.heap.size, 0, none⟩) 0 0, .bool false]) (by simp [results, Try.results52, go_sem, z0, z1, z2]) rfl
          ⟨_, _, _, _, lo', hi', n1', h1', n2', h2', n4, h4, _, _, rfl, ⟨P3.out, P6⟩, ⟨O9.top.2, M9.top⟩, O9, M9, .inl O8.out.top.2, Z.below⟩
      | true =>
        obtain rfl : nl = l := by simpa [Hid] using HNL
        obtain rfl : nr = r := by simpa [Hid] using HNR
        obtain rfl : np = ps := by simpa [Hid] using HNP
        obtain rfl : ns = [] := by simpa [Hid] using HNS
        obtain rfl : ok = false := by simpa [Hid] using HOK
        go_wp2_with fail
        go_at_call 66
        refine (CC.out _ X.out.below).mono ?_
        rintro e w8 ⟨x', y', z', lo', hi', n1', h1', n2', h2', n4, h4, rfl, q1, q2, O8, hb⟩
        obtain ⟨v1, j1, rfl⟩ := O8.x.form
        obtain ⟨v2, j2, rfl⟩ := O8.y.form
        obtain ⟨v3, j4, rfl⟩ := O8.z.own.form
        have K8 := hide (X.out.up hb)
        have P3 := hide (Nat.le_trans X.out.below.size q1)
        have P5 := hide (Nat.lt_of_lt_of_le (X.out.lt 1 rfl) q1)
        have O8 := hide O8
        clear d0 d1 d2 hb q1 q2 X
        have KA := hide (K8.out.alloc #[] 151)
        have OA := hide (O8.out.below (below1 w8 (.cells #[] 151)))
        have OM := hide (Osw.of (OwS.made w8 w8.heap.size (Nat.le_refl _)) (by simp))
        have g0 : (w8.alloc (.cells #[] 151)).cell? ⟨w.heap.size + 1, 0, none⟩ = some (.slice none 0 0) := KA.out.cell 1 0 rfl rfl
        have g1 : (w8.alloc (.cells #[] 151)).cell? ⟨w.heap.size + 1, 1, none⟩ = some (.slice none 0 0) := KA.out.cell 1 1 rfl rfl
        have g2 : (w8.alloc (.cells #[] 151)).cell? ⟨w.heap.size + 1, 2, none⟩ = some (.slice none 0 0) := KA.out.cell 1 2 rfl rfl
        have f0' : (w8.alloc (.cells #[] 151)).frozen? ⟨w.heap.size + 1, 0, none⟩ = false := KA.out.free 1 0 rfl
        have f1' : (w8.alloc (.cells #[] 151)).frozen? ⟨w.heap.size + 1, 1, none⟩ = false := KA.out.free 1 1 rfl
        have f2' : (w8.alloc (.cells #[] 151)).frozen? ⟨w.heap.size + 1, 2, none⟩ = false := KA.out.free 1 2 rfl
        go_wp2_with fail
        have Z := ((KA.out.set 1 0 rfl (.slice v1 nl.length j1)).set 1 1 rfl (.slice v2 nr.length j2)).set 1 2 rfl (.slice v3 np.length j4)
        have z0 := Z.cell 1 0 rfl rfl
        have z1 := Z.cell 1 1 rfl rfl
        have z2 := Z.cell 1 2 rfl rfl
        have P6 := Nat.le_trans P3.out (Nat.le_trans O8.out.top.1 O8.out.top.2)
        have P7 : w.heap.size + 1 + 1 ≤ w8.heap.size := Nat.le_trans P5.out (Nat.le_trans O8.out.top.1 O8.out.top.2)
        have O9 := OA.out.seg (seg3 _ (w.heap.size + 1) (.slice v1 nl.length j1) (.slice v2 nr.length j2) (.slice v3 np.length j4)) (.inr P5.out)
        have M9 := OM.out.seg (seg3 _ (w.heap.size + 1) (.slice v1 nl.length j1) (.slice v2 nr.length j2) (.slice v3 np.length j4)) (.inr P7)
        exact bodyPost_ret (v := .tuple #[.agg #[.slice v1 nl.length j1, .slice v2 nr.length j2, .slice v3 np.length j4], .slice (some ⟨w8.heap.size, 0, none⟩) 0 0, .bool false]) (by simp [results, Try.results52, go_sem, z0, z1, z2]) rfl
          ⟨_, _, _, _, lo', hi', n1', h1', n2', h2', n4, h4, _, _, rfl, ⟨P3.out, P6⟩, ⟨O9.top.2, M9.top⟩, O9, M9, .inl O8.out.top.2, Z.below⟩
    | true =>
      have d0 : w2.cell? ⟨w.heap.size, 0, none⟩ = some (.slice a1 l.length c1) := X.out.cell 0 0 rfl rfl
      have d1 : w2.cell? ⟨w.heap.size, 1, none⟩ = some (.slice a2 r.length c2) := X.out.cell 0 1 rfl rfl
      have d2 : w2.cell? ⟨w.heap.size, 2, none⟩ = some (.slice a3 ps.length c3) := X.out.cell 0 2 rfl rfl
      have hvb := of_decide_eq_true HBD.out.symm
      have CB := hide (fun (W : World) => in_yes v (-1000) 1000 W hvb.1 hvb.2)
      clear hvb
      go_wp2_with fail
      go_at_call 82
      refine (CB.out _).mono ?_
      rintro e wq ⟨rfl, rfl⟩
      go_wp2_with fail
      go_at_call 51
      refine (CF.out _ X.out.below).mono ?_
      rintro e w3 ⟨rfl, hb⟩
      have X := hide (X.out.up hb)
      have N3 := hide (Nat.le_trans N2.out hb.size)
      clear hb d0 d1 d2
      have d0 : w3.cell? ⟨w.heap.size, 0, none⟩ = some (.slice a1 l.length c1) := X.out.cell 0 0 rfl rfl
      have d1 : w3.cell? ⟨w.heap.size, 1, none⟩ = some (.slice a2 r.length c2) := X.out.cell 0 1 rfl rfl
      have d2 : w3.cell? ⟨w.heap.size, 2, none⟩ = some (.slice a3 ps.length c3) := X.out.cell 0 2 rfl rfl
      cases f1 with
      | true =>
        obtain rfl : nl = l := by simpa [Hid] using HNL
        obtain rfl : nr = r := by simpa [Hid] using HNR
        obtain rfl : np = ps := by simpa [Hid] using HNP
        obtain rfl : ns = [] := by simpa [Hid] using HNS
        obtain rfl : ok = true := by simpa [Hid] using HOK
        go_wp2_with fail
        go_at_call 66
        refine (CC.out _ X.out.below).mono ?_
        rintro e w8 ⟨x', y', z', lo', hi', n1', h1', n2', h2', n4, h4, rfl, q1, q2, O8, hb⟩
        obtain ⟨v1, j1, rfl⟩ := O8.x.form
        obtain ⟨v2, j2, rfl⟩ := O8.y.form
        obtain ⟨v3, j4, rfl⟩ := O8.z.own.form
        have K8 := hide (X.out.up hb)
        have P3 := hide (Nat.le_trans X.out.below.size q1)
        have P5 := hide (Nat.lt_of_lt_of_le (X.out.lt 1 rfl) q1)
        have O8 := hide O8
        clear d0 d1 d2 hb q1 q2 X
        have KA := hide (K8.out.alloc #[] 151)
        have OA := hide (O8.out.below (below1 w8 (.cells #[] 151)))
        have OM := hide (Osw.of (OwS.made w8 w8.heap.size (Nat.le_refl _)) (by simp))
        have g0 : (w8.alloc (.cells #[] 151)).cell? ⟨w.heap.size + 1, 0, none⟩ = some (.slice none 0 0) := KA.out.cell 1 0 rfl rfl
        have g1 : (w8.alloc (.cells #[] 151)).cell? ⟨w.heap.size + 1, 1, none⟩ = some (.slice none 0 0) := KA.out.cell 1 1 rfl rfl
        have g2 : (w8.alloc (.cells #[] 151)).cell? ⟨w.heap.size + 1, 2, none⟩ = some (.slice none 0 0) := KA.out.cell 1 2 rfl rfl
        have f0' : (w8.alloc (.cells #[] 151)).frozen? ⟨w.heap.size + 1, 0, none⟩ = false := KA.out.free 1 0 rfl
        have f1' : (w8.alloc (.cells #[] 151)).frozen? ⟨w.heap.size + 1, 1, none⟩ = false := KA.out.free 1 1 rfl
        have f2' : (w8.alloc (.cells #[] 151)).frozen? ⟨w.heap.size + 1, 2, none⟩ = false := KA.out.free 1 2 rfl
        go_wp2_with fail
        have Z := ((KA.out.set 1 0 rfl (.slice v1 nl.length j1)).set 1 1 rfl (.slice v2 nr.length j2)).set 1 2 rfl (.slice v3 np.length j4)
        have z0 := Z.cell 1 0 rfl rfl
        have z1 := Z.cell 1 1 rfl rfl
        have z2 := Z.cell 1 2 rfl rfl
        have P6 := Nat.le_trans P3.out (Nat.le_trans O8.out.top.1 O8.out.top.2)
        have P7 : w.heap.size + 1 + 1 ≤ w8.heap.size := Nat.le_trans P5.out (Nat.le_trans O8.out.top.1 O8.out.top.2)
        have O9 := OA.out.seg (seg3 _ (w.heap.size + 1) (.slice v1 nl.length j1) (.slice v2 nr.length j2) (.slice v3 np.length j4)) (.inr P5.out)
        have M9 := OM.out.seg (seg3 _ (w.heap.size + 1) (.slice v1 nl.length j1) (.slice v2 nr.length j2) (.slice v3 np.length j4)) (.inr P7)
        exact bodyPost_ret (v := .tuple #[.agg #[.slice v1 nl.length j1, .slice v2 nr.length j2, .slice v3 np.length j4], .slice (some ⟨w8.heap.size, 0, none⟩) 0 0, .bool true]) (by simp [results, Try.results52, go_sem, z0, z1, z2]) rfl
          ⟨_, _, _, _, lo', hi', n1', h1', n2', h2', n4, h4, _, _, rfl, ⟨P3.out, P6⟩, ⟨O9.top.2, M9.top⟩, O9, M9, .inl O8.out.top.2, Z.below⟩
      | false =>
        obtain rfl : nl = L1 := by simpa [Hid] using HNL
        obtain rfl : nr = R1 := by simpa [Hid] using HNR
        obtain rfl : np = P1 := by simpa [Hid] using HNP
        obtain rfl : ns = sw := by simpa [Hid] using HNS
        obtain rfl : ok = true := by simpa [Hid] using HOK
        go_wp2_with fail
        go_at_call 50
        refine (CP.out _ X.out.below).mono ?_
        rintro e w4 ⟨rfl, hb⟩
        have X := hide (X.out.up hb)
        have N4 := hide (Nat.le_trans N3.out hb.size)
        clear hb d0 d1 d2
        have d0 : w4.cell? ⟨w.heap.size, 0, none⟩ = some (.slice a1 l.length c1) := X.out.cell 0 0 rfl rfl
        have d1 : w4.cell? ⟨w.heap.size, 1, none⟩ = some (.slice a2 r.length c2) := X.out.cell 0 1 rfl rfl
        have d2 : w4.cell? ⟨w.heap.size, 2, none⟩ = some (.slice a3 ps.length c3) := X.out.cell 0 2 rfl rfl
        go_wp2_with fail
        go_at_call 99
        refine (CT.out _ X.out.below).mono ?_
        rintro e w5 ⟨sv, rfl, OS, hb⟩
        obtain ⟨sg, sk, rfl⟩ := OS.form
        have X := hide (X.out.up hb)
        have OS := hide (Osw.of OS hb.size)
        have N5 := hide hb.size
        clear hb d0 d1 d2
        have d0 : w5.cell? ⟨w.heap.size, 0, none⟩ = some (.slice a1 l.length c1) := X.out.cell 0 0 rfl rfl
        have d1 : w5.cell? ⟨w.heap.size, 1, none⟩ = some (.slice a2 r.length c2) := X.out.cell 0 1 rfl rfl
        have d2 : w5.cell? ⟨w.heap.size, 2, none⟩ = some (.slice a3 ps.length c3) := X.out.cell 0 2 rfl rfl
        go_wp2_with fail
        go_at_call 100
        refine (CAp.out _ _ X.out.below (OS.out.own.pvs (Nat.le_refl _) (by have := HNM.out.2.1; omega) HPW.out)).mono ?_
        rintro e w6 ⟨x, y, z, lo, hi, n1, h1, n2, h2, n3, h3, rfl, q1, q2, O, hb⟩
        obtain ⟨x1, k1, rfl⟩ := O.x.form
        obtain ⟨x2, k2, rfl⟩ := O.y.form
        obtain ⟨x3, k3, rfl⟩ := O.z.own.form
        have X := hide (X.out.up hb)
        have OS := hide (OS.out.below hb)
        have HC := hide (O.ck HL1.out.2 HR1.out.2 (by omega) HWP.out)
        clear d0 d1 d2 O q1 q2
        have hs6 := hide hb.size
        clear hb
        have bl := below1 w6 (.cells #[.slice x1 nl.length k1, .slice x2 nr.length k2, .slice x3 ps.length k3] 27)
        have X := hide (X.out.alloc #[.slice x1 nl.length k1, .slice x2 nr.length k2, .slice x3 ps.length k3] 27)
        have OS := hide (OS.out.below bl)
        have HC := hide (HC.out.up bl)
        clear bl
        obtain ⟨m, hm⟩ : ∃ m, m = w6.heap.size := ⟨_, rfl⟩
        obtain ⟨w7, hw7⟩ : ∃ q, q = w6.alloc (.cells #[.slice x1 nl.length k1, .slice x2 nr.length k2, .slice x3 ps.length k3] 27) := ⟨_, rfl⟩
        have hs7 := hide (show w7.heap.size = m + 1 by rw [hw7, hm]; simp)
        rw [← hw7] at X OS HC
        rw [← hm] at X
        have hs6 := hide (show w5.heap.size ≤ m by rw [hm]; exact hs6.out)
        simp only [List.cons_append, List.nil_append] at X
        go_wp2_with fail
        rw [← hw7]
        try rw [← hm]
        clear hw7 hm
        go_at_call 101
        refine (CAd.out _ _ HC.out).mono ?_
        rintro e w8 ⟨x', y', z', lo, hi, n1, h1, n2, h2, n3, h3, rfl, q1, q2, O, hb⟩
        obtain ⟨v1, j1, rfl⟩ := O.x.form
        obtain ⟨v2, j2, rfl⟩ := O.y.form
        obtain ⟨v3, j3, rfl⟩ := O.z.own.form
        have K8 := hide (X.out.up hb)
        have OS := hide (OS.out.below hb)
        have Q1 := hide (show m + 1 ≤ lo by rw [← hs7.out]; exact q1)
        have O := hide O
        clear hb q1 q2 X HC
        have KA := hide (K8.out.alloc #[.slice v1 nl.length j1, .slice v2 nr.length j2, .slice v3 np.length j3] 27)
        have bl := below1 w8 (.cells #[.slice v1 nl.length j1, .slice v2 nr.length j2, .slice v3 np.length j3] 27)
        have O := hide (O.out.below bl)
        have OS := hide (OS.out.below bl)
        clear bl
        have g0 : (w8.alloc (.cells #[.slice v1 nl.length j1, .slice v2 nr.length j2, .slice v3 np.length j3] 27)).cell? ⟨w.heap.size + 1, 0, none⟩ = some (.slice none 0 0) := KA.out.cell 1 0 rfl rfl
        have g1 : (w8.alloc (.cells #[.slice v1 nl.length j1, .slice v2 nr.length j2, .slice v3 np.length j3] 27)).cell? ⟨w.heap.size + 1, 1, none⟩ = some (.slice none 0 0) := KA.out.cell 1 1 rfl rfl
        have g2 : (w8.alloc (.cells #[.slice v1 nl.length j1, .slice v2 nr.length j2, .slice v3 np.length j3] 27)).cell? ⟨w.heap.size + 1, 2, none⟩ = some (.slice none 0 0) := KA.out.cell 1 2 rfl rfl
        have f0' : (w8.alloc (.cells #[.slice v1 nl.length j1, .slice v2 nr.length j2, .slice v3 np.length j3] 27)).frozen? ⟨w.heap.size + 1, 0, none⟩ = false := KA.out.free 1 0 rfl
        have f1' : (w8.alloc (.cells #[.slice v1 nl.length j1, .slice v2 nr.length j2, .slice v3 np.length j3] 27)).frozen? ⟨w.heap.size + 1, 1, none⟩ = false := KA.out.free 1 1 rfl
        have f2' : (w8.alloc (.cells #[.slice v1 nl.length j1, .slice v2 nr.length j2, .slice v3 np.length j3] 27)).frozen? ⟨w.heap.size + 1, 2, none⟩ = false := KA.out.free 1 2 rfl
        have Z := ((KA.out.set 1 0 rfl (.slice v1 nl.length j1)).set 1 1 rfl (.slice v2 nr.length j2)).set 1 2 rfl (.slice v3 np.length j3)
        have z0 := Z.cell 1 0 rfl rfl
        have z1 := Z.cell 1 1 rfl rfl
        have z2 := Z.cell 1 2 rfl rfl
        have HZ := hide Z
        have Q0 := hide (show w.heap.size + 1 + 1 ≤ lo by have := N4.out; have := N5.out; have := hs6.out; have := Q1.out; omega)
        have Q2 := hide (show w.heap.size + 1 + 1 ≤ w4.heap.size from N4.out)
        have hs56 := hide (show w5.heap.size ≤ m from hs6.out)
        clear Z
        go_wp2_with fail
        have O2 := hide (O.out.seg (seg3 _ (w.heap.size + 1) (.slice v1 nl.length j1) (.slice v2 nr.length j2) (.slice v3 np.length j3)) (.inr Q0.out))
        have T2 := hide (OS.out.seg (seg3 _ (w.heap.size + 1) (.slice v1 nl.length j1) (.slice v2 nr.length j2) (.slice v3 np.length j3)) (.inr Q2.out))
        exact bodyPost_ret (v := .tuple #[.agg #[.slice v1 nl.length j1, .slice v2 nr.length j2, .slice v3 np.length j3], .slice sg ns.length sk, .bool true]) (by simp [results, Try.results52, go_sem, z0, z1, z2]) rfl
          ⟨_, _, _, _, lo, hi, n1, h1, n2, h2, n3, h3, _, _, rfl, ⟨by have := Q0.out; omega, by have := Q2.out; omega⟩, ⟨O2.out.top.2, T2.out.top⟩, O2.out, T2.out, .inr (by have := Q1.out; have := hs56.out; omega), HZ.out.below⟩

end Go.Proofs.Ytajfhalalnlejaa

/- Drawn columns: l4Cracker divides a new one at drawn values (promise 3). -/
namespace Go.Proofs.Ytajfhalalnlejaa
open Go.RowKit Go.ChangeShapes
set_option linter.unusedSimpArgs false
set_option linter.unusedVariables false
set_option maxRecDepth 100000

theorem Kd.join {g : Nat} {w u W : World} {L M : List (Nat × Array Value × TypeId)} (h : Kd [g] w u L) (k : Kd [g] u W M) (hg : g < w.heap.size) : Kd [g] w W (L ++ M) := by
  have hne : ∀ e ∈ L, e.1 ≠ g := fun e he => by have := h.high e he; omega
  have hlt : ∀ e ∈ L, e.1 < u.heap.size := fun e he => (Array.getElem?_eq_some_iff.1 (h.hold e he)).1
  refine ⟨h.only.trans k.only, fun e he => ?_, fun e he => ?_, ?_⟩
  · rcases List.mem_append.1 he with he | he
    · rw [k.only.block _ (hlt e he) (by simpa using hne e he)]; exact h.hold e he
    · exact k.hold e he
  · rcases List.mem_append.1 he with he | he
    · exact h.high e he
    · exact Nat.le_trans h.only.below.size (k.high e he)
  · rw [List.map_append, List.nodup_append]
    refine ⟨h.nodup, k.nodup, fun a ha b hb => ?_⟩
    obtain ⟨e, he, rfl⟩ := List.mem_map.1 ha
    obtain ⟨f, hf, rfl⟩ := List.mem_map.1 hb
    have h3 := hlt e he
    have h4 := k.high f hf
    omega

theorem Kd.put3s {G : List Nat} {w W : World} {g : Nat} {x y z : Value} {t : TypeId} (h : Kd G w W [(g, #[x, y, z], t)]) (a b c : Value) :
    Kd G w (((W.setCell ⟨g, 0, none⟩ a).setCell ⟨g, 1, none⟩ b).setCell ⟨g, 2, none⟩ c) [(g, #[a, b, c], t)] := ((h.set 0 0 rfl a).set 0 1 rfl b).set 0 2 rfl c

theorem below_upA' {W W' : World} {o : Obj} (hb : Below (W.alloc o).heap.size (W.alloc o) W') : Below W.heap.size W W' := (below1 W o).trans (hb.mono (by simp))
theorem below_upD' {W W' : World} {o : Obj} (hb : Below (W.alloc o).drew.heap.size (W.alloc o).drew W') : Below W.heap.size W W' := (below1 W o).drew.trans (hb.mono (by simp))

theorem lt_alloc' {W : World} {o : Obj} {lo : Nat} (h : (W.alloc o).heap.size ≤ lo) : W.heap.size < lo := by
  simp at h
  omega

theorem Rd.drew' {B : Nat} {a : Option Addr} {len cap g : Nat} {w : World} (h : Rd B a len cap w g) : Rd B a len cap w.drew g := h.step (Below.refl _ _).drew rfl

theorem Rd.up' {B : Nat} {a : Option Addr} {len cap g : Nat} {w w' : World} (h : Rd B a len cap w g) (hb : Below w.heap.size w w') : Rd B a len cap w' g :=
  h.step (hb.mono (by have := h.lt; have := h.high; omega)) (hb.block g h.lt)

theorem Rd.put3 {B : Nat} {a : Option Addr} {len cap g m : Nat} {w : World} {x y z : Value} (h : Rd B a len cap w g) (hy : g < m) : Rd B a len cap (((w.setCell ⟨m, 0, none⟩ x).setCell ⟨m, 1, none⟩ y).setCell ⟨m, 2, none⟩ z) g :=
  h.step ((seg3 w m x y z).below.mono (by have := h.high; omega)) ((seg3 w m x y z).below.block g hy)

/-- A small column. -/
structure CP (l r : List Int) (ps : List Pv) (n : Nat) : Prop where
  nl : l.length ≤ 64
  nr : r.length ≤ 65
  np : ps.length ≤ n
  vl : ∀ x ∈ l, -1000 ≤ x ∧ x ≤ 1000
  vr : ∀ x ∈ r, I64 x
  vp : ∀ p ∈ ps, I64 p.1 ∧ I64 p.2

theorem CP.wf {l r : List Int} {ps : List Pv} {n : Nat} (h : CP l r ps n) : Wf l r ps n :=
  ⟨by have := h.nl; omega, by have := h.nr; omega, h.np, fun x hx => ⟨by have := h.vl x hx; omega, by have := h.vl x hx; omega⟩, h.vr, h.vp⟩

theorem CP.new {l : List Int} (hl : l.length ≤ 14) (hv : ∀ x ∈ l, -1000 ≤ x ∧ x ≤ 1000) : CP (newL l) (newR l) [] 0 := by
  unfold newL newR
  split
  · exact ⟨by omega, by rw [rowsN_length]; omega, by simp, hv, rowsN_wf _ (by omega), by simp⟩
  · exact ⟨by simp, by simp, by simp, by simp, by simp, by simp⟩

theorem CP.crack {l r : List Int} {ps : List Pv} {n : Nat} {v : Int} (h : CP l r ps n) (hn : n ≤ 1000) (hv : VP v) : CP (crL l r ps v) (crR l r ps v) (crP l r ps v) (n + 1) := by
  have hi : I64 v := by unfold VP at hv; exact ⟨by omega, by omega⟩
  obtain ⟨⟨w1, w2, w3, w4, w5, w6⟩, -⟩ := crack_Wf h.wf (by omega) hi
  by_cases hd : crDiv l r ps v = true
  · obtain ⟨a, b, t, d, e, -⟩ := crack_eqs hd
    have hc := d.can
    unfold canSwap at hc
    simp only [Bool.and_eq_true, decide_eq_true_eq] at hc
    refine ⟨by rw [d.left, swaps_length]; exact h.nl, by rw [d.right, swaps_length]; exact h.nr, w3, fun x hx => ?_, w5, w6⟩
    rw [d.left] at hx
    exact h.vl x ((swaps_perm _ _ hc.2).mem_iff.1 hx)
  · obtain ⟨e1, e2, e3, -⟩ := crack_none hd
    rw [e1, e2, e3]
    exact ⟨h.nl, h.nr, by have := h.np; omega, h.vl, h.vr, h.vp⟩

/-- A small column of the call's own is returned, the reader stands, of what was there only its block may have turned. -/
def RetDC (B : Nat) (a : Option Addr) (len cap g : Nat) (w : World) (e : Ending) (w' : World) : Prop := ∃ (a1 a2 a3 : Option Addr) (c1 c2 c3 : Nat) (l r : List Int) (ps : List Pv) (lo hi n1 h1 n2 h2 n3 h3 : Nat),
  e = .returned (.agg #[.slice a1 l.length c1, .slice a2 r.length c2, .slice a3 ps.length c3]) ∧ OC w' (.slice a1 l.length c1) (.slice a2 r.length c2) (.slice a3 ps.length c3) l r ps lo hi n1 h1 n2 h2 n3 h3 ∧ w.heap.size ≤ lo ∧ CP l r ps 9 ∧ Rd B a len cap w' g ∧ Only [g] w w'

set_option maxHeartbeats 8000000 in
theorem cracker_d (B : Nat) (a : Option Addr) (len cap g : Nat) (w : World) (h : Rd B a len cap w g) :
    Calls Try.prog 108 #[.pointer (some ⟨g, 0, none⟩)] w (RetDC B a len cap g w) := by
  have hlt := h.lt
  have R := hide (h.alloc (.cells #[.slice none 0 0, .slice none 0 0, .slice none 0 0] 27))
  have X := hide (Kd.one [g] w #[.slice none 0 0, .slice none 0 0, .slice none 0 0] 27)
  obtain ⟨w1, hw1⟩ : ∃ w1, w1 = w.alloc (.cells #[.slice none 0 0, .slice none 0 0, .slice none 0 0] 27) := ⟨_, rfl⟩
  have hz := hide (show w1.heap.size = w.heap.size + 1 by rw [hw1]; simp)
  rw [← hw1] at R X
  clear h
  go_enter Try.func108, Try.ntmps108
  go_wp2_with fail
  rw [← hw1]
  clear hw1
  refine (vals_d _ a len cap g _ R.out 14 (by omega)).mono ?_
  rintro e wb ⟨gl, capl, l0, rfl, hi, hl, hv, hr, ho⟩
  have R := hide hr
  have X := hide (X.out.drawn ho (by simp; exact hlt))
  have O := hide hi
  have CN := hide (CP.new hl hv)
  have HWF := hide (show ∀ x ∈ l0, I64 x from fun x hx => ⟨by have := hv x hx; omega, by have := hv x hx; omega⟩)
  have hs1 := hide ho.below.size
  clear hr ho hi hv
  go_wp2_with fail
  go_at_call 48
  refine (sNew_any _ l0 _ _ (OI.of O.out).1 HWF.out).mono ?_
  rintro e w2 ⟨x, y, z, lo, hi, p1, q1, p2, q2, p3, q3, rfl, hlo, hhi, C, hb⟩
  obtain ⟨g1, k1, rfl⟩ := C.x.form
  obtain ⟨g2, k2, rfl⟩ := C.y.form
  obtain ⟨g3, k3, rfl⟩ := C.z.own.form
  have R := hide (R.out.step (hb.mono (by have := R.out.high; have := R.out.lt; omega)) (hb.block g R.out.lt))
  have X := hide (X.out.up hb)
  obtain ⟨l, hl'⟩ : ∃ q, q = newL l0 := ⟨_, rfl⟩
  obtain ⟨r, hr'⟩ : ∃ q, q = newR l0 := ⟨_, rfl⟩
  rw [← hl', ← hr'] at C CN
  rw [← hl', ← hr']
  have H1 := hide hlo
  have C := hide C
  have hs2 := hide hb.size
  have hhi9 := hide hhi
  clear hl' hr' hlo hhi hb O HWF hl
  have bl := below1 w2 (.cells #[.slice g1 l.length k1, .slice g2 r.length k2, .slice g3 0 k3] 27)
  have X := hide (X.out.alloc #[.slice g1 l.length k1, .slice g2 r.length k2, .slice g3 0 k3] 27)
  have C := hide (C.out.below bl)
  have R := hide (R.out.alloc (.cells #[.slice g1 l.length k1, .slice g2 r.length k2, .slice g3 0 k3] 27))
  clear bl
  obtain ⟨m, hm⟩ : ∃ q, q = w2.heap.size := ⟨_, rfl⟩
  obtain ⟨w3, hw3⟩ : ∃ q, q = w2.alloc (.cells #[.slice g1 l.length k1, .slice g2 r.length k2, .slice g3 0 k3] 27) := ⟨_, rfl⟩
  have hs3 := hide (show w3.heap.size = m + 1 by rw [hw3, hm]; simp)
  have hmm := hide hm
  rw [← hw3] at X C R
  rw [← hm] at X
  simp only [List.cons_append, List.nil_append] at X
  go_wp2_with fail
  rw [← hw3]
  try rw [← hm]
  clear hw3 hm
  refine (below_d B a len cap g _ R.out 5 (by omega) (by omega)).mono ?_
  rintro e w4 ⟨n, ⟨n0, n1⟩, rfl, hr, ho⟩
  have R := hide hr
  have X := hide (X.out.drawn ho (by simp; exact hlt))
  have C := hide (C.out.only ho (by have := H1.out; have := hs1.out; have := hz.out; omega))
  obtain ⟨N, rfl⟩ := Int.eq_ofNat_of_zero_le n0
  have hN : N ≤ 4 := by omega
  have hlo : w.heap.size ≤ lo := by have := H1.out; have := hs1.out; have := hz.out; omega
  have hmb := hide (show w.heap.size + 1 ≤ m by have := hmm.out; have := hs2.out; have := hs1.out; have := hz.out; omega)
  have hlo1 := hide (show w.heap.size + 1 ≤ lo by have := H1.out; have := hs1.out; have := hz.out; omega)
  have hmd := hide (show m < lo ∨ hi ≤ m from .inr (by have := C.out.top; have := hmm.out; have := hhi9.out; omega))
  have hGw := hide (show ∀ b ∈ [g], b < w.heap.size from by intro b hb; rw [List.mem_singleton.1 hb]; exact hlt)
  clear hr ho n0 n1
  go_wp2_with fail
  go_loopw [4] (fun u wr => ∃ (k k1 k2 k3 lo hi p1 q1 p2 q2 p3 q3 : Nat) (g1 g2 g3 : Option Addr) (l r : List Int) (ps : List Pv), k ≤ N ∧ u = .int .i64 k ∧ Hid (Kd [g] w wr [(w.heap.size, #[.slice none 0 0, .slice none 0 0, .slice none 0 0], 27), (m, #[.slice g1 l.length k1, .slice g2 r.length k2, .slice g3 ps.length k3], 27)]) ∧ Hid (Rd B a len cap wr g) ∧ Hid (OC wr (.slice g1 l.length k1) (.slice g2 r.length k2) (.slice g3 ps.length k3) l r ps lo hi p1 q1 p2 q2 p3 q3) ∧ Hid (CP l r ps (N - k)) ∧ Hid (w.heap.size + 1 ≤ lo) ∧ Hid (m < lo ∨ hi ≤ m)) (fun u _ => (intOf u).toNat)
  case atStart => exact ⟨N, k1, k2, k3, lo, hi, p1, q1, p2, q2, p3, q3, g1, g2, g3, l, r, [], Nat.le_refl _, rfl, X.out, R.out, C.out, (by have := CN.out; exact ⟨this.nl, this.nr, by simp, this.vl, this.vr, this.vp⟩), hlo1.out, hmd.out⟩
  case round =>
    clear X R C CN hlo1 hmd H1
    obtain ⟨k, k1, k2, k3, lo, hi, p1, q1, p2, q2, p3, q3, g1, g2, g3, l, r, ps, hkN, rfl, X, R, O, HCP, hlo1, hmd⟩ := hrel
    by_cases hk0 : k = 0
    · subst hk0
      have c10 : wr.cell? ⟨m, 0, none⟩ = some (.slice g1 l.length k1) := X.out.cell 1 0 rfl rfl
      have c11 : wr.cell? ⟨m, 1, none⟩ = some (.slice g2 r.length k2) := X.out.cell 1 1 rfl rfl
      have c12 : wr.cell? ⟨m, 2, none⟩ = some (.slice g3 ps.length k3) := X.out.cell 1 2 rfl rfl
      have d0 := X.out.cell 0 0 rfl rfl
      have d1 := X.out.cell 0 1 rfl rfl
      have d2 := X.out.cell 0 2 rfl rfl
      have f0 := X.out.free 0 0 rfl
      have f1 := X.out.free 0 1 rfl
      have f2 := X.out.free 0 2 rfl
      go_wp2_with fail
      have Z := ((X.out.set 0 0 rfl (.slice g1 l.length k1)).set 0 1 rfl (.slice g2 r.length k2)).set 0 2 rfl (.slice g3 ps.length k3)
      have z0 := Z.cell 0 0 rfl rfl
      have z1 := Z.cell 0 1 rfl rfl
      have z2 := Z.cell 0 2 rfl rfl
      have O9 := O.out.seg (seg3 wr w.heap.size (.slice g1 l.length k1) (.slice g2 r.length k2) (.slice g3 ps.length k3)) (.inr hlo1.out)
      have hc := HCP.out
      exact bodyPost_ret (v := .agg #[.slice g1 l.length k1, .slice g2 r.length k2, .slice g3 ps.length k3]) (by simp [results, Try.results108, go_sem, z0, z1, z2]) rfl
        ⟨g1, g2, g3, k1, k2, k3, l, r, ps, lo, hi, _, _, _, _, _, _, rfl, O9, by have := hlo1.out; omega, ⟨hc.nl, hc.nr, by have := hc.np; omega, hc.vl, hc.vr, hc.vp⟩, R.out.step ((seg3 wr w.heap.size _ _ _).below.mono (by have := R.out.high; omega)) ((seg3 wr w.heap.size _ _ _).below.block g hlt), Z.only⟩
    · obtain ⟨k, rfl⟩ : ∃ k', k = k' + 1 := ⟨k - 1, by omega⟩
      have HW := hide (HCP.out.wf)
      have hGlo := hide (show g < lo by have := hlo1.out; omega)
      have hGr := hide (show ∀ b ∈ [g], b < wr.heap.size from by intro b hb; rw [List.mem_singleton.1 hb]; exact R.out.lt)
      have c10 : wr.cell? ⟨m, 0, none⟩ = some (.slice g1 l.length k1) := X.out.cell 1 0 rfl rfl
      have c11 : wr.cell? ⟨m, 1, none⟩ = some (.slice g2 r.length k2) := X.out.cell 1 1 rfl rfl
      have c12 : wr.cell? ⟨m, 2, none⟩ = some (.slice g3 ps.length k3) := X.out.cell 1 2 rfl rfl
      have hps : N - (k + 1) ≤ 1000 := by omega
      go_upto_region 2 with fail
      have X1 := X
      go_cut [5] (fun s wx => ∃ (W' : World) (ym k1' k2' k3' lo' hi' p1 q1 p2 q2 p3 q3 : Nat) (g1' g2' g3' : Option Addr) (v : Int), W' = wx ∧ s = .pointer (some ⟨ym, 0, none⟩) ∧ Hid (VP v) ∧ Hid (Kd [g] wr wx [(ym, #[.slice g1' (crL l r ps v).length k1', .slice g2' (crR l r ps v).length k2', .slice g3' (crP l r ps v).length k3'], 27)]) ∧ Hid (Rd B a len cap wx g) ∧ Hid (OC wx (.slice g1' (crL l r ps v).length k1') (.slice g2' (crR l r ps v).length k2') (.slice g3' (crP l r ps v).length k3') (crL l r ps v) (crR l r ps v) (crP l r ps v) lo' hi' p1 q1 p2 q2 p3 q3) ∧ Hid (wr.heap.size ≤ lo'))
      case first =>
        have KS := hide (fun (w' : World) (M : List (Nat × Array Value × TypeId)) (h : Kd [g] wr w' M) => show w'.cell? ⟨m, 0, none⟩ = some (.slice g1 l.length k1) ∧ w'.cell? ⟨m, 1, none⟩ = some (.slice g2 r.length k2) ∧ w'.cell? ⟨m, 2, none⟩ = some (.slice g3 ps.length k3) from ⟨(Kd.join X1.out h hlt).cell 1 0 rfl rfl, (Kd.join X1.out h hlt).cell 1 1 rfl rfl, (Kd.join X1.out h hlt).cell 1 2 rfl rfl⟩)
        have Y0 := hide (Kd.start [g] wr)
        have Y := hide (Y0.out.drew)
        have R0 := R
        have O0 := O
        have R := hide (R.out.step (Below.refl _ _).drew rfl)
        have O := hide (O.out.below (Below.refl _ _).drew)
        clear X X1 c10 c11 c12
        obtain ⟨c10, c11, c12⟩ := KS.out _ _ Y.out
        go_region_held3 (fun w' => w'.cell? ⟨m, 0, none⟩ = some (.slice g1 l.length k1) ∧ w'.cell? ⟨m, 1, none⟩ = some (.slice g2 r.length k2) ∧ w'.cell? ⟨m, 2, none⟩ = some (.slice g3 ps.length k3)) (first | with_reducible exact KS.out _ _ Y.out | with_reducible exact KS.out _ _ (Y.out.alloc _ _) | with_reducible exact KS.out _ _ (Y0.out.alloc _ _).drew | with_reducible exact KS.out _ _ (Kd.put3s Y.out _ _ _) | go_keep) (first
          | (go_at_call 110; refine (value_d B a len cap g _ (by first | with_reducible exact R.out | with_reducible exact R.out.alloc _ | with_reducible exact (R0.out.alloc _).drew') g1 g2 g3 k1 k2 k3 l r ps _ _ _ _ _ _ _ _ (by first | with_reducible exact O.out | with_reducible exact O.out.below (below1 _ _) | with_reducible exact O0.out.below (below1 _ _).drew) hGlo.out (by have := HCP.out.nl; omega) HCP.out.vl).mono ?_; rintro e wq ⟨v, hvp, rfl, hr, ho⟩; (first | replace Y := hide (by with_reducible exact Y.out.drawn ho hGr.out) | replace Y := hide (by with_reducible exact (Y.out.alloc _ _).drawn ho hGr.out) | replace Y := hide (by with_reducible exact (Y0.out.alloc _ _).drew.drawn ho hGr.out)); (first | replace O := hide (by with_reducible exact O.out.only ho hGlo.out) | replace O := hide (by with_reducible exact O.out.only ((Only.of_below (below1 _ _)).trans ho) hGlo.out) | replace O := hide (by with_reducible exact O0.out.only ((Only.of_below (below1 _ _).drew).trans ho) hGlo.out)); replace R := hide hr; have HVP := hide hvp; have HI := hide (show I64 v from (by unfold VP at hvp; exact ⟨(by omega), (by omega)⟩)); clear c10 c11 c12; obtain ⟨c10, c11, c12⟩ := KS.out _ _ Y.out; (first | clear e0 e1 e2 f0 f1 f2 f3 | skip); (first | (have e0 := Y.out.cell 0 0 rfl rfl; have e1 := Y.out.cell 0 1 rfl rfl; have e2 := Y.out.cell 0 2 rfl rfl; have f0 := Y.out.free 0 0 rfl; have f1 := Y.out.free 0 1 rfl; have f2 := Y.out.free 0 2 rfl; have f3 := Y.out.lt 0 rfl) | skip); clear hr ho hvp)
          | (go_at_call 52; refine (sCrack_any _ l r ps v _ _ (OC.ck (by first | with_reducible exact O.out | with_reducible exact O.out.below (below1 _ _) | with_reducible exact O0.out.below (below1 _ _).drew) HW.out.2.2.2.1 HW.out.2.2.2.2.1 (by have := HW.out.2.2.1; omega) HW.out.2.2.2.2.2) (Nat.le_refl _) HW.out.1 HW.out.2.1 (by have := HW.out.2.2.1; omega) HI.out).mono ?_; rintro e wq ⟨x, y, z, sv, lo', hi', p1, q1, p2, q2, p3, q3, slo, shi, rfl, hlo, hhi, C, S, hss, hb⟩; obtain ⟨g1', k1', rfl⟩ := C.x.form; obtain ⟨g2', k2', rfl⟩ := C.y.form; obtain ⟨g3', k3', rfl⟩ := C.z.own.form; have HLO := hide (Nat.le_trans (by first | with_reducible exact Y.out.only.below.size | with_reducible exact (Y.out.alloc _ _).only.below.size | with_reducible exact (Y0.out.alloc _ _).drew.only.below.size) hlo.1); (first | (have hGx := hide (by with_reducible exact Nat.lt_of_lt_of_le f3 hlo.1)) | (have hGx := hide (by with_reducible exact lt_alloc' hlo.1)) | skip); replace C := hide C; (first | replace R := hide (by with_reducible exact R.out.up' hb) | replace R := hide (by with_reducible exact R.out.up' (below_upA' hb)) | replace R := hide (by with_reducible exact R0.out.up' (below_upD' hb))); (first | replace Y := hide (by with_reducible exact Y.out.up hb) | replace Y := hide (by with_reducible exact Y.out.upA hb) | replace Y := hide (by with_reducible exact Y0.out.upD hb)); clear c10 c11 c12; obtain ⟨c10, c11, c12⟩ := KS.out _ _ Y.out; (first | clear e0 e1 e2 f0 f1 f2 f3 | skip); (first | (have e0 := Y.out.cell 0 0 rfl rfl; have e1 := Y.out.cell 0 1 rfl rfl; have e2 := Y.out.cell 0 2 rfl rfl; have f0 := Y.out.free 0 0 rfl; have f1 := Y.out.free 0 1 rfl; have f2 := Y.out.free 0 2 rfl; have f3 := Y.out.lt 0 rfl) | skip); clear hlo hhi hss hb S))
        all_goals go_wp2_with fail
        all_goals go_meet
        all_goals first | exact ⟨_, _, _, _, _, _, _, _, _, _, _, _, _, _, _, _, v, rfl, rfl, HVP, Y.out.alloc _ _, R.out.alloc _, C.out.below (below1 _ _), HLO⟩ | exact ⟨_, _, _, _, _, _, _, _, _, _, _, _, _, _, _, _, v, rfl, rfl, HVP, Kd.put3s Y.out _ _ _, R.out.put3 (Nat.lt_of_lt_of_le (hGr.out g (by simp)) (Y.out.low 0 rfl)), C.out.seg (seg3 _ _ _ _ _) (.inr hGx.out), HLO⟩
      case rest =>
        obtain ⟨w5, ym, k1', k2', k3', lo', hi', p1', q1', p2', q2', p3', q3', g1', g2', g3', v, rfl, rfl, HVP, Y, R, C, HLO⟩ := hcut
        have hlm := hide (X1.out.lt 1 rfl)
        have X := hide (Kd.join X1.out Y.out hlt)
        simp only [List.cons_append, List.nil_append] at X
        have HCP2 := hide (HCP.out.crack hps HVP.out)
        clear X1 Y O HCP HW HVP c10 c11 c12 hlo1 hmd
        have hln := hide (show N - (k + 1) + 1 = N - k by omega)
        obtain ⟨l', hl'⟩ : ∃ q, q = crL l r ps v := ⟨_, rfl⟩
        obtain ⟨r', hr'⟩ : ∃ q, q = crR l r ps v := ⟨_, rfl⟩
        obtain ⟨ps', hps'⟩ : ∃ q, q = crP l r ps v := ⟨_, rfl⟩
        rw [← hl', ← hr', ← hps'] at X C HCP2
        rw [hln.out] at HCP2
        clear hl' hr' hps'
        have c20 : w5.cell? ⟨ym, 0, none⟩ = some (.slice g1' l'.length k1') := X.out.cell 2 0 rfl rfl
        have c21 : w5.cell? ⟨ym, 1, none⟩ = some (.slice g2' r'.length k2') := X.out.cell 2 1 rfl rfl
        have c22 : w5.cell? ⟨ym, 2, none⟩ = some (.slice g3' ps'.length k3') := X.out.cell 2 2 rfl rfl
        have c10 := X.out.cell 1 0 rfl rfl
        have c11 := X.out.cell 1 1 rfl rfl
        have c12 := X.out.cell 1 2 rfl rfl
        have f0 := X.out.free 1 0 rfl
        have f1 := X.out.free 1 1 rfl
        have f2 := X.out.free 1 2 rfl
        have Z := hide (Kd.sub (((X.out.set 1 0 rfl (.slice g1' l'.length k1')).set 1 1 rfl (.slice g2' r'.length k2')).set 1 2 rfl (.slice g3' ps'.length k3')) (M := [(w.heap.size, #[.slice none 0 0, .slice none 0 0, .slice none 0 0], 27), (m, #[.slice g1' l'.length k1', .slice g2' r'.length k2', .slice g3' ps'.length k3'], 27)]) (by exact .cons_cons _ (.cons_cons _ (.cons _ (.refl _)))))
        have R2 := hide (R.out.put3 (x := .slice g1' l'.length k1') (y := .slice g2' r'.length k2') (z := .slice g3' ps'.length k3') (show g < m by have := hmb.out; omega))
        have C2 := hide (C.out.seg (seg3 w5 m (.slice g1' l'.length k1') (.slice g2' r'.length k2') (.slice g3' ps'.length k3')) (.inr (by have := hlm.out; have := HLO.out; omega)))
        clear X
        go_wp2_with fail
        go_roundw
        case rel => exact ⟨k, k1', k2', k3', lo', hi', p1', q1', p2', q2', p3', q3', g1', g2', g3', l', r', ps', by omega, by go_num, Z.out, R2.out, C2.out, HCP2.out, (by show _ ≤ _; have := hlm.out; have := HLO.out; have := hmb.out; omega), .inl (by have := hlm.out; have := HLO.out; omega)⟩
        case measure => simp [intOf]

end Go.Proofs.Ytajfhalalnlejaa

/- What EqualCrackers returns: of the reference and of the program (promise 3). -/
namespace Go.Proofs.Ytajfhalalnlejaa
open Go.RowKit Go.ChangeShapes
set_option linter.unusedSimpArgs false
set_option linter.unusedVariables false
set_option maxRecDepth 100000

/-- Do two columns read alike? -/
def eqC (l r : List Int) (ps : List Pv) (l' r' : List Int) (ps' : List Pv) : Bool := decide (l = l') && (decide (r = r') && decide (ps = ps'))

set_option maxHeartbeats 1000000 in
theorem sL4Ints_any (v u : Value) (l m : List Int) (w : World) (B : Nat) (hv : Ints w B v l) (hu : Ints w B u m) :
    Calls Try.prog 76 #[v, u] w (RetB1 w (decide (l = m))) := by
  obtain ⟨a, cap, rfl, hlen, hwf, hcell⟩ := hv
  obtain ⟨c, cap2, rfl, hlen2, hwf2, hcell2⟩ := hu
  have HC := hide hcell
  have HC2 := hide hcell2
  clear hcell hcell2 hwf hwf2
  by_cases hne : l.length = m.length
  · have hd : ((l.length : Int) != (m.length : Int)) = false := by rw [bne_eq_false_iff_eq]; omega
    have hd2 : ((l.length : Int) == (m.length : Int)) = true := by rw [beq_iff_eq]; omega
    obtain ⟨b0, hb0⟩ : ∃ b0, b0 = decide (l = m) := ⟨_, rfl⟩
    have HN := hide hne
    have HB := hide hb0
    rw [← hb0]
    clear hne hb0
    go_enter Try.func76, Try.ntmps76
    go_wp2
    go_loopw [5] (fun i wr => ∃ (k q : Nat), k ≤ l.length ∧ i = .int .i64 k ∧ Hid (l.take k = m.take k) ∧ wr = w.drewN q) (fun i _ => l.length - (intOf i).toNat)
    case atStart => exact ⟨0, 0, by omega, rfl, rfl, rfl⟩
    case round =>
      obtain ⟨k, q, hk, rfl, hpre, rfl⟩ := hrel
      by_cases hlt : k < l.length
      · have hlt2 : k < m.length := by have := HN.out; omega
        obtain ⟨b, o, rfl, hbB, hc⟩ := HC.out k hlt
        obtain ⟨b2, o2, rfl, hbB2, hc2⟩ := HC2.out k hlt2
        obtain ⟨x, hx⟩ : ∃ x, x = l[k] := ⟨_, rfl⟩
        obtain ⟨y, hy⟩ : ∃ y, y = m[k] := ⟨_, rfl⟩
        rw [← hx] at hc
        rw [← hy] at hc2
        have HX := hide hx
        have HY := hide hy
        clear hx hy
        by_cases hxy : x = y
        · have ht : (x != y) = false := by rw [bne_eq_false_iff_eq]; exact hxy
          have HE := hide hxy
          clear hxy
          go_wp2
          go_quiet (fail)
          go_wp2
          go_roundw
          case rel => exact ⟨k + 1, q + nq, by omega, by go_num, take_eq_step hpre.out hlt hlt2 (by rw [← HX.out, ← HY.out]; exact HE.out), rfl⟩
          case measure => simp [intOf]; omega
        · have ht : (x != y) = true := by rw [bne_iff_ne]; exact hxy
          have HE := hide hxy
          clear hxy
          go_wp2
          go_quiet (fail)
          go_wp2
          go_ret
          refine ⟨?_, below_drewN (below_drewN (Below.refl _ _) _) _⟩
          rw [HB.out, decide_eq_false (fun hh => HE.out (by rw [HX.out, HY.out]; subst hh; rfl))]
          rfl
      · have hke : k = l.length := by omega
        subst hke
        have hlm : b0 = true := by
          rw [HB.out]
          have h1 := hpre.out
          rw [List.take_of_length_le (Nat.le_refl _), List.take_of_length_le (by have := HN.out; omega)] at h1
          simp [h1]
        have HLM := hide hlm
        clear hlm
        go_wp2
        go_ret
        exact ⟨by rw [HLM.out]; rfl, below_drewN (Below.refl _ _) _⟩
  · have hd : ((l.length : Int) != (m.length : Int)) = true := by rw [bne_iff_ne]; omega
    have hd2 : ((l.length : Int) == (m.length : Int)) = false := by rw [beq_eq_false_iff_ne]; omega
    have hb0 := hide (show decide (l = m) = false from decide_eq_false (fun hh => hne (by rw [hh])))
    clear hne
    go_enter Try.func76, Try.ntmps76
    go_wp2
    go_ret
    exact ⟨by rw [hb0.out]; rfl, Below.refl _ _⟩

set_option maxHeartbeats 1000000 in
theorem sL4Same_any (v u : Value) (l m : List Pv) (w : World) (B : Nat) (hv : Pvs w B v l) (hu : Pvs w B u m) :
    Calls Try.prog 77 #[v, u] w (RetB1 w (decide (l = m))) := by
  obtain ⟨a, cap, rfl, hlen, hwf, hcell⟩ := hv
  obtain ⟨c, cap2, rfl, hlen2, hwf2, hcell2⟩ := hu
  have HC := hide hcell
  have HC2 := hide hcell2
  clear hcell hcell2 hwf hwf2
  by_cases hne : l.length = m.length
  · have hd : ((l.length : Int) != (m.length : Int)) = false := by rw [bne_eq_false_iff_eq]; omega
    have hd2 : ((l.length : Int) == (m.length : Int)) = true := by rw [beq_iff_eq]; omega
    obtain ⟨b0, hb0⟩ : ∃ b0, b0 = decide (l = m) := ⟨_, rfl⟩
    have HN := hide hne
    have HB := hide hb0
    rw [← hb0]
    clear hne hb0
    go_enter Try.func77, Try.ntmps77
    go_wp2
    go_loopw [5] (fun i wr => ∃ (k q : Nat), k ≤ l.length ∧ i = .int .i64 k ∧ Hid (l.take k = m.take k) ∧ wr = w.drewN q) (fun i _ => l.length - (intOf i).toNat)
    case atStart => exact ⟨0, 0, by omega, rfl, rfl, rfl⟩
    case round =>
      obtain ⟨k, q, hk, rfl, hpre, rfl⟩ := hrel
      by_cases hlt : k < l.length
      · have hlt2 : k < m.length := by have := HN.out; omega
        obtain ⟨b, o, rfl, hbB, hc, hc'⟩ := HC.out k hlt
        obtain ⟨b2, o2, rfl, hbB2, hc2, hc2'⟩ := HC2.out k hlt2
        obtain ⟨p, hx⟩ : ∃ x, x = l[k] := ⟨_, rfl⟩
        obtain ⟨p2, hy⟩ : ∃ y, y = m[k] := ⟨_, rfl⟩
        rw [← hx] at hc hc'
        rw [← hy] at hc2 hc2'
        obtain ⟨x, x'⟩ := p
        obtain ⟨y, y'⟩ := p2
        simp only at hc hc' hc2 hc2'
        have HX := hide hx
        have HY := hide hy
        clear hx hy
        by_cases hxy : x = y ∧ x' = y'
        · obtain ⟨rfl, rfl⟩ := hxy
          have ht : (x == x) = true := by simp
          have ht2 : (x' == x') = true := by simp
          go_wp2
          go_quiet (fail)
          go_wp2
          go_roundw
          case rel => exact ⟨k + 1, q + nq, by omega, by go_num, by
            show _ = _
            rw [List.take_succ_eq_append_getElem hlt, List.take_succ_eq_append_getElem hlt2, hpre.out, ← HX.out, ← HY.out], rfl⟩
          case measure => simp [intOf]; omega
        · have HE := hide hxy
          by_cases h0 : x = y
          · have h1 : ¬ x' = y' := fun h => hxy ⟨h0, h⟩
            have ht : (x == y) = true := by rw [beq_iff_eq]; exact h0
            have ht2 : (x' == y') = false := by rw [beq_eq_false_iff_ne]; exact h1
            clear hxy h0 h1
            go_wp2
            go_quiet (fail)
            go_wp2
            go_ret
            refine ⟨?_, below_drewN (below_drewN (Below.refl _ _) _) _⟩
            rw [HB.out, decide_eq_false (fun hh => HE.out (by subst hh; have := HX.out.trans HY.out.symm; exact ⟨congrArg Prod.fst this, congrArg Prod.snd this⟩))]
            rfl
          · have ht : (x == y) = false := by rw [beq_eq_false_iff_ne]; exact h0
            clear hxy h0
            go_wp2
            go_quiet (fail)
            go_wp2
            go_ret
            refine ⟨?_, below_drewN (below_drewN (Below.refl _ _) _) _⟩
            rw [HB.out, decide_eq_false (fun hh => HE.out (by subst hh; have := HX.out.trans HY.out.symm; exact ⟨congrArg Prod.fst this, congrArg Prod.snd this⟩))]
            rfl
      · have hke : k = l.length := by omega
        subst hke
        have hlm : b0 = true := by
          rw [HB.out]
          have h1 := hpre.out
          rw [List.take_of_length_le (Nat.le_refl _), List.take_of_length_le (by have := HN.out; omega)] at h1
          simp [h1]
        have HLM := hide hlm
        clear hlm
        go_wp2
        go_ret
        exact ⟨by rw [HLM.out]; rfl, below_drewN (Below.refl _ _) _⟩
  · have hd : ((l.length : Int) != (m.length : Int)) = true := by rw [bne_iff_ne]; omega
    have hd2 : ((l.length : Int) == (m.length : Int)) = false := by rw [beq_eq_false_iff_ne]; omega
    have hb0 := hide (show decide (l = m) = false from decide_eq_false (fun hh => hne (by rw [hh])))
    clear hne
    go_enter Try.func77, Try.ntmps77
    go_wp2
    go_ret
    exact ⟨by rw [hb0.out]; rfl, Below.refl _ _⟩

set_option maxHeartbeats 2000000 in
theorem sEqCk_any (v u : Value) (l r l' r' : List Int) (ps ps' : List Pv) (w : World) (B : Nat) (hv : Ck w B v l r ps) (hu : Ck w B u l' r' ps') (hB : B ≤ w.heap.size) :
    Calls Try.prog 28 #[v, u] w (RetB1 w (eqC l r ps l' r' ps')) := by
  obtain ⟨a1, c1, a2, c2, a3, c3, rfl, i1, i2, i3⟩ := hv.form
  obtain ⟨b1, k1, b2, k2, b3, k3, rfl, j1, j2, j3⟩ := hu.form
  have X := hide (Kn.two w #[.slice a1 l.length c1, .slice a2 r.length c2, .slice a3 ps.length c3] #[.slice b1 l'.length k1, .slice b2 r'.length k2, .slice b3 ps'.length k3] 27 27)
  obtain ⟨w1, hw1⟩ : ∃ w1, w1 = (w.alloc (.cells #[.slice a1 l.length c1, .slice a2 r.length c2, .slice a3 ps.length c3] 27)).alloc (.cells #[.slice b1 l'.length k1, .slice b2 r'.length k2, .slice b3 ps'.length k3] 27) := ⟨_, rfl⟩
  rw [← hw1] at X
  have H1 := hide (fun (W : World) (h : Below w.heap.size w W) => And.intro (i1.below h hB) (j1.below h hB))
  have H2 := hide (fun (W : World) (h : Below w.heap.size w W) => And.intro (i2.below h hB) (j2.below h hB))
  have H3 := hide (fun (W : World) (h : Below w.heap.size w W) => And.intro (i3.below h hB) (j3.below h hB))
  clear i1 i2 i3 j1 j2 j3 hv hu
  obtain ⟨b0, hb0⟩ : ∃ b0, b0 = eqC l r ps l' r' ps' := ⟨_, rfl⟩
  rw [← hb0]
  obtain ⟨t1, ht1⟩ : ∃ t, t = decide (l = l') := ⟨_, rfl⟩
  obtain ⟨t2, ht2⟩ : ∃ t, t = decide (r = r') := ⟨_, rfl⟩
  obtain ⟨t3, ht3⟩ : ∃ t, t = decide (ps = ps') := ⟨_, rfl⟩
  unfold eqC at hb0
  rw [← ht1, ← ht2, ← ht3] at hb0
  have HB := hide hb0
  have HT1 := hide ht1
  have HT2 := hide ht2
  have HT3 := hide ht3
  clear hb0 ht1 ht2 ht3
  have d0 : w1.cell? ⟨w.heap.size, 0, none⟩ = some (.slice a1 l.length c1) := X.out.cell 0 0 rfl rfl
  have e0 : w1.cell? ⟨w.heap.size + 1, 0, none⟩ = some (.slice b1 l'.length k1) := X.out.cell 1 0 rfl rfl
  go_enter Try.func28, Try.ntmps28
  go_wp2_with fail
  rw [← hw1]
  clear hw1
  go_at_call 76
  refine (sL4Ints_any _ _ l l' _ B (H1.out _ X.out.below).1 (H1.out _ X.out.below).2).mono ?_
  rintro e w2 ⟨rfl, hb⟩
  rw [← HT1.out]
  have X := hide (X.out.up hb)
  clear hb d0 e0
  have d0 : w2.cell? ⟨w.heap.size, 1, none⟩ = some (.slice a2 r.length c2) := X.out.cell 0 1 rfl rfl
  have e0 : w2.cell? ⟨w.heap.size + 1, 1, none⟩ = some (.slice b2 r'.length k2) := X.out.cell 1 1 rfl rfl
  cases t1
  · have hf := hide (show b0 = false by rw [HB.out]; rfl)
    go_wp2_with fail
    go_ret
    exact ⟨by rw [hf.out]; rfl, X.out.below⟩
  · go_wp2_with fail
    go_at_call 76
    refine (sL4Ints_any _ _ r r' _ B (H2.out _ X.out.below).1 (H2.out _ X.out.below).2).mono ?_
    rintro e w3 ⟨rfl, hb⟩
    rw [← HT2.out]
    have X := hide (X.out.up hb)
    clear hb d0 e0
    have d0 : w3.cell? ⟨w.heap.size, 2, none⟩ = some (.slice a3 ps.length c3) := X.out.cell 0 2 rfl rfl
    have e0 : w3.cell? ⟨w.heap.size + 1, 2, none⟩ = some (.slice b3 ps'.length k3) := X.out.cell 1 2 rfl rfl
    cases t2
    · have hf := hide (show b0 = false by rw [HB.out]; rfl)
      go_wp2_with fail
      go_ret
      exact ⟨by rw [hf.out]; rfl, X.out.below⟩
    · have hf := hide (show b0 = t3 by rw [HB.out]; rfl)
      go_wp2_with fail
      go_at_call 77
      refine (sL4Same_any _ _ ps ps' _ B (H3.out _ X.out.below).1 (H3.out _ X.out.below).2).mono ?_
      rintro e w4 ⟨rfl, hb⟩
      rw [← HT3.out]
      have X := hide (X.out.up hb)
      go_wp2_with fail
      go_ret
      exact ⟨by rw [hf.out]; rfl, X.out.below⟩

end Go.Proofs.Ytajfhalalnlejaa
