/- Several texts in one: CkV, CkF, PtM, Ock, CrD, CrM, SrtM, SrtS, CrP, Sort, Rbw, CrN, PlA, PlM, Exch, Have, ApI, ApJ, Jump, PtI, PtJ, CrI, CkX, FpD, Prs, CeI, PlD. -/
import Derived.Test.YtajfhalalnlejaaGreatCkQ
import Derived.Test.YtajfhalalnlejaaGreatCkL
import Derived.Test.YtajfhalalnlejaaGreatPtS
import Derived.Test.YtajfhalalnlejaaGreatCkO
import Derived.Test.YtajfhalalnlejaaGreatSw
import Derived.Test.YtajfhalalnlejaaGreatAdC
import Derived.Test.YtajfhalalnlejaaGreatSwp
import Derived.Test.YtajfhalalnlejaaGreatCln
import Derived.Test.YtajfhalalnlejaaGreatRng2
import Derived.Shelf.Lay
import Derived.Shelf.Sort.AssemblyIn
import Derived.Shelf.Slices.In.SortNone
import Derived.Sort.EveryDepth
import Derived.Sort.OwnSortedInts
import Derived.Ground.NamesProg
import Derived.Test.YtajfhalalnlejaaGreatInts
import Derived.BigRegion
import Derived.Test.YtajfhalalnlejaaGreatApD
import Derived.Test.YtajfhalalnlejaaGreatCpI
import Derived.Test.YtajfhalalnlejaaGreatKit
import Derived.WalkMore
import Derived.ScopeJumps
import Derived.Test.YtajfhalalnlejaaGreatAdI
import Derived.Test.YtajfhalalnlejaaGreatCkE
import Derived.Test.YtajfhalalnlejaaGreatDraw2
import Derived.BigQuiet
import Derived.Deep.RegionLaw
/- What PieceOf returns: of the reference and of the program (promise 3). -/
namespace Go.Proofs.YtajfhalalnlejaaGreat
open Go.RowKit Go.ChangeShapes
set_option linter.unusedSimpArgs false
set_option linter.unusedVariables false
set_option maxRecDepth 100000

/-- Two numbers are returned; nothing that was there has turned. -/
def RetII (w : World) (p : Int × Int) (e : Ending) (w' : World) : Prop := e = .returned (.tuple #[.int .i64 p.1, .int .i64 p.2]) ∧ Below w.heap.size w w'

/-- The place of the last pivot whose value is at most v; a if there is none. -/
def loP : List Pv → Int → Int → Int
  | [], _, a => a
  | p :: ps, v, a => loP ps v (if p.1 ≤ v then p.2 else a)

/-- The place of the first pivot whose value is at least v; n if there is none. -/
def hiP : List Pv → Int → Int → Int
  | [], _, n => n
  | p :: ps, v, n => if v ≤ p.1 then p.2 else hiP ps v n

theorem loP_at (ps : List Pv) (v a : Int) (k : Nat) (h : k < ps.length) : loP (ps.drop k) v a = loP (ps.drop (k + 1)) v (if ps[k].1 ≤ v then ps[k].2 else a) := by
  rw [List.drop_eq_getElem_cons h]; rfl

theorem hiP_at (ps : List Pv) (v n : Int) (k : Nat) (h : k < ps.length) : hiP (ps.drop k) v n = if v ≤ ps[k].1 then ps[k].2 else hiP (ps.drop (k + 1)) v n := by
  rw [List.drop_eq_getElem_cons h]; rfl

theorem hiP_append (v : Int) : ∀ (a b : List Pv) (n : Int), hiP (a ++ b) v n = hiP a v (hiP b v n)
  | [], b, n => rfl
  | p :: a, b, n => by
    simp only [List.cons_append, hiP]
    split
    · rfl
    · exact hiP_append v a b n

theorem hiP_take (ps : List Pv) (v n : Int) (k : Nat) (h : k < ps.length) : hiP (ps.take (k + 1)) v n = hiP (ps.take k) v (if v ≤ ps[k].1 then ps[k].2 else n) := by
  rw [List.take_succ_eq_append_getElem h, hiP_append]; rfl

theorem loP_above (v : Int) : ∀ (qs : List Pv) (a : Int), (∀ q ∈ qs, v < q.1) → loP qs v a = a
  | [], a, _ => rfl
  | q :: qs, a, h => by
    have h1 := h q (by simp)
    rw [loP, if_neg (by omega)]
    exact loP_above v qs a fun x hx => h x (List.mem_cons_of_mem _ hx)

theorem pv_sorted {l : List Int} {ps : List Pv} (h : PvsOk l ps) (i : Nat) : ∀ j (_ : i < j) (hj : j < ps.length), (ps[i]'(by omega)).1 < ps[j].1
  | 0, hij, _ => by omega
  | j + 1, hij, hj => by
    have h1 := (h (j + 1) hj).1
    rw [prevV_succ ps j (by omega)] at h1
    by_cases e : i = j
    · subst e; exact h1
    · have := pv_sorted h i j (by omega) (by omega)
      omega

theorem later_above {l : List Int} {ps : List Pv} (h : PvsOk l ps) (k : Nat) (hk : k < ps.length) (v : Int) (hv : v ≤ ps[k].1) : ∀ q ∈ ps.drop (k + 1), v < q.1 := by
  intro q hq
  obtain ⟨j, hj, rfl⟩ := List.getElem_of_mem hq
  rw [List.getElem_drop]
  have := pv_sorted h k (k + 1 + j) (by omega) (by simp at hj; omega)
  omega

open Classical in
/-- The piece that would be divided at v. -/
noncomputable def pieceP (l r : List Int) (ps : List Pv) (v : Int) : Int × Int := if isCk l r ps = true ∧ -1000 ≤ v ∧ v ≤ 1000 then (loP ps v 0, hiP ps v l.length) else (0, 0)

set_option maxHeartbeats 2000000 in
theorem sPiece_any (u : Value) (ps : List Pv) (n v : Int) (w : World) (B : Nat) (hu : Pvs w B u ps) :
    Calls Tryz.prog 140 #[.int .i64 n, u, .int .i64 v] w fun e w' => e = .returned (.tuple #[.int .i64 (loP ps v 0), .int .i64 (hiP ps v n)]) ∧ w = w' := by
  obtain ⟨a, cap, rfl, hlen, -, hcell⟩ := hu
  have HC := hide hcell
  clear hcell
  obtain ⟨A, hA⟩ : ∃ A, A = loP ps v 0 := ⟨_, rfl⟩
  obtain ⟨C, hC⟩ : ∃ C, C = hiP ps v n := ⟨_, rfl⟩
  rw [← hA, ← hC]
  have HA := hide hA
  have HH := hide hC
  clear hA hC
  go_enter Tryz.func140, Tryz.ntmps140
  go_wp2
  go_loopw [8, 10] (fun q i wr => ∃ (k : Nat) (z : Int), k ≤ ps.length ∧ i = .int .i64 k ∧ q = .int .i64 z ∧ Hid (A = loP (ps.drop k) v z) ∧ w = wr) (fun _ i _ => ps.length - (intOf i).toNat)
  case atStart => exact ⟨0, 0, by omega, rfl, rfl, by simpa [Hid] using HA.out, rfl⟩
  case round =>
    obtain ⟨k, z, hk, rfl, rfl, hz, rfl⟩ := hrel
    by_cases hlt : k < ps.length
    · obtain ⟨b, o, rfl, hbB, hc, hc2⟩ := HC.out k hlt
      have hst := loP_at ps v z k hlt
      obtain ⟨p, hp⟩ : ∃ p, p = ps[k] := ⟨_, rfl⟩
      rw [← hp] at hc hc2 hst
      obtain ⟨x, y⟩ := p
      simp only at hc hc2 hst
      clear hp
      by_cases e : x ≤ v
      · have hn := hide (show A = loP (ps.drop (k + 1)) v y by rw [hz.out, hst, if_pos e])
        have t1 : decide (x ≤ v) = true := by simp; omega
        clear hst e
        go_wp2
        go_roundw
        case rel => exact ⟨k + 1, y, by omega, by go_num, rfl, hn, trivial⟩
        case measure => simp [intOf]; omega
      · have hn := hide (show A = loP (ps.drop (k + 1)) v z by rw [hz.out, hst, if_neg e])
        have t1 : decide (x ≤ v) = false := by simp; omega
        clear hst e
        go_wp2
        go_roundw
        case rel => exact ⟨k + 1, z, by omega, by go_num, rfl, hn, trivial⟩
        case measure => simp [intOf]; omega
    · have hke : k = ps.length := by omega
      subst hke
      have hzA : z = A := by rw [hz.out, List.drop_length]; rfl
      subst hzA
      go_wp2
      go_loopw [9, 11] (fun q i wr => ∃ (k : Nat) (y j : Int), k ≤ ps.length ∧ i = .int .i64 j ∧ j = (k : Int) - 1 ∧ q = .int .i64 y ∧ Hid (C = hiP (ps.take k) v y) ∧ w = wr) (fun _ i _ => (intOf i + 1).toNat)
      case atStart => exact ⟨ps.length, n, _, Nat.le_refl _, rfl, rfl, rfl, by show _ = _; rw [List.take_of_length_le (Nat.le_refl _)]; exact HH.out, rfl⟩
      case round =>
        obtain ⟨k, y, j, hk, rfl, hj, rfl, hy, rfl⟩ := hrel
        by_cases h0 : k = 0
        · subst h0
          obtain rfl : j = -1 := by omega
          have hf := hide (show C = y by rw [hy.out]; rfl)
          clear hj hk
          go_wp2
          go_ret2
          exact ⟨by rw [hf.out]; rfl, rfl⟩
        · obtain ⟨k', rfl⟩ : ∃ k', k = k' + 1 := ⟨k - 1, by omega⟩
          obtain rfl : j = (k' : Int) := by omega
          obtain ⟨b, o, rfl, hbB, hc, hc2⟩ := HC.out k' (by omega)
          have hst := hiP_take ps v y k' (by omega)
          obtain ⟨p, hp⟩ : ∃ p, p = ps[k']'(by omega) := ⟨_, rfl⟩
          rw [← hp] at hc hc2 hst
          obtain ⟨x, q⟩ := p
          simp only at hc hc2 hst
          clear hp
          by_cases e : v ≤ x
          · have hn := hide (show C = hiP (ps.take k') v q by rw [hy.out, hst, if_pos e])
            have t1 : decide (v ≤ x) = true := by simp; omega
            have t2 : decide (x ≥ v) = true := by simp; omega
            clear hst e hj h0
            go_wp2
            go_roundw
            case rel => exact ⟨k', q, (k' : Int) - 1, by omega, by go_num, rfl, rfl, hn, trivial⟩
            case measure => simp [intOf]
          · have hn := hide (show C = hiP (ps.take k') v y by rw [hy.out, hst, if_neg e])
            have t1 : decide (v ≤ x) = false := by simp; omega
            have t2 : decide (x ≥ v) = false := by simp; omega
            clear hst e hj h0
            go_wp2
            go_roundw
            case rel => exact ⟨k', y, (k' : Int) - 1, by omega, by go_num, rfl, rfl, hn, trivial⟩
            case measure => simp [intOf]

set_option maxHeartbeats 1000000 in
theorem sPieceOf_any (u : Value) (l r : List Int) (ps : List Pv) (v : Int) (w : World) (B : Nat) (hv : Ck w B u l r ps) (hB : B ≤ w.heap.size) :
    Calls Tryz.prog 120 #[u, .int .i64 v] w (RetII w (pieceP l r ps v)) := by
  obtain ⟨a1, c1, a2, c2, a3, c3, rfl, i1, i2, i3⟩ := hv.form
  have X := hide (Kn.one w #[.slice a1 l.length c1, .slice a2 r.length c2, .slice a3 ps.length c3] 33)
  obtain ⟨w1, hw1⟩ : ∃ w1, w1 = w.alloc (.cells #[.slice a1 l.length c1, .slice a2 r.length c2, .slice a3 ps.length c3] 33) := ⟨_, rfl⟩
  rw [← hw1] at X
  have HI3 := hide (fun (W : World) (h : Below w.heap.size w W) => i3.below h hB)
  have HV := hide (fun (W : World) (h : Below w.heap.size w W) => hv.below h hB)
  clear i1 i2 i3 hv
  obtain ⟨q, hq⟩ : ∃ q, q = pieceP l r ps v := ⟨_, rfl⟩
  rw [← hq]
  obtain ⟨x, y⟩ := q
  unfold pieceP at hq
  obtain ⟨t, ht⟩ : ∃ t, t = isCk l r ps := ⟨_, rfl⟩
  rw [← ht] at hq
  have HQ := hide hq
  clear hq
  have HT := hide ht
  clear ht
  have d0 : w1.cell? ⟨w.heap.size, 0, none⟩ = some (.slice a1 l.length c1) := X.out.cell 0 0 rfl rfl
  have d1 : w1.cell? ⟨w.heap.size, 1, none⟩ = some (.slice a2 r.length c2) := X.out.cell 0 1 rfl rfl
  have d2 : w1.cell? ⟨w.heap.size, 2, none⟩ = some (.slice a3 ps.length c3) := X.out.cell 0 2 rfl rfl
  go_enter Tryz.func120, Tryz.ntmps120
  go_wp2_with fail
  rw [← hw1]
  clear hw1
  go_at_call 26
  refine (sIsCk_any _ l r ps _ B (HV.out _ X.out.below) (Nat.le_trans hB X.out.below.size)).mono ?_
  rintro e w2 ⟨rfl, hb⟩
  rw [← HT.out]
  have X := hide (X.out.up hb)
  clear hb d0 d1 d2
  cases t
  · have hf := hide (show (x, y) = (0, 0) by rw [HQ.out, if_neg (by simp)])
    go_wp2_with fail
    go_ret2
    exact ⟨by obtain ⟨rfl, rfl⟩ := Prod.mk.inj hf.out; rfl, X.out.below⟩
  · by_cases hin : -1000 ≤ v ∧ v ≤ 1000
    · have hf := hide (show (x, y) = (loP ps v 0, hiP ps v l.length) by rw [HQ.out, if_pos ⟨rfl, hin⟩])
      have d0 : w2.cell? ⟨w.heap.size, 0, none⟩ = some (.slice a1 l.length c1) := X.out.cell 0 0 rfl rfl
      have d2 : w2.cell? ⟨w.heap.size, 2, none⟩ = some (.slice a3 ps.length c3) := X.out.cell 0 2 rfl rfl
      go_wp2_with fail
      go_at_call 79
      refine (in_yes v (-1000) 1000 _ hin.1 hin.2).mono ?_
      rintro e wa ⟨rfl, rfl⟩
      clear hin
      go_wp2_with fail
      go_at_call 140
      refine (sPiece_any _ ps _ v _ B (HI3.out _ X.out.below)).mono ?_
      rintro e wa ⟨rfl, rfl⟩
      go_wp2_with fail
      go_ret2
      exact ⟨by obtain ⟨rfl, rfl⟩ := Prod.mk.inj hf.out; rfl, X.out.below⟩
    · have hf := hide (show (x, y) = (0, 0) by rw [HQ.out, if_neg (fun h => hin h.2)])
      go_wp2_with fail
      go_at_call 79
      refine (in_no v (-1000) 1000 _ (by omega)).mono ?_
      rintro e wa ⟨rfl, rfl⟩
      clear hin
      go_wp2_with fail
      go_ret2
      exact ⟨by obtain ⟨rfl, rfl⟩ := Prod.mk.inj hf.out; rfl, X.out.below⟩

theorem bound_yes (v : Int) (w : World) (h1 : -1000 ≤ v) (h2 : v ≤ 1000) : Calls Tryz.prog 83 #[.int .i64 v] w fun e w' => e = .returned (.bool true) ∧ w = w' := by
  go_enter Tryz.func83, Tryz.ntmps83
  go_wp2
  go_ret
  exact ⟨rfl, rfl⟩

theorem bound_no (v : Int) (w : World) (h : v < -1000 ∨ 1000 < v) : Calls Tryz.prog 83 #[.int .i64 v] w fun e w' => e = .returned (.bool false) ∧ w = w' := by
  by_cases h1 : -1000 ≤ v
  · have h2 : decide (v ≤ 1000) = false := by simp; omega
    go_enter Tryz.func83, Tryz.ntmps83
    go_wp2
    go_ret
    exact ⟨rfl, rfl⟩
  · go_enter Tryz.func83, Tryz.ntmps83
    go_wp2
    go_ret
    exact ⟨rfl, rfl⟩

set_option maxHeartbeats 2000000 in
theorem iPieceOf_any (u : Value) (l r : List Int) (ps : List Pv) (v : Int) (w : World) (B : Nat) (hv : Ck w B u l r ps) (hB : B ≤ w.heap.size) :
    Calls Tryz.prog 84 #[u, .int .i64 v] w (RetII w (pieceP l r ps v)) := by
  obtain ⟨a1, c1, a2, c2, a3, c3, rfl, i1, i2, i3⟩ := hv.form
  have X := hide (Kn.one w #[.slice a1 l.length c1, .slice a2 r.length c2, .slice a3 ps.length c3] 33)
  obtain ⟨w1, hw1⟩ : ∃ w1, w1 = w.alloc (.cells #[.slice a1 l.length c1, .slice a2 r.length c2, .slice a3 ps.length c3] 33) := ⟨_, rfl⟩
  rw [← hw1] at X
  have HI3 := hide (fun (W : World) (h : Below w.heap.size w W) => i3.below h hB)
  have HV := hide (fun (W : World) (h : Below w.heap.size w W) => hv.below h hB)
  have hpl : ps.length ≤ 9223372036854775807 := by obtain ⟨_, _, _, h, _⟩ := i3; exact h
  clear i1 i2 i3 hv
  obtain ⟨q, hq⟩ : ∃ q, q = pieceP l r ps v := ⟨_, rfl⟩
  rw [← hq]
  obtain ⟨x, y⟩ := q
  unfold pieceP at hq
  obtain ⟨t, ht⟩ : ∃ t, t = isCk l r ps := ⟨_, rfl⟩
  rw [← ht] at hq
  have HQ := hide hq
  clear hq
  have HT := hide ht
  clear ht
  have d0 : w1.cell? ⟨w.heap.size, 0, none⟩ = some (.slice a1 l.length c1) := X.out.cell 0 0 rfl rfl
  have d1 : w1.cell? ⟨w.heap.size, 1, none⟩ = some (.slice a2 r.length c2) := X.out.cell 0 1 rfl rfl
  have d2 : w1.cell? ⟨w.heap.size, 2, none⟩ = some (.slice a3 ps.length c3) := X.out.cell 0 2 rfl rfl
  go_enter Tryz.func84, Tryz.ntmps84
  go_wp2_with fail
  rw [← hw1]
  clear hw1
  go_at_call 33
  refine (iIsCk_any _ l r ps _ B (HV.out _ X.out.below) (Nat.le_trans hB X.out.below.size)).mono ?_
  rintro e w2 ⟨rfl, hb⟩
  rw [← HT.out]
  have X := hide (X.out.up hb)
  clear hb d0 d1 d2
  cases t
  · have hf := hide (show (x, y) = (0, 0) by rw [HQ.out, if_neg (by simp)])
    go_wp2_with fail
    go_ret2
    exact ⟨by obtain ⟨rfl, rfl⟩ := Prod.mk.inj hf.out; rfl, X.out.below⟩
  · by_cases hin : -1000 ≤ v ∧ v ≤ 1000
    · have hq := HQ.out
      rw [if_pos ⟨rfl, hin⟩] at hq
      obtain ⟨hx, hy⟩ := Prod.mk.inj hq
      have HX := hide hx
      have HY := hide hy
      have HS := hide (isCk_parts HT.out.symm).2.2.2
      have d2 : w2.cell? ⟨w.heap.size, 2, none⟩ = some (.slice a3 ps.length c3) := X.out.cell 0 2 rfl rfl
      clear hq hx hy
      go_wp2_with fail
      go_at_call 83
      refine (bound_yes v _ hin.1 hin.2).mono ?_
      rintro e wa ⟨rfl, rfl⟩
      clear hin
      go_wp2_with fail
      clear d2
      go_loopw [6, 20] (fun q i wr => ∃ (k : Nat) (z : Int), k ≤ ps.length ∧ i = .int .i64 k ∧ q = .int .i64 z ∧ Hid (x = loP (ps.drop k) v z) ∧ Hid (y = hiP (ps.drop k) v l.length) ∧ Hid (Kn w wr [(w.heap.size, #[.slice a1 l.length c1, .slice a2 r.length c2, .slice a3 ps.length c3], 33)])) (fun _ i _ => ps.length - (intOf i).toNat)
      case atStart => exact ⟨0, 0, by omega, rfl, rfl, by simpa [Hid] using HX.out, by simpa [Hid] using HY.out, X.out⟩
      case round =>
        clear X
        obtain ⟨k, z, hk, rfl, rfl, hx, hy, Y⟩ := hrel
        by_cases hlt : k < ps.length
        · have hi := HI3.out _ Y.out.below
          obtain ⟨a', c', he, _, _, hcell⟩ := hi
          obtain ⟨rfl, rfl⟩ : a3 = a' ∧ c3 = c' := by
            simp only [Value.slice.injEq] at he
            exact ⟨he.1, he.2.2⟩
          obtain ⟨b, o, rfl, hbB, hc, hc2⟩ := hcell k hlt
          have hs1 := loP_at ps v z k hlt
          have hs2 := hiP_at ps v l.length k hlt
          have hs3 := fun h => loP_above v (ps.drop (k + 1)) (if ps[k].1 ≤ v then ps[k].2 else z) (later_above HS.out k hlt v h)
          obtain ⟨p, hp⟩ : ∃ p, p = ps[k] := ⟨_, rfl⟩
          rw [← hp] at hc hc2 hs1 hs2 hs3
          obtain ⟨m, n⟩ := p
          simp only at hc hc2 hs1 hs2 hs3
          clear he hcell hp
          have Z := hide (Y.out.alloc #[.int .i64 m, .int .i64 n] 133)
          have ZB := hide (Z.out.sub (List.sublist_append_left _ _))
          obtain ⟨wx, hwx⟩ : ∃ wx, wx = wr.alloc (.cells #[.int .i64 m, .int .i64 n] 133) := ⟨_, rfl⟩
          rw [← hwx] at Z ZB
          simp only [List.nil_append, List.cons_append] at Z
          by_cases e1 : m ≤ v
          · have t1 : decide (m ≤ v) = true := by simp; omega
            rw [if_pos e1] at hs1 hs3
            by_cases e2 : v ≤ m
            · have t2 : decide (m ≥ v) = true := by simp; omega
              have t3 : decide (v ≤ m) = true := by simp; omega
              have hf := hide (show x = n ∧ y = n from ⟨by rw [hx.out, hs1, hs3 e2], by rw [hy.out, hs2, if_pos e2]⟩)
              clear hs1 hs2 hs3 e1 e2
              go_wp2_with fail
              rw [← hwx]
              clear hwx hc hc2
              have z0 : wx.cell? ⟨wr.heap.size, 0, none⟩ = some (.int .i64 m) := Z.out.cell 1 0 rfl rfl
              have z1 : wx.cell? ⟨wr.heap.size, 1, none⟩ = some (.int .i64 n) := Z.out.cell 1 1 rfl rfl
              go_wp2_with fail
              go_quiet (fail)
              go_wp2_with fail
              go_ret2
              exact ⟨by rw [hf.out.1, hf.out.2]; rfl, (Z.out.drewN _).below⟩
            · have t2 : decide (m ≥ v) = false := by simp; omega
              have t3 : decide (v ≤ m) = false := by simp; omega
              have hn1 := hide (show x = loP (ps.drop (k + 1)) v n by rw [hx.out, hs1])
              have hn2 := hide (show y = hiP (ps.drop (k + 1)) v l.length by rw [hy.out, hs2, if_neg e2])
              clear hs1 hs2 hs3 e1 e2
              go_wp2_with fail
              rw [← hwx]
              clear hwx hc hc2
              go_roundw
              case rel => exact ⟨k + 1, n, by omega, by go_num, rfl, hn1, hn2, ZB.out⟩
              case measure => simp [intOf]; omega
          · have t1 : decide (m ≤ v) = false := by simp; omega
            have t2 : decide (m ≥ v) = true := by simp; omega
            have t3 : decide (v ≤ m) = true := by simp; omega
            rw [if_neg e1] at hs1 hs3
            have hf := hide (show x = z ∧ y = n from ⟨by rw [hx.out, hs1, hs3 (by omega)], by rw [hy.out, hs2, if_pos (by omega)]⟩)
            clear hs1 hs2 hs3 e1
            go_wp2_with fail
            rw [← hwx]
            clear hwx hc hc2
            have z0 : wx.cell? ⟨wr.heap.size, 0, none⟩ = some (.int .i64 m) := Z.out.cell 1 0 rfl rfl
            have z1 : wx.cell? ⟨wr.heap.size, 1, none⟩ = some (.int .i64 n) := Z.out.cell 1 1 rfl rfl
            go_wp2_with fail
            go_quiet (fail)
            go_wp2_with fail
            go_ret2
            exact ⟨by rw [hf.out.1, hf.out.2]; rfl, (Z.out.drewN _).below⟩
        · have hke : k = ps.length := by omega
          subst hke
          have hf := hide (show x = z ∧ y = l.length from ⟨by rw [hx.out, List.drop_length]; rfl, by rw [hy.out, List.drop_length]; rfl⟩)
          have d0 : wr.cell? ⟨w.heap.size, 0, none⟩ = some (.slice a1 l.length c1) := Y.out.cell 0 0 rfl rfl
          go_wp2_with fail
          go_quiet (fail)
          go_wp2_with fail
          go_ret2
          exact ⟨by rw [hf.out.1, hf.out.2]; rfl, (Y.out.drewN _).below⟩
    · have hf := hide (show (x, y) = (0, 0) by rw [HQ.out, if_neg (fun h => hin h.2)])
      go_wp2_with fail
      go_at_call 83
      refine (bound_no v _ (by omega)).mono ?_
      rintro e wa ⟨rfl, rfl⟩
      clear hin
      go_wp2_with fail
      go_ret2
      exact ⟨by obtain ⟨rfl, rfl⟩ := Prod.mk.inj hf.out; rfl, X.out.below⟩

end Go.Proofs.YtajfhalalnlejaaGreat

/- What FindPivot returns: of the reference and of the program (promise 3). -/
namespace Go.Proofs.YtajfhalalnlejaaGreat
open Go.RowKit Go.ChangeShapes
set_option linter.unusedSimpArgs false
set_option linter.unusedVariables false
set_option maxRecDepth 100000

/-- A number and a truth are returned; nothing that was there has turned. -/
def RetPB (w : World) (p : Int × Bool) (e : Ending) (w' : World) : Prop := e = .returned (.tuple #[.int .i64 p.1, .bool p.2]) ∧ Below w.heap.size w w'

/-- The place of the first pivot of this value, and whether there is one. -/
def fndP : List Pv → Int → Int × Bool
  | [], _ => (0, false)
  | p :: ps, v => if p.1 = v then (p.2, true) else fndP ps v

theorem fndP_at (ps : List Pv) (v : Int) (k : Nat) (h : k < ps.length) : fndP (ps.drop k) v = if ps[k].1 = v then (ps[k].2, true) else fndP (ps.drop (k + 1)) v := by
  rw [List.drop_eq_getElem_cons h]
  rfl

set_option maxHeartbeats 1000000 in
theorem sFindP_any (u : Value) (l r : List Int) (ps : List Pv) (v : Int) (w : World) (B : Nat) (hv : Ck w B u l r ps) (hB : B ≤ w.heap.size) :
    Calls Tryz.prog 62 #[u, .int .i64 v] w (RetPB w (fndP ps v)) := by
  obtain ⟨a1, c1, a2, c2, a3, c3, rfl, -, -, i3⟩ := hv.form
  have X := hide (Kn.one w #[.slice a1 l.length c1, .slice a2 r.length c2, .slice a3 ps.length c3] 33)
  obtain ⟨w1, hw1⟩ : ∃ w1, w1 = w.alloc (.cells #[.slice a1 l.length c1, .slice a2 r.length c2, .slice a3 ps.length c3] 33) := ⟨_, rfl⟩
  rw [← hw1] at X
  have I3 := i3.below X.out.below hB
  obtain ⟨a3', c3', he, hlen, -, hcell⟩ := I3
  obtain ⟨rfl, rfl⟩ : a3 = a3' ∧ c3 = c3' := by
    simp only [Value.slice.injEq] at he
    exact ⟨he.1, he.2.2⟩
  have HC := hide hcell
  clear he hcell i3 hv
  have d2 := X.out.cell 0 2 rfl rfl
  obtain ⟨q, hq⟩ : ∃ q, q = fndP ps v := ⟨_, rfl⟩
  rw [← hq]
  obtain ⟨x, b⟩ := q
  have HQ := hide hq
  clear hq
  go_enter Tryz.func62, Tryz.ntmps62
  go_wp2_with fail
  rw [← hw1]
  clear hw1
  go_loopw [6] (fun i wr => ∃ (k : Nat), k ≤ ps.length ∧ i = .int .i64 k ∧ Hid ((x, b) = fndP (ps.drop k) v) ∧ w1 = wr) (fun i _ => ps.length - (intOf i).toNat)
  case atStart => exact ⟨0, by omega, rfl, by simpa [Hid] using HQ.out, rfl⟩
  case round =>
    obtain ⟨k, hk, rfl, hpre, rfl⟩ := hrel
    by_cases hlt : k < ps.length
    · obtain ⟨bb, o, rfl, hbB, hc, hc2⟩ := HC.out k hlt
      have hst := fndP_at ps v k hlt
      obtain ⟨p, hp⟩ : ∃ p, p = ps[k] := ⟨_, rfl⟩
      rw [← hp] at hc hc2 hst
      obtain ⟨y, z⟩ := p
      simp only at hc hc2 hst
      clear hp
      by_cases hy : y = v
      · have hf := hide (show (x, b) = (z, true) by rw [hpre.out, hst, if_pos hy])
        have ht : decide (y = v) = true := by simp [hy]
        have ht2 : (y == v) = true := by simp [hy]
        clear hst
        go_wp2_with fail
        go_ret2
        exact ⟨by obtain ⟨rfl, rfl⟩ := Prod.mk.inj hf.out; rfl, X.out.below⟩
      · have hf := hide (show (x, b) = fndP (ps.drop (k + 1)) v by rw [hpre.out, hst, if_neg hy])
        have ht : decide (y = v) = false := by simp [hy]
        have ht2 : (y == v) = false := by simp [hy]
        clear hst
        go_wp2_with fail
        go_roundw
        case rel => exact ⟨k + 1, by omega, by go_num, hf, trivial⟩
        case measure => simp [intOf]; omega
    · have hke : k = ps.length := by omega
      subst hke
      have hf := hide (show (x, b) = (0, false) by rw [hpre.out, List.drop_length]; rfl)
      go_wp2_with fail
      go_ret2
      exact ⟨by obtain ⟨rfl, rfl⟩ := Prod.mk.inj hf.out; rfl, X.out.below⟩

set_option maxHeartbeats 1000000 in
theorem iFindP_any (u : Value) (l r : List Int) (ps : List Pv) (v : Int) (w : World) (B : Nat) (hv : Ck w B u l r ps) (hB : B ≤ w.heap.size) :
    Calls Tryz.prog 67 #[u, .int .i64 v] w (RetPB w (fndP ps v)) := by
  obtain ⟨a1, c1, a2, c2, a3, c3, rfl, -, -, i3⟩ := hv.form
  have X := hide (Kn.one w #[.slice a1 l.length c1, .slice a2 r.length c2, .slice a3 ps.length c3] 33)
  obtain ⟨w1, hw1⟩ : ∃ w1, w1 = w.alloc (.cells #[.slice a1 l.length c1, .slice a2 r.length c2, .slice a3 ps.length c3] 33) := ⟨_, rfl⟩
  rw [← hw1] at X
  have I3 := i3.below X.out.below hB
  obtain ⟨a3', c3', he, hlen, -, hcell⟩ := I3
  obtain ⟨rfl, rfl⟩ : a3 = a3' ∧ c3 = c3' := by
    simp only [Value.slice.injEq] at he
    exact ⟨he.1, he.2.2⟩
  have HC := hide hcell
  clear he hcell i3 hv
  have d2 := X.out.cell 0 2 rfl rfl
  obtain ⟨q, hq⟩ : ∃ q, q = fndP ps v := ⟨_, rfl⟩
  rw [← hq]
  obtain ⟨x, b⟩ := q
  have HQ := hide hq
  have HB1 := hide (Nat.le_trans hB X.out.below.size)
  clear hq
  go_enter Tryz.func67, Tryz.ntmps67
  go_wp2_with fail
  rw [← hw1]
  clear hw1
  go_wp2_with fail
  go_loopw [11] (fun i wr => ∃ (k : Nat), k ≤ ps.length ∧ i = .int .i64 k ∧ Hid ((x, b) = fndP (ps.drop k) v) ∧ Below w1.heap.size w1 wr) (fun i _ => ps.length - (intOf i).toNat)
  case atStart => exact ⟨0, by omega, rfl, by simpa [Hid] using HQ.out, Below.refl _ _⟩
  case round =>
    obtain ⟨k, hk, rfl, hpre, hb⟩ := hrel
    by_cases hlt : k < ps.length
    · obtain ⟨bb, o, rfl, hbB, hc, hc2⟩ := HC.out k hlt
      have hst := fndP_at ps v k hlt
      obtain ⟨p, hp⟩ : ∃ p, p = ps[k] := ⟨_, rfl⟩
      rw [← hp] at hc hc2 hst
      obtain ⟨y, z⟩ := p
      simp only at hc hc2 hst
      have d1 : wr.cell? ⟨bb, o + k * 2, none⟩ = some (.int .i64 y) := by rw [hb.cell (p := ⟨bb, o + k * 2, none⟩) (Nat.lt_of_lt_of_le hbB HB1.out)]; exact hc
      have d3 : wr.cell? ⟨bb, o + k * 2 + 1, none⟩ = some (.int .i64 z) := by rw [hb.cell (p := ⟨bb, o + k * 2 + 1, none⟩) (Nat.lt_of_lt_of_le hbB HB1.out)]; exact hc2
      have HBB := hide hb
      clear hp hc hc2 hb
      by_cases hy : y = v
      · have hf := hide (show (x, b) = (z, true) by rw [hpre.out, hst, if_pos hy])
        have ht2 : (y == v) = true := by simp [hy]
        clear hst
        go_wp2_with fail
        go_ret2
        exact ⟨by obtain ⟨rfl, rfl⟩ := Prod.mk.inj hf.out; rfl, X.out.below.trans ((HBB.out.alloc HBB.out.size _).mono X.out.below.size)⟩
      · have hf := hide (show (x, b) = fndP (ps.drop (k + 1)) v by rw [hpre.out, hst, if_neg hy])
        have ht2 : (y == v) = false := by simp [hy]
        clear hst
        go_wp2_with fail
        go_roundw
        case rel => exact ⟨k + 1, by omega, by go_num, hf, HBB.out.alloc HBB.out.size _⟩
        case measure => simp [intOf]; omega
    · have hke : k = ps.length := by omega
      subst hke
      have hf := hide (show (x, b) = (0, false) by rw [hpre.out, List.drop_length]; rfl)
      go_wp2_with fail
      go_ret2
      exact ⟨by obtain ⟨rfl, rfl⟩ := Prod.mk.inj hf.out; rfl, X.out.below.trans (hb.mono X.out.below.size)⟩

end Go.Proofs.YtajfhalalnlejaaGreat

/- Numbers of a partition: which places its swaps name, how many they are, where its place lies. Any program. -/
namespace Go.Proofs.YtajfhalalnlejaaGreat
set_option linter.unusedSimpArgs false
set_option linter.unusedVariables false

theorem part_nums (l : List Int) (p : Int) : ∀ (f i e : Nat), (∀ q ∈ (part l p f i e).1, (i : Int) ≤ q.1 ∧ q.1 < q.2 ∧ q.2 < (e : Int)) ∧ 2 * (part l p f i e).1.length + i ≤ max e i ∧ i ≤ (part l p f i e).2 ∧ (part l p f i e).2 ≤ max e i
  | 0, i, e => by
    refine ⟨by simp [part], ?_, ?_, ?_⟩ <;> simp [part] <;> omega
  | f + 1, i, e => by
    by_cases h : i < e
    · rw [part_step l p f i e h]
      by_cases h1 : l.getD i 0 < p
      · rw [if_pos h1]
        obtain ⟨a, b, c, d⟩ := part_nums l p f (i + 1) e
        refine ⟨fun q hq => ?_, by omega, by omega, by omega⟩
        have := a q hq
        omega
      · rw [if_neg h1]
        by_cases h2 : p ≤ l.getD (e - 1) 0
        · rw [if_pos h2]
          obtain ⟨a, b, c, d⟩ := part_nums l p f i (e - 1)
          refine ⟨fun q hq => ?_, by omega, by omega, by omega⟩
          have := a q hq
          omega
        · rw [if_neg h2]
          have hne : i ≠ e - 1 := fun h3 => by rw [← h3] at h2; omega
          obtain ⟨a, b, c, d⟩ := part_nums l p f (i + 1) (e - 1)
          refine ⟨fun q hq => ?_, ?_, ?_, ?_⟩
          · rcases List.mem_cons.1 hq with rfl | hq
            · simp only
              omega
            · have := a q hq
              omega
          · simp only [List.length_cons]
            omega
          · simp only
            omega
          · simp only
            omega
    · rw [part_stop l p _ i e h]
      refine ⟨by simp, ?_, ?_, ?_⟩ <;> simp <;> omega

theorem partP_nums (l : List Int) (a b p : Int) (hl : l.length ≤ 1048576) : (∀ q ∈ (partP l a b p).1, 0 ≤ q.1 ∧ q.1 < q.2 ∧ q.2 < (l.length : Int)) ∧ (partP l a b p).1.length ≤ 1048576 ∧ 0 ≤ (partP l a b p).2 ∧ (partP l a b p).2 ≤ (l.length : Int) := by
  unfold partP
  by_cases h : 0 ≤ a ∧ a ≤ b ∧ b ≤ (l.length : Int)
  · rw [if_pos h]
    obtain ⟨q1, q2, q3, q4⟩ := part_nums l p (b - a).toNat a.toNat b.toNat
    refine ⟨fun q hq => ?_, ?_, ?_, ?_⟩
    · have := q1 q hq
      omega
    · simp only; omega
    · simp only; omega
    · simp only; omega
  · rw [if_neg h]
    refine ⟨by simp, by simp, by simp, by simp⟩

theorem partP_wf (l : List Int) (a b p : Int) (hl : l.length ≤ 1048576) : ∀ q ∈ (partP l a b p).1, I64 q.1 ∧ I64 q.2 := fun q hq => by
  have := (partP_nums l a b p hl).1 q hq
  exact ⟨⟨by omega, by omega⟩, ⟨by omega, by omega⟩⟩

end Go.Proofs.YtajfhalalnlejaaGreat

/- Small bridges between the words for owned columns, and slices of swaps that came in as an argument (promise 3). -/
namespace Go.Proofs.YtajfhalalnlejaaGreat
open Go.RowKit Go.ChangeShapes
set_option linter.unusedSimpArgs false
set_option linter.unusedVariables false
set_option maxRecDepth 100000

theorem OC.of_ock {w : World} {x y z : Value} {l r : List Int} {ps : List Pv} {lo n1 n2 hi : Nat} (h1 : Ow w x l lo n1) (h2 : Ow w y r n1 n2) (h3 : Owp w z ps n2 hi) : OC w x y z l r ps lo hi lo n1 n1 n2 n2 hi :=
  ⟨h1, h2, h3, ⟨Nat.le_refl _, h1.le, Nat.le_trans h1.le h2.le⟩, ⟨Nat.le_trans h2.le h3.le, h3.le, Nat.le_refl _⟩, ⟨.inl (Nat.le_refl _), .inl h2.le, .inl (Nat.le_refl _)⟩, Nat.le_trans h1.le (Nat.le_trans h2.le h3.le), h3.top⟩

theorem OwS.nilcap {w : World} {base : Nat} {a : Option Addr} {n c : Nat} {ps : List Pv} (h : OwS w base (.slice a n c) ps) : a = none → c = 0 := by
  rcases h.2 with ⟨hv, _⟩ | ⟨g, cap, cur, hv, _⟩
  · simp only [Value.slice.injEq] at hv
    exact fun _ => hv.2.2
  · simp only [Value.slice.injEq] at hv
    intro h
    rw [hv.1] at h
    cases h

end Go.Proofs.YtajfhalalnlejaaGreat

/- What CrackAt does, in numbers and words (promise 3). -/
namespace Go.Proofs.YtajfhalalnlejaaGreat
open Go.RowKit Go.ChangeShapes
set_option linter.unusedSimpArgs false
set_option linter.unusedVariables false
set_option maxRecDepth 100000

/-- The column is valid and v is a bound. -/
noncomputable def crOk (l r : List Int) (ps : List Pv) (v : Int) : Bool := isCk l r ps && decide (-1000 ≤ v ∧ v ≤ 1000)
/-- The column is divided: it is valid, v a bound, and no pivot has this value. -/
noncomputable def crDiv (l r : List Int) (ps : List Pv) (v : Int) : Bool := crOk l r ps v && !(fndP ps v).2
/-- The swaps of the piece, and the place. -/
noncomputable def crPt (l r : List Int) (ps : List Pv) (v : Int) : List Pv × Int := partP l (pieceP l r ps v).1 (pieceP l r ps v).2 v
noncomputable def crS (l r : List Int) (ps : List Pv) (v : Int) : List Pv := if crDiv l r ps v = true then (crPt l r ps v).1 else []
noncomputable def crL (l r : List Int) (ps : List Pv) (v : Int) : List Int := if crDiv l r ps v = true then apL l r (crPt l r ps v).1 else l
noncomputable def crR (l r : List Int) (ps : List Pv) (v : Int) : List Int := if crDiv l r ps v = true then apR l r (crPt l r ps v).1 else r
noncomputable def crP (l r : List Int) (ps : List Pv) (v : Int) : List Pv := if crDiv l r ps v = true then adP (apL l r (crPt l r ps v).1) (apR l r (crPt l r ps v).1) ps (v, (crPt l r ps v).2) else ps

theorem adP_wf {l r : List Int} {ps : List Pv} {p : Pv} (h : ∀ q ∈ ps, I64 q.1 ∧ I64 q.2) (hp : I64 p.1 ∧ I64 p.2) : (∀ q ∈ adP l r ps p, I64 q.1 ∧ I64 q.2) ∧ (adP l r ps p).length ≤ ps.length + 1 := by
  unfold adP
  split
  · exact ⟨adIn_wf h hp, by rw [adIn_length]; exact Nat.le_refl _⟩
  · exact ⟨h, by omega⟩

theorem crack_wf (l r : List Int) (ps : List Pv) (v : Int) (hl : l.length ≤ 1048576) (hr : r.length ≤ 1048576) (hp : ps.length ≤ 1048576) (wl : ∀ x ∈ l, I64 x) (wr : ∀ x ∈ r, I64 x) (wp : ∀ p ∈ ps, I64 p.1 ∧ I64 p.2) (hv : I64 v) :
    (crL l r ps v).length ≤ 1048576 ∧ (crR l r ps v).length ≤ 1048576 ∧ (crP l r ps v).length ≤ 1048577 ∧ (∀ x ∈ crL l r ps v, I64 x) ∧ (∀ x ∈ crR l r ps v, I64 x) ∧ (∀ p ∈ crP l r ps v, I64 p.1 ∧ I64 p.2) ∧ (crS l r ps v).length ≤ 1048576 ∧ ∀ p ∈ crS l r ps v, I64 p.1 ∧ I64 p.2 := by
  unfold crL crR crP crS
  by_cases h : crDiv l r ps v = true
  · simp only [h, if_true]
    obtain ⟨n1, n2, n3, n4⟩ := partP_nums l (pieceP l r ps v).1 (pieceP l r ps v).2 v hl
    have hw := partP_wf l (pieceP l r ps v).1 (pieceP l r ps v).2 v hl
    have ha := adP_wf (l := apL l r (crPt l r ps v).1) (r := apR l r (crPt l r ps v).1) (p := (v, (crPt l r ps v).2)) wp ⟨hv, by unfold crPt; exact ⟨by omega, by omega⟩⟩
    exact ⟨by rw [apL_length]; exact hl, by rw [apR_length]; exact hr, by have := ha.2; omega, apL_wf wl, apR_wf wr, ha.1, n2, hw⟩
  · simp only [h]
    exact ⟨hl, hr, by show ps.length ≤ _; omega, wl, wr, wp, by simp, by simp⟩

/-- A column and swaps of the call's own, and a bool, are returned; nothing that was there has turned. -/
def RetOCSB (w : World) (l r : List Int) (ps sw : List Pv) (b : Bool) (e : Ending) (w' : World) : Prop := ∃ x y z sv lo hi n1 h1 n2 h2 n3 h3 slo shi, e = .returned (.tuple #[.agg #[x, y, z], sv, .bool b]) ∧ (w.heap.size ≤ lo ∧ w.heap.size ≤ slo) ∧ (hi ≤ w'.heap.size ∧ shi ≤ w'.heap.size) ∧ OC w' x y z l r ps lo hi n1 h1 n2 h2 n3 h3 ∧ Osw w' sv sw slo shi ∧ (hi ≤ slo ∨ shi ≤ lo) ∧ Below w.heap.size w w'

theorem Osw.nil {w : World} {n : Nat} (h : n ≤ w.heap.size) : Osw w (.slice none 0 0) [] n n := ⟨OwS.nil _ _, fun g hg => by simp [Value.ownBlock] at hg, Nat.le_refl _, h⟩

end Go.Proofs.YtajfhalalnlejaaGreat

/- Dividing a column, in numbers (promises 3 and 4): what a partition's swaps leave, that the column stays valid and the same pairs, which pivots there are. Any program. -/
namespace Go.Proofs.YtajfhalalnlejaaGreat
set_option linter.unusedSimpArgs false
set_option linter.unusedVariables false

theorem swapAt_getD (l : List Int) (i j k : Nat) (hi : i < l.length) (hj : j < l.length) : (swapAt l i j).getD k 0 = if k = j then l.getD i 0 else if k = i then l.getD j 0 else l.getD k 0 := by
  unfold swapAt
  simp only [List.getD_eq_getElem?_getD, List.getElem?_set]
  by_cases h1 : k = j
  · subst h1; simp [hj]
  · rw [if_neg (show ¬ j = k from fun h => h1 h.symm), if_neg h1]
    by_cases h2 : k = i
    · subst h2; simp [hi]
    · rw [if_neg (show ¬ i = k from fun h => h2 h.symm), if_neg h2]

/-- Two places exchanged in any list: the same elements. -/
theorem set_set_perm' {α : Type} (L : List α) (i j : Nat) (hi : i < L.length) (hj : j < L.length) : ((L.set i L[j]).set j L[i]).Perm L := by
  have h := Array.swap_perm (xs := L.toArray) (i := i) (j := j) (by simpa using hi) (by simpa using hj)
  have h2 := h.toList
  rw [Array.toList_swap] at h2
  simpa using h2

theorem zip_swapAt (l r : List Int) (i j : Nat) (h : r.length = l.length) (hi : i < l.length) (hj : j < l.length) : ((swapAt l i j).zip (swapAt r i j)).Perm (l.zip r) := by
  have hz : (l.zip r).length = l.length := by simp; omega
  have e : (swapAt l i j).zip (swapAt r i j) = ((l.zip r).set i ((l.zip r)[j]'(by omega))).set j ((l.zip r)[i]'(by omega)) := by
    apply List.ext_getElem
    · simp [swapAt_length]
    · intro k h1 h2
      simp only [List.getElem_zip, List.getElem_set, swapAt, List.getD_eq_getElem?_getD, List.getElem?_eq_getElem hi, List.getElem?_eq_getElem hj, List.getElem?_eq_getElem (show i < r.length by omega), List.getElem?_eq_getElem (show j < r.length by omega), Option.getD_some]
      split
      · rfl
      · split <;> rfl
  rw [e]
  exact set_set_perm' _ i j _ _

theorem zip_swaps : ∀ (sw : List Pv) (l r : List Int), r.length = l.length → sw.all (swOk l.length) = true → ((swaps l sw).zip (swaps r sw)).Perm (l.zip r)
  | [], l, r, _, _ => .refl _
  | p :: ps, l, r, h, ha => by
    simp only [List.all_cons, Bool.and_eq_true] at ha
    have h1 := ha.1
    unfold swOk at h1
    simp only [Bool.and_eq_true, decide_eq_true_eq] at h1
    simp only [swaps]
    exact (zip_swaps ps _ _ (by rw [swapAt_length, swapAt_length]; exact h) (by rw [swapAt_length]; exact ha.2)).trans (zip_swapAt l r _ _ h (by omega) (by omega))

theorem swaps_perm (sw : List Pv) (l : List Int) (ha : sw.all (swOk l.length) = true) : (swaps l sw).Perm l := by
  have h := (zip_swaps sw l l rfl ha).map Prod.fst
  rwa [List.map_fst_zip (Nat.le_refl _), List.map_fst_zip (Nat.le_refl _)] at h

theorem zip_ap (l r : List Int) (sw : List Pv) : ((apL l r sw).zip (apR l r sw)).Perm (l.zip r) := by
  unfold apL apR
  by_cases h : canSwap l r sw = true
  · rw [if_pos h, if_pos h]
    unfold canSwap at h
    simp only [Bool.and_eq_true, decide_eq_true_eq] at h
    exact zip_swaps sw l r h.1 h.2
  · rw [if_neg h, if_neg h]

/-- Swaps between the places i and e turn nothing outside. -/
theorem swaps_out : ∀ (sw : List Pv) (l : List Int) (i e : Nat), e ≤ l.length → (∀ q ∈ sw, (i : Int) ≤ q.1 ∧ q.1 < q.2 ∧ q.2 < (e : Int)) → ∀ k, k < i ∨ e ≤ k → (swaps l sw).getD k 0 = l.getD k 0
  | [], l, i, e, _, _, k, _ => rfl
  | p :: ps, l, i, e, he, h, k, hk => by
    have h1 := h p (by simp)
    rw [swaps, swaps_out ps _ i e (by rw [swapAt_length]; exact he) (fun q hq => h q (by simp [hq])) k hk, swapAt_getD _ _ _ _ (by omega) (by omega), if_neg (by omega), if_neg (by omega)]

/-- .. and what lies inside comes from inside. -/
theorem swaps_in : ∀ (sw : List Pv) (l : List Int) (i e : Nat), e ≤ l.length → (∀ q ∈ sw, (i : Int) ≤ q.1 ∧ q.1 < q.2 ∧ q.2 < (e : Int)) → ∀ k, i ≤ k → k < e → ∃ k', i ≤ k' ∧ k' < e ∧ (swaps l sw).getD k 0 = l.getD k' 0
  | [], l, i, e, _, _, k, h1, h2 => ⟨k, h1, h2, rfl⟩
  | p :: ps, l, i, e, he, h, k, hk1, hk2 => by
    have h1 := h p (by simp)
    obtain ⟨k', g1, g2, g3⟩ := swaps_in ps (swapAt l p.1.toNat p.2.toNat) i e (by rw [swapAt_length]; exact he) (fun q hq => h q (by simp [hq])) k hk1 hk2
    rw [swaps, g3, swapAt_getD _ _ _ _ (by omega) (by omega)]
    split
    · exact ⟨_, by omega, by omega, rfl⟩
    · split
      · exact ⟨_, by omega, by omega, rfl⟩
      · exact ⟨_, g1, g2, rfl⟩

theorem part_congr (p : Int) : ∀ (f i e : Nat) (l l' : List Int), (∀ k, i ≤ k → k < e → l.getD k 0 = l'.getD k 0) → part l p f i e = part l' p f i e
  | 0, _, _, _, _, _ => rfl
  | f + 1, i, e, l, l', h => by
    by_cases hie : i < e
    · rw [part_step _ _ _ _ _ hie, part_step _ _ _ _ _ hie, h i (Nat.le_refl _) hie, h (e - 1) (by omega) (by omega), part_congr p f (i + 1) e l l' (fun k h1 h2 => h k (by omega) h2), part_congr p f i (e - 1) l l' (fun k h1 h2 => h k h1 (by omega)), part_congr p f (i + 1) (e - 1) l l' (fun k h1 h2 => h k (by omega) (by omega))]
    · rw [part_stop _ _ _ _ _ hie, part_stop _ _ _ _ _ hie]

/-- A partition's swaps leave the smaller elements in front of its place. -/
theorem part_div (p : Int) : ∀ (f i e : Nat) (l : List Int), e - i ≤ f → e ≤ l.length → ∀ k, i ≤ k → k < e → ((swaps l (part l p f i e).1).getD k 0 < p ↔ k < (part l p f i e).2)
  | 0, i, e, l, hf, he, k, h1, h2 => by omega
  | f + 1, i, e, l, hf, he, k, h1, h2 => by
    have hie : i < e := by omega
    rw [part_step _ _ _ _ _ hie]
    by_cases c1 : l.getD i 0 < p
    · rw [if_pos c1]
      obtain ⟨n1, n2, n3, n4⟩ := part_nums l p f (i + 1) e
      by_cases hk : k = i
      · subst hk
        rw [swaps_out _ l (k + 1) e he n1 k (.inl (by omega))]
        exact ⟨fun _ => by omega, fun _ => c1⟩
      · exact part_div p f (i + 1) e l (by omega) he k (by omega) h2
    · rw [if_neg c1]
      by_cases c2 : p ≤ l.getD (e - 1) 0
      · rw [if_pos c2]
        obtain ⟨n1, n2, n3, n4⟩ := part_nums l p f i (e - 1)
        by_cases hk : k = e - 1
        · subst hk
          rw [swaps_out _ l i (e - 1) (by omega) n1 (e - 1) (.inr (Nat.le_refl _))]
          exact ⟨fun h => by omega, fun h => by omega⟩
        · exact part_div p f i (e - 1) l (by omega) (by omega) k h1 (by omega)
      · rw [if_neg c2]
        obtain ⟨n1, n2, n3, n4⟩ := part_nums l p f (i + 1) (e - 1)
        have hl' : (swapAt l i (e - 1)).length = l.length := swapAt_length _ _ _
        have hg := fun k => swapAt_getD l i (e - 1) k (by omega) (by omega)
        by_cases hie2 : i = e - 1
        · exfalso; rw [← hie2] at c2; omega
        have hc := part_congr p f (i + 1) (e - 1) l (swapAt l i (e - 1)) (fun k q1 q2 => by rw [hg k, if_neg (by omega), if_neg (by omega)])
        simp only [swaps]
        rw [show ((i : Int)).toNat = i by omega, show ((e : Int) - 1).toNat = e - 1 by omega]
        by_cases hk1 : k = i
        · subst hk1
          rw [swaps_out _ _ (k + 1) (e - 1) (by omega) n1 k (.inl (by omega)), hg k, if_neg (by omega), if_pos rfl]
          exact ⟨fun _ => by omega, fun _ => by omega⟩
        · by_cases hk2 : k = e - 1
          · subst hk2
            rw [swaps_out _ _ (i + 1) (e - 1) (by omega) n1 (e - 1) (.inr (Nat.le_refl _)), hg (e - 1), if_pos rfl]
            exact ⟨fun h => by omega, fun h => by omega⟩
          · rw [hc]
            exact part_div p f (i + 1) (e - 1) (swapAt l i (e - 1)) (by omega) (by omega) k (by omega) (by omega)

/-- The swaps go inward. -/
theorem part_inward (l : List Int) (p : Int) : ∀ (f i e : Nat), (part l p f i e).1.Pairwise fun a b => a.1 < b.1 ∧ b.2 < a.2
  | 0, _, _ => by simp [part]
  | f + 1, i, e => by
    by_cases hie : i < e
    · rw [part_step _ _ _ _ _ hie]
      split
      · exact part_inward l p f _ _
      · split
        · exact part_inward l p f _ _
        · obtain ⟨n1, -⟩ := part_nums l p f (i + 1) (e - 1)
          refine List.pairwise_cons.2 ⟨fun q hq => ?_, part_inward l p f _ _⟩
          have := n1 q hq
          exact ⟨by omega, by omega⟩
    · rw [part_stop _ _ _ _ _ hie]; simp

/-- Pivots that fit stand in the order of their values. -/
theorem fits_mono {l : List Int} {V A V' A' : Int} (h : Fits l V A) (h' : Fits l V' A') (hv : V ≤ V') : A ≤ A' := by
  obtain ⟨a1, a2, a3⟩ := h
  obtain ⟨b1, b2, b3⟩ := h'
  by_cases hc : A ≤ A'
  · exact hc
  · exfalso
    have h1 := (a3 A'.toNat (by omega)).2 (by omega)
    have h2 := (b3 A'.toNat (by omega)).1 (by omega)
    omega

theorem fnd_no : ∀ {ps : List Pv} {v : Int}, (fndP ps v).2 = false → ∀ q ∈ ps, q.1 ≠ v
  | [], _, _, q, hq => by simp at hq
  | p :: ps, v, h, q, hq => by
    rw [fndP] at h
    split at h
    · simp at h
    · rcases List.mem_cons.1 hq with rfl | hq
      · assumption
      · exact fnd_no h q hq

theorem fnd_app : ∀ (a b : List Pv) (v : Int), fndP (a ++ b) v = if (fndP a v).2 = true then fndP a v else fndP b v
  | [], b, v => by simp [fndP]
  | p :: a, b, v => by
    by_cases h : p.1 = v
    · simp [fndP, h]
    · have e1 : fndP (p :: (a ++ b)) v = fndP (a ++ b) v := by rw [fndP, if_neg h]
      have e2 : fndP (p :: a) v = fndP a v := by rw [fndP, if_neg h]
      rw [List.cons_append, e1, e2]
      exact fnd_app a b v

theorem fnd_ins {ps : List Pv} {p : Pv} {f : Int} (h : p.1 ≠ f) : fndP (adIn ps p) f = fndP ps f := by
  unfold adIn insAt
  conv => rhs; rw [← List.take_append_drop (behind ps p.1) ps]
  rw [fnd_app, fnd_app, fndP, if_neg h]

theorem fnd_ins' {ps : List Pv} {p : Pv} (h : (fndP ps p.1).2 = false) : fndP (adIn ps p) p.1 = (p.2, true) := by
  unfold adIn insAt
  have h1 : ¬ (fndP (ps.take (behind ps p.1)) p.1).2 = true := by
    intro h2
    have h3 := fnd_app (ps.take (behind ps p.1)) (ps.drop (behind ps p.1)) p.1
    rw [List.take_append_drop, if_pos h2] at h3
    rw [h3] at h
    rw [h] at h2; simp at h2
  rw [fnd_app, if_neg h1, fndP, if_pos rfl]

theorem Asc.cons {p : Pv} {ps : List Pv} (h : Asc (p :: ps)) : (∀ q ∈ ps, p.1 < q.1) ∧ Asc ps := List.pairwise_cons.1 h

theorem lo_spec {l : List Int} {v : Int} : ∀ (ps : List Pv) (a : Int), Asc ps → (∀ q ∈ ps, Fits l q.1 q.2) → (∀ q ∈ ps, q.1 ≠ v) → (0 ≤ a ∧ a ≤ l.length ∧ (∀ i (h : i < l.length), (i : Int) < a → l[i] < v) ∧ ∀ q ∈ ps, a ≤ q.2) →
    (0 ≤ loP ps v a ∧ loP ps v a ≤ l.length ∧ (∀ i (h : i < l.length), (i : Int) < loP ps v a → l[i] < v)) ∧ a ≤ loP ps v a ∧ ∀ q ∈ ps, q.1 < v → q.2 ≤ loP ps v a
  | [], a, _, _, _, h => ⟨⟨h.1, h.2.1, h.2.2.1⟩, Int.le_refl _, by simp⟩
  | p :: ps, a, hs, hf, hn, h => by
    obtain ⟨s1, s2⟩ := hs.cons
    have hp := hf p (by simp)
    have hpn := hn p (by simp)
    rw [loP]
    by_cases hc : p.1 ≤ v
    · rw [if_pos hc]
      obtain ⟨g1, g2, g3⟩ := lo_spec ps p.2 s2 (fun q hq => hf q (by simp [hq])) (fun q hq => hn q (by simp [hq]))
        ⟨hp.1, hp.2.1, fun i hi hlt => by have := (hp.2.2 i hi).2 hlt; omega, fun q hq => fits_mono hp (hf q (by simp [hq])) (by have := s1 q hq; omega)⟩
      refine ⟨g1, by have := h.2.2.2 p (by simp); omega, fun q hq hv => ?_⟩
      rcases List.mem_cons.1 hq with rfl | hq
      · exact g2
      · exact g3 q hq hv
    · rw [if_neg hc]
      obtain ⟨g1, g2, g3⟩ := lo_spec ps a s2 (fun q hq => hf q (by simp [hq])) (fun q hq => hn q (by simp [hq]))
        ⟨h.1, h.2.1, h.2.2.1, fun q hq => h.2.2.2 q (by simp [hq])⟩
      refine ⟨g1, g2, fun q hq hv => ?_⟩
      rcases List.mem_cons.1 hq with rfl | hq
      · omega
      · exact g3 q hq hv

theorem hi_spec {l : List Int} {v : Int} : ∀ (ps : List Pv), Asc ps → (∀ q ∈ ps, Fits l q.1 q.2) → (∀ q ∈ ps, q.1 ≠ v) →
    (0 ≤ hiP ps v l.length ∧ hiP ps v l.length ≤ l.length ∧ (∀ i (h : i < l.length), hiP ps v l.length ≤ (i : Int) → v ≤ l[i])) ∧ ∀ q ∈ ps, v < q.1 → hiP ps v l.length ≤ q.2
  | [], _, _, _ => ⟨⟨by simp [hiP], by simp [hiP], fun i h hle => by simp [hiP] at hle; omega⟩, by simp⟩
  | p :: ps, hs, hf, hn => by
    obtain ⟨s1, s2⟩ := hs.cons
    have hp := hf p (by simp)
    have hpn := hn p (by simp)
    rw [hiP]
    by_cases hc : v ≤ p.1
    · rw [if_pos hc]
      refine ⟨⟨hp.1, hp.2.1, fun i hi hle => ?_⟩, fun q hq hv => ?_⟩
      · have := hp.2.2 i hi
        by_cases h2 : l[i] < p.1
        · have := this.1 h2; omega
        · omega
      · rcases List.mem_cons.1 hq with rfl | hq
        · exact Int.le_refl _
        · exact fits_mono hp (hf q (by simp [hq])) (by have := s1 q hq; omega)
    · rw [if_neg hc]
      obtain ⟨g1, g2⟩ := hi_spec ps s2 (fun q hq => hf q (by simp [hq])) (fun q hq => hn q (by simp [hq]))
      refine ⟨g1, fun q hq hv => ?_⟩
      rcases List.mem_cons.1 hq with rfl | hq
      · omega
      · exact g2 q hq hv

theorem rowsOk_nodup {r : List Int} : RowsOk r ↔ (∀ x ∈ r, 0 ≤ x ∧ x ≤ 999) ∧ r.Nodup := by
  constructor
  · intro h
    refine ⟨fun x hx => ?_, List.pairwise_iff_getElem.2 fun i j hi hj hij => (h j hj).2.2 i hij⟩
    obtain ⟨i, hi, rfl⟩ := List.getElem_of_mem hx
    exact ⟨(h i hi).1, (h i hi).2.1⟩
  · rintro ⟨h1, h2⟩ i hi
    have h3 := h1 _ (List.getElem_mem hi)
    exact ⟨h3.1, h3.2, fun k hk => List.pairwise_iff_getElem.1 h2 k i (by omega) hi hk⟩

theorem areVals_perm {l m : List Int} (h : m.Perm l) : areVals m = areVals l := by
  unfold areVals
  rw [h.length_eq, h.all_eq]

/-- What a division does to a column that is divided. -/
structure Divided (l r : List Int) (ps : List Pv) (v : Int) (l' r' : List Int) (a b at' : Nat) : Prop where
  can : canSwap l r (crPt l r ps v).1 = true
  left : l' = swaps l (crPt l r ps v).1
  right : r' = swaps r (crPt l r ps v).1
  lo : (pieceP l r ps v).1 = a
  hi : (pieceP l r ps v).2 = b
  pl : (crPt l r ps v).2 = at'
  le : a ≤ at' ∧ at' ≤ b ∧ b ≤ l.length
  out : ∀ k, k < a ∨ b ≤ k → l'.getD k 0 = l.getD k 0 ∧ r'.getD k 0 = r.getD k 0
  ok : isCk l' r' (adIn ps (v, (at' : Int))) = true

theorem crack_divided {l r : List Int} {ps : List Pv} {v : Int} (h : crDiv l r ps v = true) :
    ∃ a b at' : Nat, Divided l r ps v (swaps l (crPt l r ps v).1) (swaps r (crPt l r ps v).1) a b at' := by
  unfold crDiv crOk at h
  simp only [Bool.and_eq_true, decide_eq_true_eq, Bool.not_eq_true'] at h
  obtain ⟨⟨hck, hv1, hv2⟩, hnf⟩ := h
  obtain ⟨c1, c2, c3, c4⟩ := isCk_parts hck
  obtain ⟨asc, fit⟩ := pvsOk_asc.1 c4
  have hne := fnd_no hnf
  obtain ⟨⟨l1, l2, l3⟩, -, l4⟩ := lo_spec ps 0 asc (fun q hq => (fit q hq).2.2) hne ⟨Int.le_refl _, by omega, fun i hi h => by omega, fun q hq => (fit q hq).2.2.1⟩
  obtain ⟨⟨g1, g2, g3⟩, g4⟩ := hi_spec (v := v) ps asc (fun q hq => (fit q hq).2.2) hne
  have hpc : pieceP l r ps v = (loP ps v 0, hiP ps v l.length) := by unfold pieceP; rw [if_pos ⟨hck, hv1, hv2⟩]
  obtain ⟨a, ha⟩ : ∃ a : Nat, loP ps v 0 = a := ⟨(loP ps v 0).toNat, by omega⟩
  obtain ⟨b, hb⟩ : ∃ b : Nat, hiP ps v l.length = b := ⟨(hiP ps v l.length).toNat, by omega⟩
  rw [ha] at l1 l2 l3 l4
  rw [hb] at g1 g2 g3 g4
  have hab : a ≤ b := by
    by_cases hc : a ≤ b
    · exact hc
    · have h1 := l3 b (by omega) (by omega)
      have h2 := g3 b (by omega) (by omega)
      omega
  have hpt : crPt l r ps v = ((part l v (b - a) a b).1, ((part l v (b - a) a b).2 : Int)) := by
    unfold crPt partP
    rw [hpc, ha, hb]
    simp only
    rw [if_pos (by omega)]
    simp only [Int.toNat_natCast]
    rw [show ((b : Int) - (a : Int)).toNat = b - a by omega]
  obtain ⟨n1, n2, n3, n4⟩ := part_nums l v (b - a) a b
  have hdiv := part_div v (b - a) a b l (Nat.le_refl _) (by omega)
  rw [hpt]
  simp only
  obtain ⟨sw, hsw⟩ : ∃ s, s = (part l v (b - a) a b).1 := ⟨_, rfl⟩
  obtain ⟨t, ht⟩ : ∃ s, s = (part l v (b - a) a b).2 := ⟨_, rfl⟩
  rw [← hsw, ← ht] at hpt hdiv
  rw [← hsw] at n1 n2 ⊢
  rw [← ht] at n3 n4
  have hall : sw.all (swOk l.length) = true := by
    rw [List.all_eq_true]
    intro q hq
    have := n1 q hq
    unfold swOk
    simp only [Bool.and_eq_true, decide_eq_true_eq]
    omega
  have hpl := swaps_perm sw l hall
  have hpr := swaps_perm sw r (by rw [c2]; exact hall)
  have houtl := swaps_out sw l a b (by omega) n1
  have hinl := swaps_in sw l a b (by omega) n1
  have hgl : ∀ i (hi : i < (swaps l sw).length), (swaps l sw)[i] = (swaps l sw).getD i 0 := fun i hi => by simp [List.getD_eq_getElem?_getD, List.getElem?_eq_getElem hi]
  have hg0 : ∀ i (hi : i < l.length), l[i] = l.getD i 0 := fun i hi => by simp [List.getD_eq_getElem?_getD, List.getElem?_eq_getElem hi]
  have hll := swaps_length l sw
  have fitv : Fits (swaps l sw) v t := by
    refine ⟨by omega, by omega, fun i hi => ?_⟩
    rw [hgl i hi]
    by_cases hi1 : i < a
    · rw [houtl i (.inl hi1), ← hg0 i (by omega)]
      exact ⟨fun _ => by omega, fun _ => l3 i (by omega) (by omega)⟩
    · by_cases hi2 : b ≤ i
      · rw [houtl i (.inr hi2), ← hg0 i (by omega)]
        have := g3 i (by omega) (by omega)
        exact ⟨fun h => by omega, fun h => by omega⟩
      · have := hdiv i (by omega) (by omega)
        rw [this]
        omega
  have fitq : ∀ q ∈ ps, Fits (swaps l sw) q.1 q.2 := by
    intro q hq
    obtain ⟨-, -, f1, f2, f3⟩ := fit q hq
    refine ⟨f1, by omega, fun i hi => ?_⟩
    rw [hgl i hi]
    by_cases hi1 : i < a ∨ b ≤ i
    · rw [houtl i hi1, ← hg0 i (by omega)]
      exact f3 i (by omega)
    · obtain ⟨k', k1, k2, k3⟩ := hinl i (by omega) (by omega)
      rw [k3, ← hg0 k' (by omega), f3 k' (by omega)]
      by_cases hqv : q.1 < v
      · have := l4 q hq hqv
        constructor <;> intro _ <;> omega
      · have := g4 q hq (by have := hne q hq; omega)
        constructor <;> intro _ <;> omega
  refine ⟨a, b, t, ⟨?_, by rw [hpt], by rw [hpt], by rw [hpc]; exact ha, by rw [hpc]; exact hb, by rw [hpt], ⟨by omega, by omega, by omega⟩, fun k hk => ⟨houtl k hk, ?_⟩, ?_⟩⟩
  · rw [hpt]
    unfold canSwap
    simp only [c2, decide_true, hall, Bool.and_self]
  · exact swaps_out sw r a b (by omega) n1 k hk
  · unfold isCk
    rw [areVals_perm hpl, c1]
    have r1 : RowsOk (swaps r sw) := by
      obtain ⟨q1, q2⟩ := rowsOk_nodup.1 c3
      exact rowsOk_nodup.2 ⟨fun x hx => q1 x (hpr.mem_iff.1 hx), hpr.nodup_iff.2 q2⟩
    have r2 : PvsOk (swaps l sw) (adIn ps (v, (t : Int))) := by
      refine pvsOk_asc.2 ⟨?_, ?_⟩
      · unfold adIn insAt Asc
        rw [List.pairwise_append, List.pairwise_cons]
        have d1 : ∀ x ∈ ps.take (behind ps v), x.1 < v := by
          intro x hx
          obtain ⟨k, hk, rfl⟩ := List.getElem_of_mem hx
          rw [List.length_take] at hk
          rw [List.getElem_take]
          have h1 := behind_before ps v k (by omega) (by omega)
          have h2 := hne _ (List.getElem_mem (show k < ps.length by omega))
          omega
        have d2 : ∀ x ∈ ps.drop (behind ps v), v < x.1 := by
          intro x hx
          obtain ⟨k, hk, rfl⟩ := List.getElem_of_mem hx
          rw [List.length_drop] at hk
          rw [List.getElem_drop]
          have h1 := behind_at ps v (by omega)
          cases k with
          | zero => exact h1
          | succ k =>
            have := List.pairwise_iff_getElem.1 asc (behind ps v) (behind ps v + (k + 1)) (by omega) (by omega) (by omega)
            omega
        refine ⟨asc.sublist (List.take_sublist _ _), ⟨fun x hx => d2 x hx, asc.sublist (List.drop_sublist _ _)⟩, fun x hx y hy => ?_⟩
        rcases List.mem_cons.1 hy with rfl | hy
        · exact d1 x hx
        · have := d1 x hx; have := d2 y hy; omega
      · intro q hq
        unfold adIn insAt at hq
        rcases List.mem_append.1 hq with hq | hq
        · have hq := List.mem_of_mem_take hq
          exact ⟨(fit q hq).1, (fit q hq).2.1, fitq q hq⟩
        · rcases List.mem_cons.1 hq with rfl | hq
          · exact ⟨by show -1001 < v; omega, hv2, fitv⟩
          · have hq := List.mem_of_mem_drop hq
            exact ⟨(fit q hq).1, (fit q hq).2.1, fitq q hq⟩
    rw [rowsOk_iff.2 r1, pvsOk_iff.2 r2, swaps_length, swaps_length, c2]
    simp

end Go.Proofs.YtajfhalalnlejaaGreat

/- Sorted lists of integers: the one that a list has, and what an insertion sort keeps (promise 4). -/
namespace Go.Proofs.YtajfhalalnlejaaGreat
set_option linter.unusedSimpArgs false
set_option linter.unusedVariables false

/-- The numbers in ascending order. -/
def sortL (l : List Int) : List Int := l.mergeSort fun x y => decide (x ≤ y)

theorem sortL_perm (l : List Int) : (sortL l).Perm l := List.mergeSort_perm _ _
theorem sortL_length (l : List Int) : (sortL l).length = l.length := (sortL_perm l).length_eq
theorem sortL_mem {l : List Int} {x : Int} : x ∈ sortL l ↔ x ∈ l := (sortL_perm l).mem_iff
theorem sortL_asc (l : List Int) : (sortL l).Pairwise (· ≤ ·) := by
  have h := List.pairwise_mergeSort (le := fun (x y : Int) => decide (x ≤ y)) (by intro a b c; simp; omega) (by intro a b; simp; omega) l
  exact h.imp (by intro a b h; simpa using h)
theorem sortL_eq {l m : List Int} (hp : m.Perm l) (hs : m.Pairwise (· ≤ ·)) : m = sortL l :=
  List.Perm.eq_of_pairwise (le := (· ≤ ·)) (fun a b _ _ h1 h2 => Int.le_antisymm h1 h2) hs (sortL_asc l) (hp.trans (sortL_perm l).symm)
theorem sortL_of_perm {l m : List Int} (hp : m.Perm l) : sortL m = sortL l := sortL_eq ((sortL_perm m).trans hp) (sortL_asc m)
theorem sortL_nil : sortL [] = [] := by simp [sortL]

/-- The first i are in order. -/
def SrtO (l : List Int) (i : Nat) (m : List Int) : Prop := ∃ S D, m = S ++ D ∧ (S.length = i ∨ m = []) ∧ S.Pairwise (· ≤ ·) ∧ m.Perm l

/-- The element at k is on its way down; without it the first i + 1 are in order. -/
def SrtI (l : List Int) (i k : Nat) (m : List Int) : Prop := ∃ A x B C, m = A ++ x :: (B ++ C) ∧ A.length = k ∧ A.length + B.length = i ∧ (A ++ B).Pairwise (· ≤ ·) ∧ (∀ b ∈ B, x ≤ b) ∧ m.Perm l

theorem SrtO.first (l : List Int) : SrtO l 1 l := by
  rcases l with _ | ⟨x, D⟩
  · exact ⟨[], [], rfl, .inr rfl, by simp, .refl _⟩
  · exact ⟨[x], D, rfl, .inl rfl, by simp, .refl _⟩

theorem SrtO.start {l m : List Int} {i : Nat} (h : SrtO l i m) (hi : i < m.length) : SrtI l i i m := by
  obtain ⟨S, D, rfl, h1, h2, h3⟩ := h
  have hS : S.length = i := by
    rcases h1 with h | h
    · exact h
    · rw [h] at hi; simp at hi
  rcases D with _ | ⟨x, D⟩
  · simp at hi; omega
  · exact ⟨S, x, [], D, by simp, hS, by simpa using hS, by simpa using h2, by simp, h3⟩

theorem SrtO.fin {l m : List Int} {i : Nat} (h : SrtO l i m) (hi : m.length ≤ i) : m = sortL l := by
  obtain ⟨S, D, rfl, h1, h2, h3⟩ := h
  have hD : D = [] := by
    rcases h1 with h | h
    · simp at hi
      exact List.eq_nil_of_length_eq_zero (by omega)
    · exact (List.append_eq_nil_iff.1 h).2
  subst hD
  simp only [List.append_nil] at h3 ⊢
  exact sortL_eq h3 h2

theorem last_split {A : List Int} {k : Nat} (h : A.length = k + 1) : ∃ A' y, A = A' ++ [y] ∧ A'.length = k := by
  rcases List.eq_nil_or_concat A with h0 | ⟨A', y, h0⟩
  · rw [h0] at h; simp at h
  · exact ⟨A', y, by rw [h0, List.concat_eq_append], by rw [h0] at h; simpa using h⟩

theorem SrtI.step {l m : List Int} {i k : Nat} (h : SrtI l i (k + 1) m) (hgt : m.getD (k + 1) 0 < m.getD k 0) : SrtI l i k (swapAt m k (k + 1)) := by
  obtain ⟨A, x, B, C, rfl, h1, h2, h3, h4, h5⟩ := h
  obtain ⟨A', y, rfl, hA⟩ := last_split h1
  subst hA
  have e1 : (A' ++ [y] ++ x :: (B ++ C)).getD A'.length 0 = y := by simp [List.getD]
  have e2 : (A' ++ [y] ++ x :: (B ++ C)).getD (A'.length + 1) 0 = x := by simp [List.getD, List.getElem?_append_right]
  rw [e1, e2] at hgt
  have e3 : swapAt (A' ++ [y] ++ x :: (B ++ C)) A'.length (A'.length + 1) = A' ++ x :: (y :: B ++ C) := by
    unfold swapAt
    rw [e1, e2]
    simp [List.set_append]
  rw [e3]
  refine ⟨A', x, y :: B, C, rfl, rfl, by simp at h2 ⊢; omega, by simpa using h3, ?_, ?_⟩
  · intro b hb
    rcases List.mem_cons.1 hb with rfl | hb
    · omega
    · exact h4 b hb
  · refine List.Perm.trans ?_ h5
    simp only [List.append_assoc, List.singleton_append, List.cons_append]
    exact (List.Perm.swap y x (B ++ C)).append_left A'

theorem SrtI.done {l m : List Int} {i k : Nat} (h : SrtI l i k m) (he : k = 0 ∨ ∃ j, k = j + 1 ∧ m.getD j 0 ≤ m.getD k 0) : SrtO l (i + 1) m := by
  obtain ⟨A, x, B, C, rfl, h1, h2, h3, h4, h5⟩ := h
  refine ⟨A ++ x :: B, C, by simp, .inl (by simp; omega), ?_, h5⟩
  rw [List.pairwise_append] at h3 ⊢
  obtain ⟨q1, q2, q3⟩ := h3
  refine ⟨q1, List.pairwise_cons.2 ⟨h4, q2⟩, ?_⟩
  intro a ha b hb
  rcases List.mem_cons.1 hb with rfl | hb
  · rcases he with he | ⟨j, he, hle⟩
    · have : A = [] := List.eq_nil_of_length_eq_zero (by omega)
      subst this; simp at ha
    · subst he
      obtain ⟨A', y, rfl, hA⟩ := last_split h1
      subst hA
      have e1 : (A' ++ [y] ++ b :: (B ++ C)).getD A'.length 0 = y := by simp [List.getD]
      have e2 : (A' ++ [y] ++ b :: (B ++ C)).getD (A'.length + 1) 0 = b := by simp [List.getD, List.getElem?_append_right]
      rw [e1, e2] at hle
      rcases List.mem_append.1 ha with ha | ha
      · rw [List.pairwise_append] at q1
        have := q1.2.2 a ha y (by simp)
        omega
      · rw [List.mem_singleton.1 ha]; exact hle
  · exact q3 a ha b hb

theorem SrtI.len {l m : List Int} {i k : Nat} (h : SrtI l i k m) : m.length = l.length ∧ k < m.length ∧ k ≤ i := by
  obtain ⟨A, x, B, C, rfl, h1, h2, -, -, h5⟩ := h
  exact ⟨h5.length_eq, by simp; omega, by omega⟩

end Go.Proofs.YtajfhalalnlejaaGreat

/- SortInts of the reference: an insertion sort of a copy (promise 4). -/
namespace Go.Proofs.YtajfhalalnlejaaGreat
open Go.RowKit Go.ChangeShapes
set_option linter.unusedSimpArgs false
set_option linter.unusedVariables false
set_option maxRecDepth 100000

/-- Integers of the call's own are returned; nothing that was there has turned. -/
def RetOw (w : World) (l : List Int) (e : Ending) (w' : World) : Prop := ∃ v hi, e = .returned v ∧ Ow w' v l w.heap.size hi ∧ Below w.heap.size w w'

theorem Ow.at {w : World} {a : Option Addr} {n c lo hi : Nat} {l : List Int} (h : Ow w (.slice a n c) l lo hi) (h0 : 0 < l.length) :
    ∃ g, a = some ⟨g, 0, none⟩ ∧ ∀ j (hj : j < l.length), w.cell? ⟨g, j, none⟩ = some (.int .i64 l[j]) := by
  obtain ⟨⟨F, ⟨o, rfl⟩, hF⟩, hle, htop⟩ := h
  have o2 := o
  rcases o2.2 with ⟨e, hn⟩ | ⟨g, cap', cur, e, -⟩
  · exfalso; omega
  · injection e with e1 e2 e3
    subst e1
    exact ⟨g, rfl, fun j hj => (o.cell j hj).1⟩

set_option maxHeartbeats 4000000 in
theorem sSort_any (a : Option Addr) (c : Nat) (l : List Int) (w : World) (B : Nat) (h : Ints w B (.slice a l.length c) l) (hn : a = none → c = 0) (hB : B ≤ w.heap.size) (hl : l.length ≤ 1048576) :
    Calls Tryz.prog 90 #[.slice a l.length c] w (RetOw w (sortL l)) := by
  have H := hide (h.below (below1 w (.cells #[] 3)) hB)
  obtain ⟨i0, hi0, hi1, hi2, hi3⟩ := info_parts infoI
  have HI := hide (And.intro hi0 (And.intro hi1 (And.intro hi2 hi3)))
  have hz : a = none → l.length = 0 ∧ c = 0 := fun e => ⟨by subst e; exact ints_nil h, hn e⟩
  have HZ := hide hz
  clear h hi0 hi1 hi2 hi3 hn hz
  obtain ⟨L, hL⟩ : ∃ L, L = l.length := ⟨_, rfl⟩
  have HL := hide hL
  have hLb : L ≤ 1048576 := by rw [hL]; exact hl
  rw [← hL]
  clear hL
  go_enter Tryz.func90, Tryz.ntmps90
  go_wp2_with (first | (at_builtin; refine append_list (w.alloc (.cells #[] 3)) rfl _ _ 22 rfl w.heap.size 3 i0 _ 1 8 Tryz.underlying22 HI.out.1 HI.out.2.1 HI.out.2.2.1 HI.out.2.2.2 (by first | rfl | decide) (by decide) (by decide) _ rfl (World.ownsRow_made w #[] 0 (Nat.le_refl _) (by unfold maxLen; omega) rfl) w.heap.size rfl a L c (intVs l) rfl (fun h => by rw [HL.out]; exact HZ.out h) (by rw [HL.out]; simp [intVs]) (by have := ints_news H.out; exact this) (intVs_cell l) (by rw [HL.out]; exact hl) (by simp) ?_; intro v' W' hown hgr) | fail)
  have hb := hide (((Below.refl w.heap.size w).alloc (Nat.le_refl _) (.cells #[] 3)).grown hgr (by simp) (by intro k hk; cases hk; exact Nat.le_refl _))
  have O := Ow.of (lo := w.heap.size) (w' := W') (l := l) (v := v') (by unfold Is; rw [← HL.out]; exact hown) hb.out.size
  obtain ⟨a', c', rfl⟩ := O.form
  rw [← HL.out] at O
  have O := hide O
  obtain ⟨hi, hhi⟩ : ∃ hi, hi = W'.heap.size := ⟨_, rfl⟩
  rw [← hhi] at O
  rw [← HL.out]
  clear hown hgr hhi 
  go_loopw [4] (fun x wr => ∃ (i : Nat) (m : List Int), 1 ≤ i ∧ x = .int .i64 i ∧ i ≤ L + 1 ∧ Hid (SrtO l i m) ∧ Hid (Ow wr (.slice a' L c') m w.heap.size hi) ∧ Hid (Below w.heap.size w wr)) (fun x _ => L + 1 - (intOf x).toNat)
  case atStart => exact ⟨1, l, Nat.le_refl _, rfl, by omega, SrtO.first l, O.out, hb.out⟩
  case round =>
    obtain ⟨i, m, hi1, rfl, hiL, hm, o, hb'⟩ := hrel
    clear O hb
    have hlen := hide (show m.length = L by
      obtain ⟨S, D, rfl, -, -, h5⟩ := hm.out
      rw [HL.out]; exact h5.length_eq)
    by_cases hlt : i < L
    · have HII := hide (hm.out.start (by rw [hlen.out]; exact hlt))
      clear hm
      go_wp2_with fail
      go_loopw [5] (fun x wi => ∃ (k : Nat) (n : List Int), x = .int .i64 k ∧ Hid (SrtI l i k n) ∧ Hid (Ow wi (.slice a' L c') n w.heap.size hi) ∧ Hid (Below w.heap.size w wi)) (fun x _ => (intOf x).toNat)
      case atStart => exact ⟨i, m, rfl, HII.out, o.out, hb'.out⟩
      case round =>
        obtain ⟨k, n, rfl, hI, o2, hb2⟩ := hrel
        clear o hb' HII
        have hll := hI.out.len
        have HN := hide (show n.length = L by rw [hll.1, HL.out])
        have hkn : k < L := by have := hll.2.1; rw [HN.out] at this; exact this
        have hki := hll.2.2
        clear hll
        by_cases hk0 : k = 0
        · subst hk0
          have hd := hide (hI.out.done (.inl rfl))
          clear hI
          go_wp2_with fail
          go_quiet (fail)
          go_wp2_with fail
          go_roundw
          case rel => exact ⟨i + 1, n, by omega, by go_num, by omega, hd.out, o2.out.below (below_drewN (Below.refl _ _) _), below_drewN hb2.out _⟩
          case measure => simp [intOf]; omega
        · obtain ⟨k, rfl⟩ : ∃ k', k = k' + 1 := ⟨k - 1, by omega⟩
          have t1 : decide (0 < k + 1) = true := by simp
          obtain ⟨g, rfl, hc⟩ := o2.out.at (by rw [HN.out]; omega)
          have e0 := hc k (by rw [HN.out]; omega)
          have e1 := hc (k + 1) (by rw [HN.out]; exact hkn)
          obtain ⟨y, hy⟩ : ∃ y, y = n.getD k 0 := ⟨_, rfl⟩
          obtain ⟨x, hx⟩ : ∃ x, x = n.getD (k + 1) 0 := ⟨_, rfl⟩
          rw [show n[k]'(by rw [HN.out]; omega) = y by rw [hy]; simp [List.getD, show k < n.length by rw [HN.out]; omega]] at e0
          rw [show n[k + 1]'(by rw [HN.out]; exact hkn) = x by rw [hx]; simp [List.getD, show k + 1 < n.length by rw [HN.out]; exact hkn]] at e1
          have HY := hide hy
          have HX := hide hx
          clear hc hy hx hk0
          by_cases hgt : x < y
          · have t2 : decide (x < y) = true := by simp [hgt]
            have hs := hide (hI.out.step (by rw [← HX.out, ← HY.out]; exact hgt))
            clear hI hgt
            go_wp2_with fail
            go_quiet (fail)
            go_wp2_with fail
            go_at_call 123
            refine (sSwap_ow _ n w.heap.size hi k (k + 1) _ (o2.out.below (below_drewN (Below.refl _ _) _)) (by rw [HN.out]; omega) (by rw [HN.out]; exact hkn)).mono ?_
            rintro e w3 ⟨⟨u, rfl⟩, o3, sg⟩
            have O3 := hide o3
            have B3 := hide ((below_drewN hb2.out _).trans sg.below)
            clear o3 sg
            go_wp2_with fail
            go_roundw
            case rel => exact ⟨k, swapAt n k (k + 1), by go_num, hs.out, O3.out, B3.out⟩
            case measure => simp [intOf]
          · have t2 : decide (x < y) = false := by simp [hgt]
            have hd := hide (hI.out.done (.inr ⟨k, rfl, by rw [← HX.out, ← HY.out]; omega⟩))
            clear hI hgt
            go_wp2_with fail
            go_quiet (fail)
            go_wp2_with fail
            go_roundw
            case rel => exact ⟨i + 1, n, by omega, by go_num, by omega, hd.out, o2.out.below (below_drewN (Below.refl _ _) _), below_drewN hb2.out _⟩
            case measure => simp [intOf]; omega
    · have hf := hide (hm.out.fin (by rw [hlen.out]; omega))
      rw [hf.out] at o
      go_wp2_with fail
      go_ret
      exact ⟨_, _, rfl, o.out, hb'.out⟩

end Go.Proofs.YtajfhalalnlejaaGreat

/- What dividing does to a column: it stays valid and the same pairs, the value is a pivot then, and once more does nothing; dividing at both ends of a range (promises 3 and 4). -/
namespace Go.Proofs.YtajfhalalnlejaaGreat
open Go.RowKit Go.ChangeShapes
set_option linter.unusedSimpArgs false
set_option linter.unusedVariables false
set_option maxRecDepth 100000

theorem crack_eqs {l r : List Int} {ps : List Pv} {v : Int} (h : crDiv l r ps v = true) :
    ∃ a b t : Nat, Divided l r ps v (crL l r ps v) (crR l r ps v) a b t ∧ crP l r ps v = adIn ps (v, (t : Int)) ∧ crS l r ps v = (crPt l r ps v).1 := by
  obtain ⟨a, b, t, d⟩ := crack_divided h
  have e1 : crL l r ps v = swaps l (crPt l r ps v).1 := by unfold crL apL; rw [if_pos h, if_pos d.can]
  have e2 : crR l r ps v = swaps r (crPt l r ps v).1 := by unfold crR apR; rw [if_pos h, if_pos d.can]
  refine ⟨a, b, t, by rw [e1, e2]; exact d, ?_, by unfold crS; rw [if_pos h]⟩
  unfold crP adP
  rw [if_pos h]
  have e3 : apL l r (crPt l r ps v).1 = swaps l (crPt l r ps v).1 := by unfold apL; rw [if_pos d.can]
  have e4 : apR l r (crPt l r ps v).1 = swaps r (crPt l r ps v).1 := by unfold apR; rw [if_pos d.can]
  rw [e3, e4, d.pl, if_pos (show adOk _ _ ps (v, (t : Int)) = true from d.ok)]

theorem crack_none {l r : List Int} {ps : List Pv} {v : Int} (h : ¬ crDiv l r ps v = true) : crL l r ps v = l ∧ crR l r ps v = r ∧ crP l r ps v = ps ∧ crS l r ps v = [] := by
  unfold crL crR crP crS
  rw [if_neg h, if_neg h, if_neg h, if_neg h]
  exact ⟨rfl, rfl, rfl, rfl⟩

theorem crack_isCk {l r : List Int} {ps : List Pv} {v : Int} (h : isCk l r ps = true) : isCk (crL l r ps v) (crR l r ps v) (crP l r ps v) = true := by
  by_cases hd : crDiv l r ps v = true
  · obtain ⟨a, b, t, d, e, -⟩ := crack_eqs hd
    rw [e]; exact d.ok
  · obtain ⟨e1, e2, e3, -⟩ := crack_none hd
    rw [e1, e2, e3]; exact h

theorem crack_found {l r : List Int} {ps : List Pv} {v : Int} (h : crOk l r ps v = true) : (fndP (crP l r ps v) v).2 = true := by
  by_cases hd : crDiv l r ps v = true
  · obtain ⟨a, b, t, d, e, -⟩ := crack_eqs hd
    rw [e]
    have hn : (fndP ps v).2 = false := by
      unfold crDiv at hd
      simp only [Bool.and_eq_true, Bool.not_eq_true'] at hd
      exact hd.2
    have := fnd_ins' (p := (v, (t : Int))) hn
    simp only at this
    rw [this]
  · rw [(crack_none hd).2.2.1]
    unfold crDiv at hd
    rw [h] at hd
    simpa using hd

theorem crack_keeps {l r : List Int} {ps : List Pv} {v f : Int} (h : (fndP ps f).2 = true) : fndP (crP l r ps v) f = fndP ps f := by
  by_cases hd : crDiv l r ps v = true
  · obtain ⟨a, b, t, d, e, -⟩ := crack_eqs hd
    rw [e]
    refine fnd_ins (p := (v, (t : Int))) ?_
    intro hv
    simp only at hv
    subst hv
    unfold crDiv at hd
    rw [h] at hd
    simp at hd
  · rw [(crack_none hd).2.2.1]

theorem crack_zip (l r : List Int) (ps : List Pv) (v : Int) : ((crL l r ps v).zip (crR l r ps v)).Perm (l.zip r) := by
  unfold crL crR
  by_cases hd : crDiv l r ps v = true
  · rw [if_pos hd, if_pos hd]; exact zip_ap _ _ _
  · rw [if_neg hd, if_neg hd]

theorem crack_again {l r : List Int} {ps : List Pv} {v : Int} (h : crOk l r ps v = true) : ¬ crDiv (crL l r ps v) (crR l r ps v) (crP l r ps v) v = true := by
  unfold crDiv
  rw [crack_found h]
  simp

/-- There are at most as many pivots as there are bounds. -/
theorem pvs_len {l : List Int} {ps : List Pv} (h : PvsOk l ps) : ps.length ≤ 2001 := by
  have low : ∀ k (hk : k < ps.length), -1000 + (k : Int) ≤ ps[k].1 := by
    intro k
    induction k with
    | zero =>
      intro hk
      have := (h 0 hk).1
      simp only [prevV, if_true] at this
      omega
    | succ k ih =>
      intro hk
      have h1 := (h (k + 1) hk).1
      rw [prevV_succ ps k (by omega)] at h1
      have := ih (by omega)
      omega
  by_cases hc : ps.length ≤ 2001
  · exact hc
  · have h1 := low 2001 (by omega)
    have h2 := (h 2001 (by omega)).2.1
    omega

/-- Both ends of a range: whether the column is divided there. -/
noncomputable def seOk (l r : List Int) (ps : List Pv) (f t : Int) : Bool := isCk l r ps && isR f t
noncomputable def seL (l r : List Int) (ps : List Pv) (f t : Int) : List Int := if seOk l r ps f t = true then crL (crL l r ps f) (crR l r ps f) (crP l r ps f) t else l
noncomputable def seR (l r : List Int) (ps : List Pv) (f t : Int) : List Int := if seOk l r ps f t = true then crR (crL l r ps f) (crR l r ps f) (crP l r ps f) t else r
noncomputable def seP (l r : List Int) (ps : List Pv) (f t : Int) : List Pv := if seOk l r ps f t = true then crP (crL l r ps f) (crR l r ps f) (crP l r ps f) t else ps
noncomputable def seF (l r : List Int) (ps : List Pv) (f t : Int) : Int := if seOk l r ps f t = true then (fndP (seP l r ps f t) f).1 else 0
noncomputable def seT (l r : List Int) (ps : List Pv) (f t : Int) : Int := if seOk l r ps f t = true then (fndP (seP l r ps f t) t).1 else 0
noncomputable def seN (l r : List Int) (ps : List Pv) (f t : Int) : Nat := if seOk l r ps f t = true then (crS l r ps f).length + (crS (crL l r ps f) (crR l r ps f) (crP l r ps f) t).length else 0

theorem crOk_of {l r : List Int} {ps : List Pv} {v : Int} (h : isCk l r ps = true) (h1 : -1000 ≤ v) (h2 : v ≤ 1000) : crOk l r ps v = true := by
  unfold crOk
  rw [h, decide_eq_true ⟨h1, h2⟩]; rfl

/-- The second division leaves the pivot of the first one at its place. -/
theorem se_first {l r : List Int} {ps : List Pv} {f t : Int} (h : seOk l r ps f t = true) : (fndP (crP l r ps f) f).1 = seF l r ps f t := by
  unfold seF seP
  rw [if_pos h, if_pos h]
  unfold seOk at h
  simp only [Bool.and_eq_true] at h
  have hr := isR_true h.2
  rw [crack_keeps (crack_found (crOk_of h.1 hr.1 hr.2.1))]

theorem se_isCk {l r : List Int} {ps : List Pv} {f t : Int} (h : isCk l r ps = true) : isCk (seL l r ps f t) (seR l r ps f t) (seP l r ps f t) = true := by
  unfold seL seR seP
  by_cases hs : seOk l r ps f t = true
  · rw [if_pos hs, if_pos hs, if_pos hs]; exact crack_isCk (crack_isCk h)
  · rw [if_neg hs, if_neg hs, if_neg hs]; exact h

theorem se_zip (l r : List Int) (ps : List Pv) (f t : Int) : ((seL l r ps f t).zip (seR l r ps f t)).Perm (l.zip r) := by
  unfold seL seR
  by_cases hs : seOk l r ps f t = true
  · rw [if_pos hs, if_pos hs]; exact (crack_zip _ _ _ _).trans (crack_zip _ _ _ _)
  · rw [if_neg hs, if_neg hs]

/-- What a column of the call's own needs. -/
def Wf (l r : List Int) (ps : List Pv) (n : Nat) : Prop := l.length ≤ 1048576 ∧ r.length ≤ 1048576 ∧ ps.length ≤ n ∧ (∀ x ∈ l, I64 x) ∧ (∀ x ∈ r, I64 x) ∧ ∀ p ∈ ps, I64 p.1 ∧ I64 p.2

theorem crack_Wf {l r : List Int} {ps : List Pv} {v : Int} {n : Nat} (h : Wf l r ps n) (hn : n ≤ 1048576) (hv : I64 v) : Wf (crL l r ps v) (crR l r ps v) (crP l r ps v) (n + 1) ∧ (crS l r ps v).length ≤ 1048576 ∧ ∀ p ∈ crS l r ps v, I64 p.1 ∧ I64 p.2 := by
  obtain ⟨h1, h2, h3, h4, h5, h6⟩ := h
  obtain ⟨q1, q2, q3, q4, q5, q6, q7, q8⟩ := crack_wf l r ps v h1 h2 (by omega) h4 h5 h6 hv
  refine ⟨⟨q1, q2, ?_, q4, q5, q6⟩, q7, q8⟩
  by_cases hd : crDiv l r ps v = true
  · obtain ⟨a, b, t, d, e, -⟩ := crack_eqs hd
    rw [e, adIn_length]; omega
  · rw [(crack_none hd).2.2.1]; omega

theorem wf_ck {l r : List Int} {ps : List Pv} {n : Nat} (h : Wf l r ps n) (hc : isCk l r ps = true) : Wf l r ps 2001 :=
  ⟨h.1, h.2.1, pvs_len (isCk_parts hc).2.2.2, h.2.2.2⟩

theorem se_Wf {l r : List Int} {ps : List Pv} {f t : Int} (h : Wf l r ps 1048576) (hf : I64 f) (ht : I64 t) : Wf (seL l r ps f t) (seR l r ps f t) (seP l r ps f t) 1048576 ∧ seN l r ps f t ≤ 2097152 := by
  unfold seL seR seP seN
  by_cases hs : seOk l r ps f t = true
  · rw [if_pos hs, if_pos hs, if_pos hs, if_pos hs]
    have hck : isCk l r ps = true := by unfold seOk at hs; simp only [Bool.and_eq_true] at hs; exact hs.1
    obtain ⟨w1, s1, -⟩ := crack_Wf (wf_ck h hck) (by omega) hf
    obtain ⟨w2, s2, -⟩ := crack_Wf w1 (by omega) ht
    exact ⟨⟨w2.1, w2.2.1, by have := w2.2.2.1; omega, w2.2.2.2⟩, by omega⟩
  · rw [if_neg hs, if_neg hs, if_neg hs, if_neg hs]
    exact ⟨h, by omega⟩

theorem fnd_wf {ps : List Pv} {v : Int} (h : ∀ p ∈ ps, I64 p.1 ∧ I64 p.2) : I64 (fndP ps v).1 := by
  induction ps with
  | nil => exact ⟨by simp [fndP], by simp [fndP]⟩
  | cons p ps ih =>
    rw [fndP]
    split
    · exact (h p (by simp)).2
    · exact ih fun q hq => h q (by simp [hq])

/-- A column of the call's own and three numbers are returned; nothing that was there has turned. -/
def RetSel (w : World) (l r : List Int) (ps : List Pv) (f t n : Int) (e : Ending) (w' : World) : Prop := ∃ x y z lo hi n1 h1 n2 h2 n3 h3, e = .returned (.tuple #[.agg #[x, y, z], .int .i64 f, .int .i64 t, .int .i64 n]) ∧ w.heap.size ≤ lo ∧ hi ≤ w'.heap.size ∧ OC w' x y z l r ps lo hi n1 h1 n2 h2 n3 h3 ∧ Below w.heap.size w w'

end Go.Proofs.YtajfhalalnlejaaGreat

/- slices.Sort of integers of the call's own, by the library's contract; SortInts of the program (promise 4). -/
namespace Go.Proofs
open Go.Shelf
shelf_lay Lays.n189 Nm 189 at Tryz as Tryz.laysSort
end Go.Proofs

namespace Go.Proofs.YtajfhalalnlejaaGreat
open Go.RowKit Go.ChangeShapes Go.Sort
set_option linter.unusedSimpArgs false
set_option linter.unusedVariables false
set_option maxRecDepth 100000

/-- What slices.Sort leaves of a row of the call's own. -/
def RetSo (w : World) (lo : Nat) (v : Value) (l : List Int) (e : Ending) (w' : World) : Prop := e = .returned (.tuple #[]) ∧ Is w' lo 3 v (sortL l) ∧ w.grownBy w' v.ownBlock

theorem sort_is (v : Value) (l : List Int) (lo : Nat) (w : World) (h : Is w lo 3 v l) (hl : l.length ≤ 1048576) :
    Calls Tryz.prog 133 #[v] w (RetSo w lo v l) := by
  rcases h.2 with ⟨rfl, hn⟩ | ⟨g, cap, cur, rfl, hg, hb, h1, h2, h3, h4⟩
  · have hl0 : l = [] := List.eq_nil_of_length_eq_zero hn
    subst hl0
    refine (Any.slices_Sort_int_none Tryz.laysSort none 0 w).mono ?_
    rintro e w' ⟨rfl, rfl⟩
    exact ⟨rfl, by rw [sortL_nil]; exact h, World.grownBy.refl _ _⟩
  · have hH : Holds (Value.int .i64) w g 0 l.toArray := holds_of_blockI hb (by simpa [intVs] using h4)
    have hlt := (Array.getElem?_eq_some_iff.1 hb).1
    have hc := calls_of_every_depth fun D => AnyS.slices_Sort_int_in Tryz.laysSort D g 0 cap l w hH hlt (by omega)
    refine Calls.mono hc ?_
    rintro e w' ⟨rfl, n, os, rfl⟩
    refine ⟨rfl, ?_, grownBy_sortedI _⟩
    have := ownsRow_sortedI (os := os) (n := n) (base := lo) (ss := l) (ts := sortL l) (sortL_length l) hg hb h1 h2 h3
    unfold Is
    rw [sortL_length]
    exact this

theorem iSort_any (a : Option Addr) (c : Nat) (l : List Int) (w : World) (B : Nat) (h : Ints w B (.slice a l.length c) l) (hn : a = none → c = 0) (hB : B ≤ w.heap.size) (hl : l.length ≤ 1048576) :
    Calls Tryz.prog 111 #[.slice a l.length c] w (RetIs 3 w (sortL l)) := by
  have HC := hide (clone_i a c l w B h hn hB hl)
  have HS := hide (fun (v : Value) (w1 : World) (O : Is w1 w.heap.size 3 v l) => sort_is v l w.heap.size w1 O hl)
  clear h hn
  obtain ⟨m, hm⟩ : ∃ m, m = sortL l := ⟨_, rfl⟩
  rw [← hm]
  have HM := hide hm
  clear hm
  go_enter Tryz.func111, Tryz.ntmps111
  go_wp2_with fail
  go_at_call 109
  refine HC.out.mono ?_
  rintro e w1 ⟨v, rfl, O, hb⟩
  go_wp2_with fail
  go_at_call 133
  refine (HS.out v w1 O).mono ?_
  rintro e w2 ⟨rfl, O2, hg⟩
  rw [← HM.out] at O2
  have hB2 := hb.grown hg hb.size (by
    intro k hk
    rcases O.2 with ⟨e, _⟩ | ⟨g, cap, cur, e, h1, _⟩
    · rw [e] at hk; simp [Value.ownBlock] at hk
    · rw [e] at hk; simp [Value.ownBlock] at hk; omega)
  go_wp2_with fail
  go_ret
  exact ⟨_, rfl, O2, hB2⟩

end Go.Proofs.YtajfhalalnlejaaGreat

/- RowsBetween: of the reference and of the program (promise 4). Written by gen_rbw.py. -/
namespace Go.Proofs.YtajfhalalnlejaaGreat
open Go.RowKit Go.ChangeShapes
set_option linter.unusedSimpArgs false
set_option linter.unusedVariables false
set_option maxRecDepth 100000

/-- Whether the rows between two places can be had, and which they are. -/
noncomputable def rbOk (l r : List Int) (ps : List Pv) (f t : Int) : Bool := isCk l r ps && decide (0 ≤ f ∧ f ≤ t ∧ t ≤ (r.length : Int))
noncomputable def rbL (l r : List Int) (ps : List Pv) (f t : Int) : List Int := if rbOk l r ps f t = true then sortL ((r.drop f.toNat).take (t.toNat - f.toNat)) else []

theorem rbL_no {l r : List Int} {ps : List Pv} {f t : Int} (h : ¬(isCk l r ps = true ∧ 0 ≤ f ∧ f ≤ t ∧ t ≤ (r.length : Int))) : rbL l r ps f t = [] := by
  unfold rbL rbOk
  rw [if_neg]
  intro h2
  simp only [Bool.and_eq_true, decide_eq_true_eq] at h2
  exact h ⟨h2.1, h2.2⟩

theorem rbL_yes {l r : List Int} {ps : List Pv} {m n : Nat} (h : isCk l r ps = true) (h1 : m ≤ n) (h2 : n ≤ r.length) : rbL l r ps (m : Int) (n : Int) = sortL ((r.drop m).take (n - m)) := by
  unfold rbL rbOk
  rw [if_pos (by simp [h]; omega)]
  simp

theorem rbL_mem {l r : List Int} {ps : List Pv} {f t : Int} : ∀ x ∈ rbL l r ps f t, x ∈ r := by
  intro x hx
  unfold rbL at hx
  split at hx
  · exact List.mem_of_mem_drop (List.mem_of_mem_take (sortL_mem.1 hx))
  · simp at hx

theorem rbL_le (l r : List Int) (ps : List Pv) (f t : Int) : (rbL l r ps f t).length ≤ r.length := by
  unfold rbL
  split
  · rw [sortL_length]; simp; omega
  · simp

/-- A part of integers that are only read. -/
theorem Ints.part {w : World} {B : Nat} {a : Option Addr} {c : Nat} {r : List Int} (h : Ints w B (.slice a r.length c) r) (m n : Nat) (hm : m ≤ n) (hn : n ≤ r.length) (a' : Option Addr) (c' : Nat) (ha' : m < n → a' = Option.map (fun x => x.add m) a) :
    Ints w B (.slice a' ((r.drop m).take (n - m)).length c') ((r.drop m).take (n - m)) := by
  obtain ⟨a0, c0, e, h1, h2, h3⟩ := h
  injection e with e1 e2 e3
  subst e1 e3
  have hl : ((r.drop m).take (n - m)).length = n - m := by simp; omega
  refine ⟨a', c', rfl, by rw [hl]; omega, fun x hx => h2 x (List.mem_of_mem_drop (List.mem_of_mem_take hx)), fun j hj => ?_⟩
  rw [hl] at hj
  obtain ⟨b1, o1, rfl, e2, e3⟩ := h3 (m + j) (by omega)
  refine ⟨b1, o1 + m, by rw [ha' (by omega)]; simp [addr_add], e2, ?_⟩
  rw [Nat.add_assoc]
  simpa using e3

theorem Ow.wide {w : World} {v : Value} {l : List Int} {lo hi lo' : Nat} (h : Ow w v l lo hi) (hl : lo' ≤ lo) : Ow w v l lo' hi := by
  obtain ⟨⟨F, h, hF⟩, h1, h2⟩ := h
  exact ⟨⟨F, h, fun b hb => ⟨Nat.le_trans hl (hF b hb).1, (hF b hb).2⟩⟩, Nat.le_trans hl h1, h2⟩

/-- Sorting a part of what is only read. -/
theorem sSubSort_any {a : Option Addr} {c : Nat} {r : List Int} {W : World} {B : Nat} (h : Ints W B (.slice a r.length c) r) (hB : B ≤ W.heap.size) (hr : r.length ≤ 1048576) (m n : Nat) (hm : m ≤ n) (hn : n ≤ r.length) (a' : Option Addr) (c' : Nat) (ha' : m < n → a' = Option.map (fun x => x.add m) a) (hz : a' = none → c' = 0) :
    Calls Tryz.prog 90 #[.slice a' (n - m) c'] W (RetOw W (sortL ((r.drop m).take (n - m)))) := by
  have hl : ((r.drop m).take (n - m)).length = n - m := by simp; omega
  have := sSort_any a' c' _ W B (h.part m n hm hn a' c' ha') hz hB (by rw [hl]; omega)
  rwa [hl] at this

theorem iSubSort_any {a : Option Addr} {c : Nat} {r : List Int} {W : World} {B : Nat} (h : Ints W B (.slice a r.length c) r) (hB : B ≤ W.heap.size) (hr : r.length ≤ 1048576) (m n : Nat) (hm : m ≤ n) (hn : n ≤ r.length) (a' : Option Addr) (c' : Nat) (ha' : m < n → a' = Option.map (fun x => x.add m) a) (hz : a' = none → c' = 0) :
    Calls Tryz.prog 111 #[.slice a' (n - m) c'] W (RetOw W (sortL ((r.drop m).take (n - m)))) := by
  have hl : ((r.drop m).take (n - m)).length = n - m := by simp; omega
  have := iSort_any a' c' _ W B (h.part m n hm hn a' c' ha') hz hB (by rw [hl]; omega)
  rw [hl] at this
  refine this.mono ?_
  rintro e w' ⟨v, rfl, O, hb⟩
  exact ⟨v, _, rfl, Ow.of O hb.size, hb⟩


set_option maxHeartbeats 4000000 in
theorem sRows_any (u : Value) (l r : List Int) (ps : List Pv) (f t : Int) (w : World) (B : Nat) (hv : Ck w B u l r ps) (hB : B ≤ w.heap.size) (hf : I64 f) (ht : I64 t) (hr : r.length ≤ 1048576) :
    Calls Tryz.prog 63 #[u, .int .i64 f, .int .i64 t] w (RetOw w (rbL l r ps f t)) := by
  obtain ⟨x, y, z, rfl, i1, i2, i3, k1, k2, k3⟩ := hv
  have hv : Ck w B (.agg #[x, y, z]) l r ps := ⟨x, y, z, rfl, i1, i2, i3, k1, k2, k3⟩
  obtain ⟨a1, c1, rfl⟩ := i1.form
  obtain ⟨a2, c2, rfl⟩ := i2.form
  obtain ⟨a3, c3, rfl⟩ := i3.form
  have hcap : r.length ≤ c2 ∧ (a2 = none → c2 = 0) := by
    obtain ⟨_, _, _, e, h1, h2⟩ := k2
    injection e with e1 e2 e3
    subst e1 e2 e3
    exact ⟨h1, h2⟩
  clear k1 k2 k3
  have X := hide (Kn.one w #[.slice a1 l.length c1, .slice a2 r.length c2, .slice a3 ps.length c3] 33)
  obtain ⟨w1, hw1⟩ : ∃ w1, w1 = w.alloc (.cells #[.slice a1 l.length c1, .slice a2 r.length c2, .slice a3 ps.length c3] 33) := ⟨_, rfl⟩
  rw [← hw1] at X
  have HI2 := hide (fun (W : World) (h : Below w.heap.size w W) => i2.below h hB)
  have HV := hide (fun (W : World) (h : Below w.heap.size w W) => hv.below h hB)
  clear i1 i2 i3 hv
  obtain ⟨L, hL⟩ : ∃ q, q = rbL l r ps f t := ⟨_, rfl⟩
  rw [← hL]
  have HL := hide hL
  clear hL
  obtain ⟨q, hq⟩ : ∃ q, q = isCk l r ps := ⟨_, rfl⟩
  have HQ := hide hq
  clear hq
  have d0 : w1.cell? ⟨w.heap.size, 0, none⟩ = some (.slice a1 l.length c1) := X.out.cell 0 0 rfl rfl
  have d1 : w1.cell? ⟨w.heap.size, 1, none⟩ = some (.slice a2 r.length c2) := X.out.cell 0 1 rfl rfl
  have d2 : w1.cell? ⟨w.heap.size, 2, none⟩ = some (.slice a3 ps.length c3) := X.out.cell 0 2 rfl rfl
  go_enter Tryz.func63, Tryz.ntmps63
  go_wp2_with fail
  rw [← hw1]
  clear hw1
  go_at_call 26
  refine (sIsCk_any _ l r ps _ B (HV.out _ X.out.below) (Nat.le_trans hB X.out.below.size)).mono ?_
  rintro e w2 ⟨rfl, hb⟩
  rw [← HQ.out]
  have X := hide (X.out.up hb)
  clear hb d0 d1 d2
  have nil := hide (fun (h : ¬(isCk l r ps = true ∧ 0 ≤ f ∧ f ≤ t ∧ t ≤ (r.length : Int))) => show L = [] by rw [HL.out]; exact rbL_no h)
  have d1 : w2.cell? ⟨w.heap.size, 1, none⟩ = some (.slice a2 r.length c2) := X.out.cell 0 1 rfl rfl
  cases q
  · have hn := hide (nil.out (fun h => by rw [← HQ.out] at h; simp at h))
    go_wp2_with fail
    go_ret
    rw [hn.out]
    exact ⟨_, _, rfl, (show Ow _ (.slice (some ⟨_, 0, none⟩) 0 0) [] _ _ from Ow.of (Is.made _ _ _ X.out.below.size) (by simp; exact Nat.le_succ_of_le X.out.below.size)), X.out.below.alloc X.out.below.size _⟩
  by_cases h1 : ¬(0 ≤ f ∧ f ≤ t)
  · have hn := hide (nil.out (fun h => h1 ⟨h.2.1, h.2.2.1⟩))
    go_wp2_with fail
    go_at_call 79
    refine (in_no f 0 t _ (by omega)).mono ?_
    rintro e wa ⟨rfl, rfl⟩
    clear h1
    go_wp2_with fail
    go_ret
    rw [hn.out]
    exact ⟨_, _, rfl, (show Ow _ (.slice (some ⟨_, 0, none⟩) 0 0) [] _ _ from Ow.of (Is.made _ _ _ X.out.below.size) (by simp; exact Nat.le_succ_of_le X.out.below.size)), X.out.below.alloc X.out.below.size _⟩
  have h1 : 0 ≤ f ∧ f ≤ t := by omega
  by_cases h3 : ¬(t ≤ (r.length : Int))
  · have hn := hide (nil.out (fun h => h3 h.2.2.2))
    have t3 : decide ((r.length : Int) < t) = true := by simp; omega
    go_wp2_with fail
    go_at_call 79
    refine (in_yes f 0 t _ h1.1 h1.2).mono ?_
    rintro e wa ⟨rfl, rfl⟩
    clear h1 h3
    go_wp2_with fail
    go_ret
    rw [hn.out]
    exact ⟨_, _, rfl, (show Ow _ (.slice (some ⟨_, 0, none⟩) 0 0) [] _ _ from Ow.of (Is.made _ _ _ X.out.below.size) (by simp; exact Nat.le_succ_of_le X.out.below.size)), X.out.below.alloc X.out.below.size _⟩
  have t3 : decide ((r.length : Int) < t) = false := by simp; omega
  obtain ⟨m, rfl⟩ : ∃ m : Nat, f = (m : Int) := ⟨f.toNat, by omega⟩
  obtain ⟨n, rfl⟩ : ∃ n : Nat, t = (n : Int) := ⟨t.toNat, by omega⟩
  have hmn : m ≤ n := by omega
  have hnr : n ≤ r.length := by omega
  have HE := hide (show L = sortL ((r.drop m).take (n - m)) by rw [HL.out]; exact rbL_yes HQ.out.symm hmn hnr)
  have HP := hide (fun (W : World) (h : Below w.heap.size w W) (a' : Option Addr) (c' : Nat) (q1 : m < n → a' = Option.map (fun x => x.add m) a2) (q2 : a' = none → c' = 0) => show Calls Tryz.prog 90 #[.slice a' (n - m) c'] W (RetOw W L) by rw [HE.out]; exact sSubSort_any (HI2.out W h) (Nat.le_trans hB h.size) hr m n hmn hnr a' c' q1 q2)
  clear HL nil HE
  go_wp2_with fail
  go_at_call 79
  refine (in_yes _ 0 _ _ (by omega) (by omega)).mono ?_
  rintro e wa ⟨rfl, rfl⟩
  go_wp2_with fail
  · go_at_call 90
    refine (HP.out _ X.out.below _ _ (fun h => by omega) (fun _ => rfl)).mono ?_
    rintro e w3 ⟨v, hi, rfl, O, hb⟩
    go_wp2_with fail
    go_ret
    exact ⟨_, _, rfl, O.wide X.out.below.size, X.out.below.trans (hb.mono X.out.below.size)⟩
  · go_at_call 90
    refine (HP.out _ X.out.below _ _ (fun _ => rfl) (fun h => by have := hcap.2 (by simpa using h); omega)).mono ?_
    rintro e w3 ⟨v, hi, rfl, O, hb⟩
    go_wp2_with fail
    go_ret
    exact ⟨_, _, rfl, O.wide X.out.below.size, X.out.below.trans (hb.mono X.out.below.size)⟩


set_option maxHeartbeats 4000000 in
theorem iRows_any (u : Value) (l r : List Int) (ps : List Pv) (f t : Int) (w : World) (B : Nat) (hv : Ck w B u l r ps) (hB : B ≤ w.heap.size) (hf : I64 f) (ht : I64 t) (hr : r.length ≤ 1048576) :
    Calls Tryz.prog 68 #[u, .int .i64 f, .int .i64 t] w (RetOw w (rbL l r ps f t)) := by
  obtain ⟨x, y, z, rfl, i1, i2, i3, k1, k2, k3⟩ := hv
  have hv : Ck w B (.agg #[x, y, z]) l r ps := ⟨x, y, z, rfl, i1, i2, i3, k1, k2, k3⟩
  obtain ⟨a1, c1, rfl⟩ := i1.form
  obtain ⟨a2, c2, rfl⟩ := i2.form
  obtain ⟨a3, c3, rfl⟩ := i3.form
  have hcap : r.length ≤ c2 ∧ (a2 = none → c2 = 0) := by
    obtain ⟨_, _, _, e, h1, h2⟩ := k2
    injection e with e1 e2 e3
    subst e1 e2 e3
    exact ⟨h1, h2⟩
  clear k1 k2 k3
  have X := hide (Kn.one w #[.slice a1 l.length c1, .slice a2 r.length c2, .slice a3 ps.length c3] 33)
  obtain ⟨w1, hw1⟩ : ∃ w1, w1 = w.alloc (.cells #[.slice a1 l.length c1, .slice a2 r.length c2, .slice a3 ps.length c3] 33) := ⟨_, rfl⟩
  rw [← hw1] at X
  have HI2 := hide (fun (W : World) (h : Below w.heap.size w W) => i2.below h hB)
  have HV := hide (fun (W : World) (h : Below w.heap.size w W) => hv.below h hB)
  clear i1 i2 i3 hv
  obtain ⟨L, hL⟩ : ∃ q, q = rbL l r ps f t := ⟨_, rfl⟩
  rw [← hL]
  have HL := hide hL
  clear hL
  obtain ⟨q, hq⟩ : ∃ q, q = isCk l r ps := ⟨_, rfl⟩
  have HQ := hide hq
  clear hq
  have d0 : w1.cell? ⟨w.heap.size, 0, none⟩ = some (.slice a1 l.length c1) := X.out.cell 0 0 rfl rfl
  have d1 : w1.cell? ⟨w.heap.size, 1, none⟩ = some (.slice a2 r.length c2) := X.out.cell 0 1 rfl rfl
  have d2 : w1.cell? ⟨w.heap.size, 2, none⟩ = some (.slice a3 ps.length c3) := X.out.cell 0 2 rfl rfl
  go_enter Tryz.func68, Tryz.ntmps68
  go_wp2_with fail
  rw [← hw1]
  clear hw1
  go_at_call 33
  refine (iIsCk_any _ l r ps _ B (HV.out _ X.out.below) (Nat.le_trans hB X.out.below.size)).mono ?_
  rintro e w2 ⟨rfl, hb⟩
  rw [← HQ.out]
  have X := hide (X.out.up hb)
  clear hb d0 d1 d2
  have nil := hide (fun (h : ¬(isCk l r ps = true ∧ 0 ≤ f ∧ f ≤ t ∧ t ≤ (r.length : Int))) => show L = [] by rw [HL.out]; exact rbL_no h)
  have d1 : w2.cell? ⟨w.heap.size, 1, none⟩ = some (.slice a2 r.length c2) := X.out.cell 0 1 rfl rfl
  cases q
  · have hn := hide (nil.out (fun h => by rw [← HQ.out] at h; simp at h))
    go_wp2_with fail
    go_ret
    rw [hn.out]
    exact ⟨_, _, rfl, Ow.nil X.out.below.size, X.out.below⟩
  by_cases h0 : f < 0
  · have hn := hide (nil.out (fun h => by omega))
    have t1 : decide (f < 0) = true := by simp; omega
    clear h0
    go_wp2_with fail
    go_ret
    rw [hn.out]
    exact ⟨_, _, rfl, Ow.nil X.out.below.size, X.out.below⟩
  have t1 : decide (f < 0) = false := by simp; omega
  by_cases h2 : t < f
  · have hn := hide (nil.out (fun h => by omega))
    have t2 : decide (t < f) = true := by simp; omega
    clear h0 h2
    go_wp2_with fail
    go_ret
    rw [hn.out]
    exact ⟨_, _, rfl, Ow.nil X.out.below.size, X.out.below⟩
  have t2 : decide (t < f) = false := by simp; omega
  by_cases h3 : (r.length : Int) < t
  · have hn := hide (nil.out (fun h => by omega))
    have t3 : decide ((r.length : Int) < t) = true := by simp; omega
    clear h0 h2 h3
    go_wp2_with fail
    go_ret
    rw [hn.out]
    exact ⟨_, _, rfl, Ow.nil X.out.below.size, X.out.below⟩
  have t3 : decide ((r.length : Int) < t) = false := by simp; omega
  obtain ⟨m, rfl⟩ : ∃ m : Nat, f = (m : Int) := ⟨f.toNat, by omega⟩
  obtain ⟨n, rfl⟩ : ∃ n : Nat, t = (n : Int) := ⟨t.toNat, by omega⟩
  have hmn : m ≤ n := by omega
  have hnr : n ≤ r.length := by omega
  have HE := hide (show L = sortL ((r.drop m).take (n - m)) by rw [HL.out]; exact rbL_yes HQ.out.symm hmn hnr)
  have HP := hide (fun (W : World) (h : Below w.heap.size w W) (a' : Option Addr) (c' : Nat) (q1 : m < n → a' = Option.map (fun x => x.add m) a2) (q2 : a' = none → c' = 0) => show Calls Tryz.prog 111 #[.slice a' (n - m) c'] W (RetOw W L) by rw [HE.out]; exact iSubSort_any (HI2.out W h) (Nat.le_trans hB h.size) hr m n hmn hnr a' c' q1 q2)
  clear HL nil HE
  go_wp2_with fail
  · go_at_call 111
    refine (HP.out _ X.out.below _ _ (fun h => by omega) (fun _ => rfl)).mono ?_
    rintro e w3 ⟨v, hi, rfl, O, hb⟩
    go_wp2_with fail
    go_ret
    exact ⟨_, _, rfl, O.wide X.out.below.size, X.out.below.trans (hb.mono X.out.below.size)⟩
  · go_at_call 111
    refine (HP.out _ X.out.below _ _ (fun _ => rfl) (fun h => by have := hcap.2 (by simpa using h); omega)).mono ?_
    rintro e w3 ⟨v, hi, rfl, O, hb⟩
    go_wp2_with fail
    go_ret
    exact ⟨_, _, rfl, O.wide X.out.below.size, X.out.below.trans (hb.mono X.out.below.size)⟩

end Go.Proofs.YtajfhalalnlejaaGreat

/- What dividing does to a column, with RowsBetween (promises 3 and 4). -/

/- Policies, in numbers: seeds and settings (promise 4). No function of the program. -/
namespace Go.Proofs.YtajfhalalnlejaaGreat

/-- The next seed. -/
def nsF (n : Int) : Int := ((n % 10007) * 1103 + 2345) % 10007
theorem nsF_range (n : Int) : 0 ≤ nsF n ∧ nsF n ≤ 10006 := by unfold nsF; omega

/-- Are the settings valid? -/
def isSet (p t s : Int) : Bool := decide (0 ≤ p ∧ p ≤ 2 ∧ 1 ≤ t ∧ t ≤ 64 ∧ 0 ≤ s ∧ s ≤ 10006)
theorem isSet_true {p t s : Int} (h : isSet p t s = true) : 0 ≤ p ∧ p ≤ 2 ∧ 1 ≤ t ∧ t ≤ 64 ∧ 0 ≤ s ∧ s ≤ 10006 := of_decide_eq_true h

end Go.Proofs.YtajfhalalnlejaaGreat

/- Policies, in numbers (promise 4): seeds, medians, the choice of a value, dividing by a policy: each round's piece is smaller. No function of the program. -/
namespace Go.Proofs.YtajfhalalnlejaaGreat
set_option linter.unusedSimpArgs false
set_option linter.unusedVariables false
set_option maxRecDepth 100000

/-- The median. -/
def medL (l : List Int) : Int := if l.length = 0 ∨ 64 < l.length then 0 else (sortL l).getD ((l.length - 1) / 2) 0
theorem medL_mem {l : List Int} (h : 0 < l.length) (h2 : l.length ≤ 64) : medL l ∈ l := by
  unfold medL
  rw [if_neg (by omega)]
  have h3 := (sortL_perm l).length_eq
  rw [List.getD_eq_getElem?_getD, List.getElem?_eq_getElem (show (l.length - 1) / 2 < (sortL l).length by omega), Option.getD_some]
  exact (sortL_perm l).mem_iff.1 (List.getElem_mem _)

/-- The elements between two places. -/
def cutL (l : List Int) (a b : Int) : List Int := (l.drop a.toNat).take (b.toNat - a.toNat)
theorem cutL_length {l : List Int} {a b : Int} (h : 0 ≤ a ∧ a < b ∧ b ≤ l.length) : ((cutL l a b).length : Int) = b - a := by
  unfold cutL; rw [List.length_take, List.length_drop]; omega

noncomputable def chOk (l r : List Int) (ps : List Pv) (p t s a b : Int) : Bool := isCk l r ps && isSet p t s && decide (0 ≤ a ∧ a < b ∧ b ≤ l.length)
/-- The value that is chosen. -/
noncomputable def chM (l r : List Int) (ps : List Pv) (p t s a b : Int) : Int := if chOk l r ps p t s a b = true then (if p = 2 then l.getD (a + nsF s % (b - a)).toNat 0 else medL (cutL l a b)) else 0
/-- The seed behind it. -/
noncomputable def chS (l r : List Int) (ps : List Pv) (p t s a b : Int) : Int := if chOk l r ps p t s a b = true then (if p = 2 then nsF s else s) else s

theorem chS_range {l r : List Int} {ps : List Pv} {p t s a b : Int} (h : 0 ≤ s ∧ s ≤ 10006) : 0 ≤ chS l r ps p t s a b ∧ chS l r ps p t s a b ≤ 10006 := by
  unfold chS
  split
  · split
    · exact nsF_range s
    · exact h
  · exact h

theorem chM_at {l r : List Int} {ps : List Pv} {p t s a b : Int} (h : chOk l r ps p t s a b = true) : ∃ (i : Nat) (hi : i < l.length), a ≤ i ∧ (i : Int) < b ∧ l[i] = chM l r ps p t s a b := by
  unfold chM
  rw [if_pos h]
  unfold chOk at h
  simp only [Bool.and_eq_true, decide_eq_true_eq] at h
  obtain ⟨⟨h1, h2⟩, h3, h4, h5⟩ := h
  by_cases hp : p = 2
  · rw [if_pos hp]
    have q := Int.emod_nonneg (nsF s) (show b - a ≠ 0 by omega)
    have q2 := Int.emod_lt_of_pos (nsF s) (show 0 < b - a by omega)
    exact ⟨(a + nsF s % (b - a)).toNat, by omega, by omega, by omega, by rw [List.getD_eq_getElem?_getD, List.getElem?_eq_getElem (by omega)]; rfl⟩
  · rw [if_neg hp]
    have hl := cutL_length (l := l) ⟨h3, h4, h5⟩
    have hn := areVals_len (isCk_parts h1).1
    obtain ⟨j, hj, e⟩ := List.getElem_of_mem (medL_mem (l := cutL l a b) (by omega) (by omega))
    refine ⟨a.toNat + j, by omega, by omega, by omega, ?_⟩
    rw [← e]
    simp [cutL]

theorem vals_in {l r : List Int} {ps : List Pv} (h : isCk l r ps = true) (i : Nat) (hi : i < l.length) : -999 ≤ l[i] ∧ l[i] ≤ 999 := by
  have h1 := (isCk_parts h).1
  unfold areVals at h1
  simp only [Bool.and_eq_true, List.all_eq_true, decide_eq_true_eq] at h1
  exact h1.2 _ (List.getElem_mem hi)

theorem lo_mem : ∀ (ps : List Pv) (v a : Int), loP ps v a = a ∨ ∃ q ∈ ps, q.1 ≤ v ∧ loP ps v a = q.2
  | [], v, a => .inl rfl
  | p :: ps, v, a => by
    rw [loP]
    rcases lo_mem ps v (if p.1 ≤ v then p.2 else a) with e | ⟨q, hq, h1, h2⟩
    · by_cases c : p.1 ≤ v
      · rw [if_pos c] at e ⊢
        exact .inr ⟨p, by simp, c, e⟩
      · rw [if_neg c] at e ⊢
        exact .inl e
    · exact .inr ⟨q, by simp [hq], h1, h2⟩

theorem hi_mem : ∀ (ps : List Pv) (v n : Int), hiP ps v n = n ∨ ∃ q ∈ ps, v ≤ q.1 ∧ hiP ps v n = q.2
  | [], v, n => .inl rfl
  | p :: ps, v, n => by
    rw [hiP]
    by_cases c : v ≤ p.1
    · rw [if_pos c]
      exact .inr ⟨p, by simp, c, rfl⟩
    · rw [if_neg c]
      rcases hi_mem ps v n with e | ⟨q, hq, h1, h2⟩
      · exact .inl e
      · exact .inr ⟨q, by simp [hq], h1, h2⟩

/-- The piece of a pivot has no elements. -/
theorem piece_pivot : ∀ {ps : List Pv} {v : Int}, Asc ps → ∀ (a n : Int), ∀ q ∈ ps, q.1 = v → loP ps v a = q.2 ∧ hiP ps v n = q.2
  | [], _, _, _, _, q, hq, _ => by simp at hq
  | p :: ps, v, hs, a, n, q, hq, e => by
    obtain ⟨s1, s2⟩ := hs.cons
    rw [loP, hiP]
    rcases List.mem_cons.1 hq with rfl | hq
    · rw [if_pos (by omega), if_pos (by omega)]
      exact ⟨loP_above v ps _ fun x hx => by have := s1 x hx; omega, rfl⟩
    · have := s1 q hq
      rw [if_pos (show p.1 ≤ v by omega), if_neg (show ¬ v ≤ p.1 by omega)]
      exact piece_pivot s2 _ _ q hq e

theorem fnd_memb : ∀ {ps : List Pv} {v : Int}, (fndP ps v).2 = true → ∃ q ∈ ps, q.1 = v ∧ q.2 = (fndP ps v).1
  | [], v, h => by simp [fndP] at h
  | p :: ps, v, h => by
    rw [fndP] at h ⊢
    by_cases c : p.1 = v
    · rw [if_pos c]; exact ⟨p, by simp, c, rfl⟩
    · rw [if_neg c] at h ⊢
      obtain ⟨q, hq, h1⟩ := fnd_memb h
      exact ⟨q, by simp [hq], h1⟩

theorem pieceP_eq {l r : List Int} {ps : List Pv} {v : Int} (h : isCk l r ps = true) (h1 : -1000 ≤ v) (h2 : v ≤ 1000) : pieceP l r ps v = (loP ps v 0, hiP ps v l.length) := by
  unfold pieceP; rw [if_pos ⟨h, h1, h2⟩]

theorem piece_found {l r : List Int} {ps : List Pv} {v : Int} (h : isCk l r ps = true) (h1 : -1000 ≤ v) (h2 : v ≤ 1000) (hf : (fndP ps v).2 = true) : (pieceP l r ps v).2 = (pieceP l r ps v).1 := by
  obtain ⟨q, hq, e, -⟩ := fnd_memb hf
  have := piece_pivot (pvsOk_asc.1 (isCk_parts h).2.2.2).1 0 l.length q hq e
  rw [pieceP_eq h h1 h2]
  show hiP ps v l.length = loP ps v 0
  rw [this.1, this.2]

theorem piece_in {l r : List Int} {ps : List Pv} {v : Int} (h : isCk l r ps = true) : 0 ≤ (pieceP l r ps v).1 ∧ (pieceP l r ps v).1 ≤ l.length ∧ 0 ≤ (pieceP l r ps v).2 ∧ (pieceP l r ps v).2 ≤ l.length := by
  obtain ⟨c1, c2, c3, c4⟩ := isCk_parts h
  have hf := (pvsOk_asc.1 c4).2
  unfold pieceP
  split
  · have g1 := lo_mem ps v 0
    have g2 := hi_mem ps v l.length
    have k1 : 0 ≤ loP ps v 0 ∧ loP ps v 0 ≤ l.length := by
      rcases g1 with e | ⟨q, hq, -, e⟩
      · rw [e]; omega
      · rw [e]; exact ⟨(hf q hq).2.2.1, (hf q hq).2.2.2.1⟩
    have k2 : 0 ≤ hiP ps v l.length ∧ hiP ps v l.length ≤ l.length := by
      rcases g2 with e | ⟨q, hq, -, e⟩
      · rw [e]; omega
      · rw [e]; exact ⟨(hf q hq).2.2.1, (hf q hq).2.2.2.1⟩
    exact ⟨k1.1, k1.2, k2.1, k2.2⟩
  · simp

theorem crack_sub {l r : List Int} {ps : List Pv} {v : Int} : ∀ q ∈ ps, q ∈ crP l r ps v := by
  intro q hq
  by_cases hd : crDiv l r ps v = true
  · obtain ⟨a, b, t, d, e, -⟩ := crack_eqs hd
    rw [e]
    exact (adIn_sub ps _).subset hq
  · rw [(crack_none hd).2.2.1]; exact hq

theorem crack_perm {l r : List Int} {ps : List Pv} {v : Int} (h : isCk l r ps = true) : (crL l r ps v).Perm l := by
  have h1 := (crack_zip l r ps v).map Prod.fst
  have e1 := (isCk_parts h).2.1
  have e2 := (isCk_parts (crack_isCk (v := v) h)).2.1
  rwa [List.map_fst_zip (by omega), List.map_fst_zip (by omega)] at h1

/-- A piece is smaller once the column is divided at one of its values and behind it. -/
theorem piece_less {l r l' r' : List Int} {ps qs : List Pv} {v m : Int} (h : isCk l r ps = true) (h' : isCk l' r' qs = true) (h1 : -1000 ≤ v) (h2 : v ≤ 1000) (hp : l'.Perm l) (hs : ∀ q ∈ ps, q ∈ qs)
    (hm : ∃ x, (m, x) ∈ qs) (hm1 : ∃ x, (m + 1, x) ∈ qs) (i : Nat) (hi : i < l.length) (hia : (pieceP l r ps v).1 ≤ i) (hib : (i : Int) < (pieceP l r ps v).2) (him : l[i] = m) :
    (pieceP l' r' qs v).2 - (pieceP l' r' qs v).1 < (pieceP l r ps v).2 - (pieceP l r ps v).1 := by
  obtain ⟨c1, c2, c3, c4⟩ := isCk_parts h
  obtain ⟨d1, d2, d3, d4⟩ := isCk_parts h'
  obtain ⟨asc, fit⟩ := pvsOk_asc.1 c4
  obtain ⟨asc', fit'⟩ := pvsOk_asc.1 d4
  rw [pieceP_eq h h1 h2] at hia hib ⊢
  rw [pieceP_eq h' h1 h2]
  simp only at hia hib ⊢
  by_cases hv : ∃ q ∈ qs, q.1 = v
  · obtain ⟨q, hq, e⟩ := hv
    have := piece_pivot asc' 0 l'.length q hq e
    rw [this.1, this.2]
    omega
  · have hne : ∀ q ∈ qs, q.1 ≠ v := fun q hq e => hv ⟨q, hq, e⟩
    obtain ⟨⟨l1, l2, l3⟩, -, l4⟩ := lo_spec qs 0 asc' (fun q hq => (fit' q hq).2.2) hne ⟨Int.le_refl _, by omega, fun i hi h => by omega, fun q hq => (fit' q hq).2.2.1⟩
    obtain ⟨⟨g1, g2, g3⟩, g4⟩ := hi_spec (v := v) qs asc' (fun q hq => (fit' q hq).2.2) hne
    have hlen := hp.length_eq
    have k1 : loP ps v 0 ≤ loP qs v 0 := by
      rcases lo_mem ps v 0 with e | ⟨q, hq, e1, e⟩
      · rw [e]; exact l1
      · rw [e]; exact l4 q (hs q hq) (by have := hne q (hs q hq); omega)
    have k2 : hiP qs v l'.length ≤ hiP ps v l.length := by
      rcases hi_mem ps v l.length with e | ⟨q, hq, e1, e⟩
      · rw [e]; omega
      · rw [e]; exact g4 q (hs q hq) (by have := hne q (hs q hq); omega)
    obtain ⟨j, hj, hjm⟩ := List.getElem_of_mem (hp.mem_iff.2 (him ▸ List.getElem_mem hi))
    obtain ⟨x, hx⟩ := hm
    obtain ⟨y, hy⟩ := hm1
    have fx := (fit' _ hx).2.2
    have fy := (fit' _ hy).2.2
    have nx := hne _ hx
    have ny := hne _ hy
    simp only at fx fy nx ny
    have ja : loP ps v 0 ≤ j := by
      rcases lo_mem ps v 0 with e | ⟨q, hq, e1, e⟩
      · rw [e]; omega
      · rw [e] at hia ⊢
        have a1 := (fit q hq).2.2.2.2 i hi
        have a2 := (fit' q (hs q hq)).2.2.2.2 j hj
        omega
    have jb : (j : Int) < hiP ps v l.length := by
      rcases hi_mem ps v l.length with e | ⟨q, hq, e1, e⟩
      · rw [e]; omega
      · rw [e] at hib ⊢
        have a1 := (fit q hq).2.2.2.2 i hi
        have a2 := (fit' q (hs q hq)).2.2.2.2 j hj
        omega
    by_cases hc : m < v
    · have b1 := l4 _ hy (by show m + 1 < v; omega)
      have b2 := fy.2.2 j hj
      simp only at b1 b2
      omega
    · have b1 := g4 _ hx (by show v < m; omega)
      have b2 := fx.2.2 j hj
      simp only at b1 b2
      omega

/-- A column while it is divided by a policy: values, rows, pivots, seed, swaps so far. -/
structure PS where
  l : List Int
  r : List Int
  ps : List Pv
  s : Int
  n : Nat

noncomputable def PS.piece (S : PS) (v : Int) : Int × Int := pieceP S.l S.r S.ps v
noncomputable def PS.m (S : PS) (p t v : Int) : Int := chM S.l S.r S.ps p t S.s (S.piece v).1 (S.piece v).2
/-- Dividing at x. -/
noncomputable def PS.crack (S : PS) (x : Int) : PS := ⟨crL S.l S.r S.ps x, crR S.l S.r S.ps x, crP S.l S.r S.ps x, S.s, S.n + (crS S.l S.r S.ps x).length⟩
/-- The seed that the choice leaves. -/
noncomputable def PS.chosen (S : PS) (p t v : Int) : PS := ⟨S.l, S.r, S.ps, chS S.l S.r S.ps p t S.s (S.piece v).1 (S.piece v).2, S.n⟩
/-- A round: a choice, and two divisions. -/
noncomputable def PS.step (S : PS) (p t v : Int) : PS := ((S.chosen p t v).crack (S.m p t v)).crack (S.m p t v + 1)
/-- Is there another round? -/
noncomputable def PS.more (S : PS) (p t v : Int) : Bool := decide (p ≠ 0) && decide (t < (S.piece v).2 - (S.piece v).1)
noncomputable def PS.run (p t v : Int) : Nat → PS → PS
  | 0, S => S
  | k + 1, S => if S.more p t v = true then PS.run p t v k (S.step p t v) else S

/-- What holds at each round. -/
def PS.Ok (S : PS) (n : Nat) : Prop := isCk S.l S.r S.ps = true ∧ Wf S.l S.r S.ps 2001 ∧ 0 ≤ S.s ∧ S.s ≤ 10006 ∧ S.n ≤ n

theorem PS.crack_ok {S : PS} {n : Nat} {x : Int} (h : S.Ok n) (hx : -1000 ≤ x ∧ x ≤ 1000) : (S.crack x).Ok (n + 1048576) := by
  obtain ⟨h1, h2, h3, h4, h5⟩ := h
  obtain ⟨w1, s1, -⟩ := crack_Wf (v := x) h2 (by omega) ⟨by omega, by omega⟩
  exact ⟨crack_isCk h1, wf_ck w1 (crack_isCk h1), h3, h4, by show S.n + (crS S.l S.r S.ps x).length ≤ _; omega⟩

theorem PS.chosen_ok {S : PS} {n : Nat} {p t v : Int} (h : S.Ok n) : (S.chosen p t v).Ok n :=
  ⟨h.1, h.2.1, (chS_range ⟨h.2.2.1, h.2.2.2.1⟩).1, (chS_range ⟨h.2.2.1, h.2.2.2.1⟩).2, h.2.2.2.2⟩

theorem PS.more_at {S : PS} {n : Nat} {p t v : Int} (h : S.Ok n) (hp : 0 ≤ p ∧ p ≤ 2) (ht : 1 ≤ t ∧ t ≤ 64) (hm : S.more p t v = true) : chOk S.l S.r S.ps p t S.s (S.piece v).1 (S.piece v).2 = true := by
  unfold PS.more at hm
  simp only [Bool.and_eq_true, decide_eq_true_eq] at hm
  have hi := piece_in (v := v) h.1
  unfold chOk
  rw [h.1, show isSet p t S.s = true from decide_eq_true ⟨hp.1, hp.2, ht.1, ht.2, h.2.2.1, h.2.2.2.1⟩]
  simp only [Bool.and_self, Bool.true_and, decide_eq_true_eq]
  unfold PS.piece at hm ⊢
  omega

theorem PS.m_in {S : PS} {n : Nat} {p t v : Int} (h : S.Ok n) (hp : 0 ≤ p ∧ p ≤ 2) (ht : 1 ≤ t ∧ t ≤ 64) (hm : S.more p t v = true) : -999 ≤ S.m p t v ∧ S.m p t v ≤ 999 := by
  obtain ⟨i, hi, -, -, e⟩ := chM_at (PS.more_at h hp ht hm)
  unfold PS.m
  rw [← e]
  exact vals_in h.1 i hi

theorem PS.step_ok {S : PS} {n : Nat} {p t v : Int} (h : S.Ok n) (hp : 0 ≤ p ∧ p ≤ 2) (ht : 1 ≤ t ∧ t ≤ 64) (hm : S.more p t v = true) : (S.step p t v).Ok (n + 2097152) := by
  have hb := PS.m_in h hp ht hm
  exact PS.crack_ok (PS.crack_ok (PS.chosen_ok h) ⟨by omega, by omega⟩) ⟨by omega, by omega⟩

theorem PS.less {S : PS} {n : Nat} {p t v : Int} (h : S.Ok n) (hp : 0 ≤ p ∧ p ≤ 2) (ht : 1 ≤ t ∧ t ≤ 64) (hv : -1000 ≤ v ∧ v ≤ 1000) (hm : S.more p t v = true) :
    ((S.step p t v).piece v).2 - ((S.step p t v).piece v).1 < (S.piece v).2 - (S.piece v).1 := by
  have hb := PS.m_in h hp ht hm
  obtain ⟨i, hi, h1, h2, e⟩ := chM_at (PS.more_at h hp ht hm)
  have k1 := crack_isCk (v := S.m p t v) h.1
  have k2 := crack_isCk (v := S.m p t v + 1) k1
  have f1 := crack_found (crOk_of (v := S.m p t v) h.1 (by omega) (by omega))
  have f2 := crack_found (crOk_of (v := S.m p t v + 1) k1 (by omega) (by omega))
  obtain ⟨q1, m1, e1, -⟩ := fnd_memb f1
  obtain ⟨q2, m2, e2, -⟩ := fnd_memb f2
  have M1 : ∃ x, (S.m p t v, x) ∈ (S.step p t v).ps := ⟨q1.2, by rw [← e1]; exact crack_sub q1 m1⟩
  have M2 : ∃ x, (S.m p t v + 1, x) ∈ (S.step p t v).ps := ⟨q2.2, by rw [← e2]; exact m2⟩
  exact piece_less h.1 k2 hv.1 hv.2 ((crack_perm k1).trans (crack_perm h.1)) (fun q hq => crack_sub q (crack_sub q hq)) M1 M2 i hi h1 h2 e

theorem PS.run_stop {S : PS} {p t v : Int} (h : S.more p t v = false) : ∀ k, PS.run p t v k S = S
  | 0 => rfl
  | k + 1 => by rw [PS.run, h]; rfl

/-- With as many rounds as the piece has elements it is at its end. -/
theorem PS.run_done {p t v : Int} (hp : 0 ≤ p ∧ p ≤ 2) (ht : 1 ≤ t ∧ t ≤ 64) (hv : -1000 ≤ v ∧ v ≤ 1000) : ∀ (k n : Nat) (S : PS), S.Ok n → (S.piece v).2 - (S.piece v).1 ≤ k → (PS.run p t v k S).more p t v = false
  | 0, n, S, h, hk => by
    rw [PS.run]
    unfold PS.more
    simp only [Bool.and_eq_false_iff, decide_eq_false_iff_not]
    omega
  | k + 1, n, S, h, hk => by
    rw [PS.run]
    cases hm : S.more p t v with
    | false => simp only [Bool.false_eq_true, if_false]; exact hm
    | true =>
      simp only [if_true]
      have := PS.less h hp ht hv hm
      exact PS.run_done hp ht hv k _ _ (PS.step_ok h hp ht hm) (by omega)

/-- Dividing by a policy. -/
noncomputable def cwOk (l r : List Int) (ps : List Pv) (p t s v : Int) : Bool := isCk l r ps && isSet p t s && decide (-1000 ≤ v ∧ v ≤ 1000)
noncomputable def cwF (l r : List Int) (ps : List Pv) (p t s v : Int) : PS := if cwOk l r ps p t s v = true then (PS.run p t v 64 ⟨l, r, ps, s, 0⟩).crack v else ⟨l, r, ps, s, 0⟩

theorem PS.run_ok {p t v : Int} (hp : 0 ≤ p ∧ p ≤ 2) (ht : 1 ≤ t ∧ t ≤ 64) : ∀ (k n : Nat) (S : PS), S.Ok n → (PS.run p t v k S).Ok (n + k * 2097152)
  | 0, n, S, h => by rw [PS.run]; simpa using h
  | k + 1, n, S, h => by
    rw [PS.run]
    cases hm : S.more p t v with
    | false => simp only [Bool.false_eq_true, if_false]; exact ⟨h.1, h.2.1, h.2.2.1, h.2.2.2.1, by have := h.2.2.2.2; omega⟩
    | true =>
      simp only [if_true]
      have := PS.run_ok (v := v) hp ht k _ _ (PS.step_ok h hp ht hm)
      rwa [show n + 2097152 + k * 2097152 = n + (k + 1) * 2097152 by omega] at this

end Go.Proofs.YtajfhalalnlejaaGreat

/- exchange of the program: two elements of an owned slice change places (promise 3). -/
namespace Go.Proofs.YtajfhalalnlejaaGreat
open Go.RowKit Go.ChangeShapes
set_option linter.unusedSimpArgs false
set_option linter.unusedVariables false
set_option maxRecDepth 100000

set_option maxHeartbeats 4000000 in
theorem iExch_ow (v : Value) (l : List Int) (lo hi i j : Nat) (w : World) (h : Ow w v l lo hi) (hi' : i < l.length) (hj' : j < l.length) :
    Calls Tryz.prog 152 #[v, .agg #[.int .i64 i, .int .i64 j]] w fun e w' => (∃ u, e = .returned u) ∧ Ow w' v (swapAt l i j) lo hi ∧ Seg lo hi w w' := by
  have X := hide (Kn.one w #[.int .i64 i, .int .i64 j] 171)
  obtain ⟨w1, hw1⟩ : ∃ w1, w1 = w.alloc (.cells #[.int .i64 i, .int .i64 j] 171) := ⟨_, rfl⟩
  rw [← hw1] at X
  have S0 := hide (Seg.of_below (lo := lo) (hi := hi) X.out.below (Nat.le_trans h.le h.top))
  have hT := hide h.top
  have h := h.below X.out.below
  obtain ⟨⟨F, ⟨o, rfl⟩, hF⟩, hle, htop⟩ := h
  obtain ⟨a, cap, rfl⟩ := Is.form o
  have HS := o.2
  rcases HS with ⟨e, hn⟩ | ⟨g, cap', cur, e, -⟩
  · exfalso
    injection e with e1 e2 e3
    omega
  injection e with e1 e2 e3
  subst e1 e3
  have hg := hF g (by simp [Value.ownBlock])
  have O := hide o
  have O1 := hide (O.out.store rfl i (l[j]'hj'))
  have O2 := hide (O1.out.store (by simp) j (l[i]'hi'))
  obtain ⟨ci, fi, gi, -⟩ := O.out.cell i hi'
  obtain ⟨cj, fj, gj, -⟩ := O.out.cell j hj'
  obtain ⟨cj1, fj1, gj1, -⟩ := O1.out.cell j (by simp; exact hj')
  have E1 := hide (show swapAt l i j = (l.set i (l[j]'hj')).set j (l[i]'hi') by simp [swapAt, List.getD, hi', hj'])
  obtain ⟨y2, hy2⟩ : ∃ y2, y2 = (l.set i (l[j]'hj'))[j]'(by simp; exact hj') := ⟨_, rfl⟩
  rw [← hy2] at cj1
  obtain ⟨x, hx⟩ : ∃ x, x = l[i]'hi' := ⟨_, rfl⟩
  obtain ⟨y, hy⟩ : ∃ y, y = l[j]'hj' := ⟨_, rfl⟩
  rw [← hx] at ci E1 O2
  rw [← hy] at cj E1 O1 O2 cj1 fj1
  clear hx hy hy2
  have d0 : w1.cell? ⟨w.heap.size, 0, none⟩ = some (.int .i64 i) := X.out.cell 0 0 rfl rfl
  have d1 : w1.cell? ⟨w.heap.size, 1, none⟩ = some (.int .i64 j) := X.out.cell 0 1 rfl rfl
  have hne : w.heap.size ≠ g := by have := hT.out; omega
  have d2 : (w1.setCell ⟨g, i, none⟩ (.int .i64 y)).cell? ⟨w.heap.size, 0, none⟩ = some (.int .i64 i) := by rw [World.cell?_setCell_other _ _ _ _ (by simp [hne])]; exact d0
  have d3 : (w1.setCell ⟨g, i, none⟩ (.int .i64 y)).cell? ⟨w.heap.size, 1, none⟩ = some (.int .i64 j) := by rw [World.cell?_setCell_other _ _ _ _ (by simp [hne])]; exact d1
  have HF := hide hF
  have hne := hide hne
  clear hF o
  go_enter Tryz.func152, Tryz.ntmps152
  go_wp2_with fail
  rw [← hw1]
  clear hw1
  go_region
  all_goals have sg := (Seg.setCell w1 g i (.int .i64 y)).trans (Seg.setCell _ g j (.int .i64 x))
  all_goals refine bodyPost_end (v := .tuple #[]) (by simp [results, Tryz.results152]) rfl ⟨⟨_, rfl⟩, ?_, ?_⟩
  · rw [E1.out]
    exact ⟨⟨_, ⟨O2.out.below (Below.refl _ _).drew, rfl⟩, HF.out⟩, hle, Nat.le_trans htop sg.below.size⟩
  · have s2 := S0.out.trans (sg.mono hg.1 (by omega))
    exact ⟨s2.below.drew, s2.over⟩

end Go.Proofs.YtajfhalalnlejaaGreat

/- havePlaces of the program: whether all places of the swaps lie in a row (promise 3). -/
namespace Go.Proofs.YtajfhalalnlejaaGreat
open Go.RowKit Go.ChangeShapes
set_option linter.unusedSimpArgs false
set_option linter.unusedVariables false
set_option maxRecDepth 100000

set_option maxHeartbeats 4000000 in
theorem iHave_any (v : Value) (sw : List Pv) (n : Nat) (w : World) (B : Nat) (hv : Pvs w B v sw) (hB : B ≤ w.heap.size) :
    Calls Tryz.prog 151 #[v, .int .i64 n] w (RetB1 w (sw.all (swOk n))) := by
  obtain ⟨a, cap, rfl, hlen, hwf, hcell⟩ := hv
  have HC := hide hcell
  have HW := hide hwf
  clear hcell hwf
  obtain ⟨t, ht⟩ : ∃ t, t = sw.all (swOk n) := ⟨_, rfl⟩
  rw [← ht]
  have HT := hide ht
  clear ht
  go_enter Tryz.func151, Tryz.ntmps151
  go_wp2
  go_loopw [9] (fun u wr => ∃ (k : Nat), k ≤ sw.length ∧ u = .int .i64 k ∧ Hid ((sw.take k).all (swOk n) = true) ∧ Hid (Below w.heap.size w wr)) (fun u _ => sw.length - (intOf u).toNat)
  case atStart => exact ⟨0, by omega, rfl, by simp [Hid], Below.refl _ _⟩
  case round =>
    obtain ⟨k, hk, rfl, hall, hb⟩ := hrel
    by_cases hlt : k < sw.length
    · have hat := hide (all_take (swOk n) sw k hlt)
      obtain ⟨b1, o1, rfl, hb1, hc1, hc2⟩ := HC.out k hlt
      obtain ⟨x, hx⟩ : ∃ x, x = sw[k].1 := ⟨_, rfl⟩
      obtain ⟨y, hy⟩ : ∃ y, y = sw[k].2 := ⟨_, rfl⟩
      rw [← hx] at hc1
      rw [← hy] at hc2
      have d1 : wr.cell? ⟨b1, o1 + k * 2, none⟩ = some (.int .i64 x) := by rw [hb.out.cell (p := ⟨b1, o1 + k * 2, none⟩) (Nat.lt_of_lt_of_le hb1 hB)]; exact hc1
      have d2 : wr.cell? ⟨b1, o1 + k * 2 + 1, none⟩ = some (.int .i64 y) := by rw [hb.out.cell (p := ⟨b1, o1 + k * 2 + 1, none⟩) (Nat.lt_of_lt_of_le hb1 hB)]; exact hc2
      have HX := hide hx
      have HY := hide hy
      have hq := hide (show (swOk n sw[k]) = (decide (0 ≤ x ∧ x ≤ (n : Int) - 1) && decide (0 ≤ y ∧ y ≤ (n : Int) - 1)) by rw [hx, hy]; rfl)
      clear hc1 hc2 hx hy hb1
      rcases Int.lt_trichotomy x y with hc | hc | hc
      · have o1 : decide (x < y) = true := by simp; omega
        have o2 : decide (x ≤ y) = true := by simp; omega
        by_cases p1 : x < 0
        · have r1 : decide (x < 0) = true := by simp; omega
          have tf : t = false := by
            rw [HT.out]
            exact List.all_eq_false.2 ⟨sw[k], List.getElem_mem hlt, by rw [hq.out]; simp; omega⟩
          subst tf
          go_wp2
          go_ret
          exact ⟨rfl, hb.out.alloc hb.out.size _⟩
        · have r1 : decide (x < 0) = false := by simp; omega
          by_cases p2 : (n : Int) ≤ y
          · have r2 : decide (y ≥ (n : Int)) = true := by simp; omega
            have r3 : decide ((n : Int) ≤ y) = true := by simp; omega
            have tf : t = false := by
              rw [HT.out]
              exact List.all_eq_false.2 ⟨sw[k], List.getElem_mem hlt, by rw [hq.out]; simp; omega⟩
            subst tf
            go_wp2
            go_ret
            exact ⟨rfl, hb.out.alloc hb.out.size _⟩
          · have r2 : decide (y ≥ (n : Int)) = false := by simp; omega
            have r3 : decide ((n : Int) ≤ y) = false := by simp; omega
            have hall2 := hide (show (sw.take (k + 1)).all (swOk n) = true by rw [hat.out, hall.out, hq.out]; simp; omega)
            go_wp2
            go_roundw
            all_goals first
              | exact ⟨k + 1, by omega, by go_num, hall2.out, hb.out.alloc hb.out.size _⟩
              | (simp [intOf]; omega)
      · subst hc
        have o1 : decide (x < x) = false := by simp
        have o2 : decide (x ≤ x) = true := by simp
        by_cases p1 : x < 0
        · have r1 : decide (x < 0) = true := by simp; omega
          have tf : t = false := by
            rw [HT.out]
            exact List.all_eq_false.2 ⟨sw[k], List.getElem_mem hlt, by rw [hq.out]; simp; omega⟩
          subst tf
          go_wp2
          go_ret
          exact ⟨rfl, hb.out.alloc hb.out.size _⟩
        · have r1 : decide (x < 0) = false := by simp; omega
          by_cases p2 : (n : Int) ≤ x
          · have r2 : decide (x ≥ (n : Int)) = true := by simp; omega
            have r3 : decide ((n : Int) ≤ x) = true := by simp; omega
            have tf : t = false := by
              rw [HT.out]
              exact List.all_eq_false.2 ⟨sw[k], List.getElem_mem hlt, by rw [hq.out]; simp; omega⟩
            subst tf
            go_wp2
            go_ret
            exact ⟨rfl, hb.out.alloc hb.out.size _⟩
          · have r2 : decide (x ≥ (n : Int)) = false := by simp; omega
            have r3 : decide ((n : Int) ≤ x) = false := by simp; omega
            have hall2 := hide (show (sw.take (k + 1)).all (swOk n) = true by rw [hat.out, hall.out, hq.out]; simp; omega)
            go_wp2
            go_roundw
            all_goals first
              | exact ⟨k + 1, by omega, by go_num, hall2.out, hb.out.alloc hb.out.size _⟩
              | (simp [intOf]; omega)
      · have o1 : decide (x < y) = false := by simp; omega
        have o2 : decide (x ≤ y) = false := by simp; omega
        by_cases p1 : y < 0
        · have r1 : decide (y < 0) = true := by simp; omega
          have tf : t = false := by
            rw [HT.out]
            exact List.all_eq_false.2 ⟨sw[k], List.getElem_mem hlt, by rw [hq.out]; simp; omega⟩
          subst tf
          go_wp2
          go_ret
          exact ⟨rfl, hb.out.alloc hb.out.size _⟩
        · have r1 : decide (y < 0) = false := by simp; omega
          by_cases p2 : (n : Int) ≤ x
          · have r2 : decide (x ≥ (n : Int)) = true := by simp; omega
            have r3 : decide ((n : Int) ≤ x) = true := by simp; omega
            have tf : t = false := by
              rw [HT.out]
              exact List.all_eq_false.2 ⟨sw[k], List.getElem_mem hlt, by rw [hq.out]; simp; omega⟩
            subst tf
            go_wp2
            go_ret
            exact ⟨rfl, hb.out.alloc hb.out.size _⟩
          · have r2 : decide (x ≥ (n : Int)) = false := by simp; omega
            have r3 : decide ((n : Int) ≤ x) = false := by simp; omega
            have hall2 := hide (show (sw.take (k + 1)).all (swOk n) = true by rw [hat.out, hall.out, hq.out]; simp; omega)
            go_wp2
            go_roundw
            all_goals first
              | exact ⟨k + 1, by omega, by go_num, hall2.out, hb.out.alloc hb.out.size _⟩
              | (simp [intOf]; omega)
    · have hke : k = sw.length := by omega
      subst hke
      have tt : t = true := by rw [HT.out, ← hall.out, List.take_length]
      subst tt
      go_wp2
      go_ret
      exact ⟨rfl, hb.out⟩

end Go.Proofs.YtajfhalalnlejaaGreat

/- What ApplySwaps of the program returns (promise 3). -/
namespace Go.Proofs.YtajfhalalnlejaaGreat
open Go.RowKit Go.ChangeShapes
set_option linter.unusedSimpArgs false
set_option linter.unusedVariables false
set_option maxRecDepth 100000

set_option maxHeartbeats 4000000 in
theorem iApply_eq (a1 a2 a3 : Option Addr) (c1 c2 c3 : Nat) (sv : Value) (l r : List Int) (ps sw : List Pv) (w : World) (B : Nat) (V : Hid (Ck w B (.agg #[.slice a1 l.length c1, .slice a2 l.length c2, .slice a3 ps.length c3]) l r ps)) (HR : Hid (r.length = l.length)) (hs : Pvs w B sv sw) (hB : B ≤ w.heap.size) (hl : l.length ≤ 1048576) (hp : ps.length ≤ 1048576) (t : Bool) (HT : Hid (t = sw.all (swOk l.length))) (LL RR : List Int) (HLL : Hid (LL = if t = true then swaps l sw else l)) (HRR : Hid (RR = if t = true then swaps r sw else r)) :
    Calls Tryz.prog 138 #[.agg #[.slice a1 l.length c1, .slice a2 l.length c2, .slice a3 ps.length c3], sv] w (RetOCB w LL RR ps t) := by
  have HC := hide hs
  obtain ⟨ad, cap, rfl, hlen, hwf, hcell⟩ := hs
  have HCC := hide hcell
  clear hcell hwf
  have X := hide (Kn.two w #[.slice a1 l.length c1, .slice a2 l.length c2, .slice a3 ps.length c3] #[.slice none 0 0, .slice none 0 0, .slice none 0 0] 33 33)
  obtain ⟨w1, hw1⟩ : ∃ w1, w1 = (w.alloc (.cells #[.slice a1 l.length c1, .slice a2 l.length c2, .slice a3 ps.length c3] 33)).alloc (.cells #[.slice none 0 0, .slice none 0 0, .slice none 0 0] 33) := ⟨_, rfl⟩
  have hz1 := hide (show w1.heap.size = w.heap.size + 1 + 1 by rw [hw1]; simp)
  rw [← hw1] at X
  have hq0 : ((l.length : Int) != (l.length : Int)) = false := by simp
  have C0 := hide (fun (W : World) (h : Below w.heap.size w W) => iCopy_any _ l r ps W B (V.out.below h hB) (Nat.le_trans hB h.size) hl (by rw [HR.out]; exact hl) hp)
  have CH := hide (fun (W : World) (h : Below w.heap.size w W) => show Calls Tryz.prog 151 #[.slice ad sw.length cap, .int .i64 l.length] W (RetB1 W t) by rw [HT.out]; exact iHave_any _ sw l.length W B (HC.out.below h hB) (Nat.le_trans hB h.size))
  go_enter Tryz.func138, Tryz.ntmps138
  go_wp2_with fail
  rw [← hw1]
  clear hw1
  have c0 : w1.cell? ⟨w.heap.size, 0, none⟩ = some (.slice a1 l.length c1) := X.out.cell 0 0 rfl rfl
  have c1' : w1.cell? ⟨w.heap.size, 1, none⟩ = some (.slice a2 l.length c2) := X.out.cell 0 1 rfl rfl
  have c2' : w1.cell? ⟨w.heap.size, 2, none⟩ = some (.slice a3 ps.length c3) := X.out.cell 0 2 rfl rfl
  go_wp2_with fail
  go_at_call 66
  refine (C0.out _ X.out.below).mono ?_
  rintro e w2 ⟨x, y, z, lo, hi, n1, h1, n2, h2, n3, h3, rfl, q1, q2, O, hb⟩
  obtain ⟨x1, k1, rfl⟩ := O.x.form
  obtain ⟨x2, k2, hx2⟩ := O.y.form
  rw [HR.out] at hx2
  subst hx2
  obtain ⟨x3, k3, rfl⟩ := O.z.own.form
  have X2 := hide (X.out.up hb)
  have X3 := hide (X2.out.alloc #[.slice x1 l.length k1, .slice x2 l.length k2, .slice x3 ps.length k3] 33)
  have O3 := hide (O.below ((Below.refl w2.heap.size w2).alloc (Nat.le_refl _) (.cells #[.slice x1 l.length k1, .slice x2 l.length k2, .slice x3 ps.length k3] 33)))
  clear c0 c1' c2' O hb X X2
  obtain ⟨m, hm⟩ : ∃ m, m = w2.heap.size := ⟨_, rfl⟩
  obtain ⟨w3, hw3⟩ : ∃ w3, w3 = w2.alloc (.cells #[.slice x1 l.length k1, .slice x2 l.length k2, .slice x3 ps.length k3] 33) := ⟨_, rfl⟩
  rw [← hw3] at X3 O3
  rw [← hm] at X3 q2
  simp only [List.cons_append, List.nil_append] at X3
  have b0 : w3.cell? ⟨w.heap.size, 0, none⟩ = some (.slice a1 l.length c1) := X3.out.cell 0 0 rfl rfl
  have b1 : w3.cell? ⟨w.heap.size, 1, none⟩ = some (.slice a2 l.length c2) := X3.out.cell 0 1 rfl rfl
  have Q1 := hide q1
  have Q2 := hide q2
  rw [hw3] at b0 b1
  go_wp2_with fail
  rw [← hw3]
  try rw [← hm]
  clear b0 b1 hw3 hm q1 q2
  go_at_call 151
  refine (CH.out _ X3.out.below).mono ?_
  rintro e w4 ⟨rfl, hb⟩
  have K3 := hide (X3.out.up hb)
  have O3 := hide (O3.out.below hb)
  clear X3 hb
  cases t with
  | false =>
    obtain rfl : LL = l := HLL.out
    obtain rfl : RR = r := HRR.out
    have e0 : w4.cell? ⟨m, 0, none⟩ = some (.slice x1 LL.length k1) := K3.out.cell 2 0 rfl rfl
    have e1 : w4.cell? ⟨m, 1, none⟩ = some (.slice x2 LL.length k2) := K3.out.cell 2 1 rfl rfl
    have e2 : w4.cell? ⟨m, 2, none⟩ = some (.slice x3 ps.length k3) := K3.out.cell 2 2 rfl rfl
    have g0 : w4.cell? ⟨w.heap.size + 1, 0, none⟩ = some (.slice none 0 0) := K3.out.cell 1 0 rfl rfl
    have g1 : w4.cell? ⟨w.heap.size + 1, 1, none⟩ = some (.slice none 0 0) := K3.out.cell 1 1 rfl rfl
    have g2 : w4.cell? ⟨w.heap.size + 1, 2, none⟩ = some (.slice none 0 0) := K3.out.cell 1 2 rfl rfl
    have f0 := K3.out.free 1 0 rfl
    have f1 := K3.out.free 1 1 rfl
    have f2 := K3.out.free 1 2 rfl
    go_wp2_with fail
    have Z := ((K3.out.set 1 0 rfl (.slice x1 LL.length k1)).set 1 1 rfl (.slice x2 LL.length k2)).set 1 2 rfl (.slice x3 ps.length k3)
    have z0 := Z.cell 1 0 rfl rfl
    have z1 := Z.cell 1 1 rfl rfl
    have z2 := Z.cell 1 2 rfl rfl
    have q1 := Q1.out
    have hz := hz1.out
    have O6 := O3.out.seg (seg3 _ (w.heap.size + 1) (.slice x1 LL.length k1) (.slice x2 LL.length k2) (.slice x3 ps.length k3)) (.inr (by omega))
    exact bodyPost_ret (v := .tuple #[.agg #[.slice x1 LL.length k1, .slice x2 LL.length k2, .slice x3 ps.length k3], .bool false]) (by simp [results, Tryz.results138, go_sem, z0, z1, z2]) rfl
      ⟨_, _, _, lo, hi, n1, h1, n2, h2, n3, h3, rfl, by omega, O6.top.2, O6, Z.below⟩
  | true =>
    have EL : Hid (LL = swaps l sw) := HLL.out
    have ER : Hid (RR = swaps r sw) := HRR.out
    clear HLL HRR
    go_wp2_with fail
    go_loopw [29] (fun u wr => ∃ (k : Nat), k ≤ sw.length ∧ u = .int .i64 k ∧ Hid (Kn w wr [(w.heap.size, #[.slice a1 l.length c1, .slice a2 l.length c2, .slice a3 ps.length c3], 33), (w.heap.size + 1, #[.slice none 0 0, .slice none 0 0, .slice none 0 0], 33), (m, #[.slice x1 l.length k1, .slice x2 l.length k2, .slice x3 ps.length k3], 33)]) ∧ Hid (OC wr (.slice x1 l.length k1) (.slice x2 l.length k2) (.slice x3 ps.length k3) (swaps l (sw.take k)) (swaps r (sw.take k)) ps lo hi n1 h1 n2 h2 n3 h3)) (fun u _ => sw.length - (intOf u).toNat)
    case atStart => exact ⟨0, by omega, rfl, K3.out, by simpa [Hid, swaps] using O3.out⟩
    case round =>
      clear K3 O3
      obtain ⟨k, hk, rfl, K, O⟩ := hrel
      by_cases hlt : k < sw.length
      · have es1 := swaps_take l sw k hlt
        have es2 := swaps_take r sw k hlt
        obtain ⟨b1, o1, rfl, hb1, hc1, hc2⟩ := HCC.out k hlt
        have hok := List.all_eq_true.1 HT.out.symm _ (List.getElem_mem hlt)
        unfold swOk at hok
        simp only [Bool.and_eq_true, decide_eq_true_eq] at hok
        obtain ⟨⟨p1, p2⟩, p3, p4⟩ := hok
        obtain ⟨i, hi⟩ := Int.eq_ofNat_of_zero_le p1
        obtain ⟨j, hj⟩ := Int.eq_ofNat_of_zero_le p3
        rw [hi] at hc1 p2 es1 es2
        rw [hj] at hc2 p4 es1 es2
        rw [Int.toNat_natCast, Int.toNat_natCast] at es1 es2
        have d1 : wr.cell? ⟨b1, o1 + k * 2, none⟩ = some (.int .i64 i) := by rw [K.out.below.cell (p := ⟨b1, o1 + k * 2, none⟩) (Nat.lt_of_lt_of_le hb1 hB)]; exact hc1
        have d2 : wr.cell? ⟨b1, o1 + k * 2 + 1, none⟩ = some (.int .i64 j) := by rw [K.out.below.cell (p := ⟨b1, o1 + k * 2 + 1, none⟩) (Nat.lt_of_lt_of_le hb1 hB)]; exact hc2
        have H1 := hide (show i < (swaps l (sw.take k)).length by rw [swaps_length]; omega)
        have H2 := hide (show j < (swaps l (sw.take k)).length by rw [swaps_length]; omega)
        have H3 := hide (show i < (swaps r (sw.take k)).length by rw [swaps_length, HR.out]; omega)
        have H4 := hide (show j < (swaps r (sw.take k)).length by rw [swaps_length, HR.out]; omega)
        have ES1 := hide es1
        have ES2 := hide es2
        clear hc1 hc2 hb1 p1 p2 p3 p4 hi hj es1 es2
        have hbl := below1 wr (.cells #[.int .i64 i, .int .i64 j] 171)
        have K2 := hide (K.out.alloc #[.int .i64 i, .int .i64 j] 171)
        have O2 := hide (O.out.below hbl)
        clear hbl
        obtain ⟨w5, hw5⟩ : ∃ w5, w5 = wr.alloc (.cells #[.int .i64 i, .int .i64 j] 171) := ⟨_, rfl⟩
        rw [← hw5] at K2 O2
        simp only [List.cons_append, List.nil_append] at K2
        have e0 : w5.cell? ⟨m, 0, none⟩ = some (.slice x1 l.length k1) := K2.out.cell 2 0 rfl rfl
        rw [hw5] at e0
        have N5 := hide (show wr.heap.size < w5.heap.size by rw [hw5]; simp)
        have N6 := hide (Nat.le_trans O.out.top.2 (Nat.le_refl wr.heap.size))
        go_wp2_with fail
        rw [← hw5]
        clear e0 d1 d2
        go_at_call 152
        refine (iExch_ow _ (swaps l (sw.take k)) n1 h1 i j w5 O2.out.x H1.out H2.out).mono ?_
        rintro e' w6 ⟨⟨u, rfl⟩, Ox, s1⟩
        obtain ⟨l1, l2, l3⟩ := O.out.low
        obtain ⟨g1, g2, g3⟩ := O.out.high
        obtain ⟨r1, r2, r3⟩ := O.out.apart
        have hz := hz1.out
        have hq1 := Q1.out
        have hq2 := Q2.out
        have hn6 := N6.out
        have hm := K.out.lt 2 rfl
        have hlo := O.out.x.le
        have K3 := hide (K2.out.seg s1 (by omega) (by intro e he; simp at he; rcases he with rfl | rfl | rfl | rfl <;> simp <;> omega))
        have Oy := hide (O2.out.y.seg s1 (by omega))
        have Oz := hide (O2.out.z.seg s1 (by omega))
        have Ox := hide Ox
        have s1 := hide s1
        have e1 : w6.cell? ⟨m, 1, none⟩ = some (.slice x2 l.length k2) := K3.out.cell 2 1 rfl rfl
        have d1 : w6.cell? ⟨wr.heap.size, 0, none⟩ = some (.int .i64 i) := K3.out.cell 3 0 rfl rfl
        have d2 : w6.cell? ⟨wr.heap.size, 1, none⟩ = some (.int .i64 j) := K3.out.cell 3 1 rfl rfl
        have L := hide (And.intro l1 (And.intro l2 l3))
        have G := hide (And.intro g1 (And.intro g2 g3))
        have A := hide (And.intro r1 (And.intro r2 r3))
        clear l1 l2 l3 g1 g2 g3 r1 r2 r3 hz hq1 hq2 hn6 hm hlo K2 O2 hw5
        go_wp2_with fail
        go_at_call 152
        refine (iExch_ow _ (swaps r (sw.take k)) n2 h2 i j w6 Oy.out H3.out H4.out).mono ?_
        rintro e' w7 ⟨⟨u', rfl⟩, Oy7, s2⟩
        obtain ⟨l1, l2, l3⟩ := L.out
        obtain ⟨g1, g2, g3⟩ := G.out
        obtain ⟨r1, r2, r3⟩ := A.out
        have hz := hz1.out
        have hq1 := Q1.out
        have hq2 := Q2.out
        have hn6 := N6.out
        have hm := K.out.lt 2 rfl
        have hlo := O.out.y.le
        have K4 := hide ((K3.out.seg s2 (by omega) (by intro e he; simp at he; rcases he with rfl | rfl | rfl | rfl <;> simp <;> omega)).sub (M := [(w.heap.size, #[.slice a1 l.length c1, .slice a2 l.length c2, .slice a3 ps.length c3], 33), (w.heap.size + 1, #[.slice none 0 0, .slice none 0 0, .slice none 0 0], 33), (m, #[.slice x1 l.length k1, .slice x2 l.length k2, .slice x3 ps.length k3], 33)]) (List.sublist_append_left _ [_]))
        have Ox7 := hide (Ox.out.seg s2 (by omega))
        have Oz7 := hide (Oz.out.seg s2 (by omega))
        have hsz := hide (Nat.le_trans O.out.top.2 (Nat.le_trans (Nat.le_of_lt N5.out) (Nat.le_trans s1.out.below.size s2.below.size)))
        have Oy7 := hide Oy7
        clear l1 l2 l3 g1 g2 g3 r1 r2 r3 hz hq1 hq2 hn6 hm hlo K3 s2 d1 d2 e1
        go_wp2_with fail
        go_roundw
        case rel =>
          refine ⟨k + 1, by omega, by go_num, K4.out, ?_⟩
          show OC _ _ _ _ _ _ _ _ _ _ _ _ _ _ _
          rw [ES1.out, ES2.out]
          exact ⟨Ox7.out, Oy7.out, Oz7.out, L.out, G.out, A.out, O.out.top.1, hsz.out⟩
        case measure => simp [intOf]; omega
      · have hke : k = sw.length := by omega
        subst hke
        rw [List.take_length] at O
        rw [← EL.out, ← ER.out] at O
        have e0 : wr.cell? ⟨m, 0, none⟩ = some (.slice x1 l.length k1) := K.out.cell 2 0 rfl rfl
        have e1 : wr.cell? ⟨m, 1, none⟩ = some (.slice x2 l.length k2) := K.out.cell 2 1 rfl rfl
        have e2 : wr.cell? ⟨m, 2, none⟩ = some (.slice x3 ps.length k3) := K.out.cell 2 2 rfl rfl
        have g0 : wr.cell? ⟨w.heap.size + 1, 0, none⟩ = some (.slice none 0 0) := K.out.cell 1 0 rfl rfl
        have g1 : wr.cell? ⟨w.heap.size + 1, 1, none⟩ = some (.slice none 0 0) := K.out.cell 1 1 rfl rfl
        have g2 : wr.cell? ⟨w.heap.size + 1, 2, none⟩ = some (.slice none 0 0) := K.out.cell 1 2 rfl rfl
        have f0 := K.out.free 1 0 rfl
        have f1 := K.out.free 1 1 rfl
        have f2 := K.out.free 1 2 rfl
        go_wp2_with fail
        have Z := ((K.out.set 1 0 rfl (.slice x1 l.length k1)).set 1 1 rfl (.slice x2 l.length k2)).set 1 2 rfl (.slice x3 ps.length k3)
        have z0 := Z.cell 1 0 rfl rfl
        have z1 := Z.cell 1 1 rfl rfl
        have z2 := Z.cell 1 2 rfl rfl
        have q1 := Q1.out
        have hz := hz1.out
        have O6 := O.out.seg (seg3 _ (w.heap.size + 1) (.slice x1 l.length k1) (.slice x2 l.length k2) (.slice x3 ps.length k3)) (.inr (by omega))
        exact bodyPost_ret (v := .tuple #[.agg #[.slice x1 l.length k1, .slice x2 l.length k2, .slice x3 ps.length k3], .bool true]) (by simp [results, Tryz.results138, go_sem, z0, z1, z2]) rfl
          ⟨_, _, _, lo, hi, n1, h1, n2, h2, n3, h3, rfl, by omega, O6.top.2, O6, Z.below⟩

end Go.Proofs.YtajfhalalnlejaaGreat

/- What ApplySwaps of the program returns, whole (promise 3). Written by gen_aps.py. -/
namespace Go.Proofs.YtajfhalalnlejaaGreat
open Go.RowKit Go.ChangeShapes
set_option linter.unusedSimpArgs false
set_option linter.unusedVariables false
set_option maxRecDepth 100000

set_option maxHeartbeats 4000000 in
theorem iApply_ne (a1 a2 a3 : Option Addr) (c1 c2 c3 : Nat) (sv : Value) (l r : List Int) (ps sw : List Pv) (w : World) (B : Nat) (V : Hid (Ck w B (.agg #[.slice a1 l.length c1, .slice a2 r.length c2, .slice a3 ps.length c3]) l r ps)) (HR : ¬ (r.length = l.length)) (hs : Pvs w B sv sw) (hB : B ≤ w.heap.size) (hl : l.length ≤ 1048576) (hr : r.length ≤ 1048576) (hp : ps.length ≤ 1048576) :
    Calls Tryz.prog 138 #[.agg #[.slice a1 l.length c1, .slice a2 r.length c2, .slice a3 ps.length c3], sv] w (RetOCB w l r ps false) := by
  obtain ⟨ad, cap, rfl, -⟩ := hs
  have hq0 : ((r.length : Int) != (l.length : Int)) = true := by simp; omega
  have hq1 : (r.length == l.length) = false := by simp; omega
  have hq2 : decide (r.length = l.length) = false := by simp; omega
  clear HR
  have X := hide (Kn.two w #[.slice a1 l.length c1, .slice a2 r.length c2, .slice a3 ps.length c3] #[.slice none 0 0, .slice none 0 0, .slice none 0 0] 33 33)
  obtain ⟨w1, hw1⟩ : ∃ w1, w1 = (w.alloc (.cells #[.slice a1 l.length c1, .slice a2 r.length c2, .slice a3 ps.length c3] 33)).alloc (.cells #[.slice none 0 0, .slice none 0 0, .slice none 0 0] 33) := ⟨_, rfl⟩
  have hz1 := hide (show w1.heap.size = w.heap.size + 1 + 1 by rw [hw1]; simp)
  rw [← hw1] at X
  have C0 := hide (fun (W : World) (h : Below w.heap.size w W) => iCopy_any _ l r ps W B (V.out.below h hB) (Nat.le_trans hB h.size) hl hr hp)
  go_enter Tryz.func138, Tryz.ntmps138
  go_wp2_with fail
  rw [← hw1]
  clear hw1
  have c0 : w1.cell? ⟨w.heap.size, 0, none⟩ = some (.slice a1 l.length c1) := X.out.cell 0 0 rfl rfl
  have c1' : w1.cell? ⟨w.heap.size, 1, none⟩ = some (.slice a2 r.length c2) := X.out.cell 0 1 rfl rfl
  have c2' : w1.cell? ⟨w.heap.size, 2, none⟩ = some (.slice a3 ps.length c3) := X.out.cell 0 2 rfl rfl
  go_wp2_with fail
  go_at_call 66
  refine (C0.out _ X.out.below).mono ?_
  rintro e w2 ⟨x, y, z, lo, hi, n1, h1, n2, h2, n3, h3, rfl, q1, q2, O, hb⟩
  obtain ⟨x1, k1, rfl⟩ := O.x.form
  obtain ⟨x2, k2, rfl⟩ := O.y.form
  obtain ⟨x3, k3, rfl⟩ := O.z.own.form
  have X2 := hide (X.out.up hb)
  have X3 := hide (X2.out.alloc #[.slice x1 l.length k1, .slice x2 r.length k2, .slice x3 ps.length k3] 33)
  have O3 := hide (O.below ((Below.refl w2.heap.size w2).alloc (Nat.le_refl _) (.cells #[.slice x1 l.length k1, .slice x2 r.length k2, .slice x3 ps.length k3] 33)))
  clear c0 c1' c2' O hb X X2
  obtain ⟨m, hm⟩ : ∃ m, m = w2.heap.size := ⟨_, rfl⟩
  obtain ⟨w3, hw3⟩ : ∃ w3, w3 = w2.alloc (.cells #[.slice x1 l.length k1, .slice x2 r.length k2, .slice x3 ps.length k3] 33) := ⟨_, rfl⟩
  rw [← hw3] at X3 O3
  rw [← hm] at X3 q2
  simp only [List.cons_append, List.nil_append] at X3
  have b0 : w3.cell? ⟨w.heap.size, 0, none⟩ = some (.slice a1 l.length c1) := X3.out.cell 0 0 rfl rfl
  have b1 : w3.cell? ⟨w.heap.size, 1, none⟩ = some (.slice a2 r.length c2) := X3.out.cell 0 1 rfl rfl
  have g0 : w3.cell? ⟨w.heap.size + 1, 0, none⟩ = some (.slice none 0 0) := X3.out.cell 1 0 rfl rfl
  have g1 : w3.cell? ⟨w.heap.size + 1, 1, none⟩ = some (.slice none 0 0) := X3.out.cell 1 1 rfl rfl
  have g2 : w3.cell? ⟨w.heap.size + 1, 2, none⟩ = some (.slice none 0 0) := X3.out.cell 1 2 rfl rfl
  have f0 := X3.out.free 1 0 rfl
  have f1 := X3.out.free 1 1 rfl
  have f2 := X3.out.free 1 2 rfl
  have Q1 := hide q1
  have Q2 := hide q2
  rw [hw3] at b0 b1 g0 g1 g2 f0 f1 f2
  go_wp2_with fail
  have Z := ((X3.out.set 1 0 rfl (.slice x1 l.length k1)).set 1 1 rfl (.slice x2 r.length k2)).set 1 2 rfl (.slice x3 ps.length k3)
  have q1 := Q1.out
  have hz := hz1.out
  have O6 := O3.out.seg (seg3 _ (w.heap.size + 1) (.slice x1 l.length k1) (.slice x2 r.length k2) (.slice x3 ps.length k3)) (.inr (by omega))
  rw [hw3] at Z O6
  have z0 := Z.cell 1 0 rfl rfl
  have z1 := Z.cell 1 1 rfl rfl
  have z2 := Z.cell 1 2 rfl rfl
  exact bodyPost_ret (v := .tuple #[.agg #[.slice x1 l.length k1, .slice x2 r.length k2, .slice x3 ps.length k3], .bool false]) (by simp [results, Tryz.results138, go_sem, z0, z1, z2]) rfl
    ⟨_, _, _, lo, hi, n1, h1, n2, h2, n3, h3, rfl, by omega, O6.top.2, O6, Z.below⟩

theorem iApply_any (v sv : Value) (l r : List Int) (ps sw : List Pv) (w : World) (B : Nat) (hv : Ck w B v l r ps) (hs : Pvs w B sv sw) (hB : B ≤ w.heap.size) (hl : l.length ≤ 1048576) (hr : r.length ≤ 1048576) (hp : ps.length ≤ 1048576) :
    Calls Tryz.prog 138 #[v, sv] w (RetOCB w (apL l r sw) (apR l r sw) ps (canSwap l r sw)) := by
  obtain ⟨a1, c1, a2, c2, a3, c3, rfl, -⟩ := hv.form
  by_cases h : r.length = l.length
  · rw [h] at hv ⊢
    have e : canSwap l r sw = sw.all (swOk l.length) := by unfold canSwap; rw [decide_eq_true h]; rfl
    exact iApply_eq a1 a2 a3 c1 c2 c3 sv l r ps sw w B hv h hs hB hl hp _ e _ _ rfl rfl
  · have e : canSwap l r sw = false := by unfold canSwap; rw [decide_eq_false h]; rfl
    have e1 : apL l r sw = l := by unfold apL; rw [e]; rfl
    have e2 : apR l r sw = r := by unfold apR; rw [e]; rfl
    rw [e, e1, e2]
    exact iApply_ne a1 a2 a3 c1 c2 c3 sv l r ps sw w B hv h hs hB hl hr hp

end Go.Proofs.YtajfhalalnlejaaGreat

/- A scope in which the run jumps to two labels, 0 and 1: what holds at every jump, and a measure that every pass lowers. Any program. -/
namespace Go.Proofs.YtajfhalalnlejaaGreat
open Go.RowKit

/-- As Q; by a goto to label 0: J; to label 1: K; by any other goto: no way out. -/
def exitJ (J K : Act → World → Prop) (Q : Exit → Act → World → Prop) : Exit → Act → World → Prop
  | .goto l, a, w => (l = 0 ∧ J a w) ∨ (l = 1 ∧ K a w)
  | e, a, w => Q e a w

theorem exitJ_ret (J K : Act → World → Prop) (Q : Exit → Act → World → Prop) (a : Act) (w : World) : exitJ J K Q .ret a w = Q .ret a w := rfl

theorem exitJ_mono {J K J' K' : Act → World → Prop} {Q : Exit → Act → World → Prop} (hJ : ∀ a w, J a w → J' a w) (hK : ∀ a w, K a w → K' a w) (e : Exit) (a : Act) (w : World) (h : exitJ J K Q e a w) : exitJ J' K' Q e a w := by
  cases e with
  | goto l =>
    rcases h with h | h
    · exact .inl ⟨h.1, hJ _ _ h.2⟩
    · exact .inr ⟨h.1, hK _ _ h.2⟩
  | normal => exact h
  | exit id => exact h
  | ret => exact h
  | panic ch => exact h
  | outgrown => exact h

theorem code_mono {P : Program} {c : Code} {a : Act} {w : World} {Q Q' : Exit → Act → World → Prop} (h : ∀ e a w, Q e a w → Q' e a w) (H : c.wp P Q a w) : c.wp P Q' a w := by
  intro b k cs
  obtain ⟨e, a', w', hq, hr⟩ := H b k cs
  exact ⟨e, a', w', h _ _ _ hq, hr⟩

/-- What a pass has to show of its ends: at a goto to 0 and 1 (the measure below n), and at a return. -/
structure Ends (J K : Act → World → Prop) (μ ν : Act → World → Nat) (Q : Exit → Act → World → Prop) (n : Nat) (E : Exit → Act → World → Prop) : Prop where
  zero : ∀ a w, J a w → μ a w < n → E (.goto 0) a w
  one : ∀ a w, K a w → ν a w < n → E (.goto 1) a w
  ret : ∀ a w, Q .ret a w → E .ret a w

theorem wp_scope_two {P : Program} {a : Act} {w : World} {Q : Exit → Act → World → Prop} {c r0 r1 : Code} (J K : Act → World → Prop) (μ ν : Act → World → Nat) (h0 : findLabel c 0 = some (Code.skip.seq r0)) (h1 : findLabel c 1 = some (Code.skip.seq r1))
    (pass1 : ∀ n E, Hid (Ends J K μ ν Q n E) → ∀ a w, K a w → ν a w ≤ n → r1.wp P E a w)
    (pass0 : ∀ n E, Hid (Ends J K μ ν Q n E) → Hid (∀ a w, K a w → ν a w ≤ n → r1.wp P E a w) → ∀ a w, J a w → μ a w ≤ n → r0.wp P E a w)
    (first : ∀ E, (∀ a w, J a w → r0.wp P E a w) → Hid (∀ a w, Q .ret a w → E .ret a w) → c.wp P E a w) : (Code.scope c).wp P Q a w := by
  have en : ∀ n, Ends J K μ ν Q n (exitJ (fun a' w' => J a' w' ∧ μ a' w' < n) (fun a' w' => K a' w' ∧ ν a' w' < n) Q) := fun n =>
    ⟨fun a w h1 h2 => .inl ⟨rfl, h1, h2⟩, fun a w h1 h2 => .inr ⟨rfl, h1, h2⟩, fun a w h => h⟩
  have P1 : ∀ n a w, K a w → ν a w ≤ n → (Code.skip.seq r1).wp P (exitJ (fun a' w' => J a' w' ∧ μ a' w' < n) (fun a' w' => K a' w' ∧ ν a' w' < n) Q) a w :=
    fun n a w h h2 => wp_seq (wp_skip (pass1 n _ (en n) a w h h2))
  have P0 : ∀ n a w, J a w → μ a w ≤ n → (Code.skip.seq r0).wp P (exitJ (fun a' w' => J a' w' ∧ μ a' w' < n) (fun a' w' => K a' w' ∧ ν a' w' < n) Q) a w :=
    fun n a w h h2 => wp_seq (wp_skip (pass0 n _ (en n) (pass1 n _ (en n)) a w h h2))
  intro b k cs
  have g0 : gotoIn 0 (.inScope c :: k) = some (.code (Code.skip.seq r0) :: .inScope c :: k) := by simp [gotoIn, h0]
  have g1 : gotoIn 1 (.inScope c :: k) = some (.code (Code.skip.seq r1) :: .inScope c :: k) := by simp [gotoIn, h1]
  have key : ∀ n, (∀ a w, μ a w = n → J a w → ∃ e a' w', Q e a' w' ∧ Arrives P (lone (b.at a (.code (Code.skip.seq r0) :: .inScope c :: k)) cs w) b k cs e a' w') ∧ (∀ a w, ν a w = n → K a w → ∃ e a' w', Q e a' w' ∧ Arrives P (lone (b.at a (.code (Code.skip.seq r1) :: .inScope c :: k)) cs w) b k cs e a' w') := by
    intro n
    induction n using Nat.strongRecOn with
    | _ n ih =>
      refine ⟨fun a w hn hJ => ?_, fun a w hn hJ => ?_⟩
      · obtain ⟨e, a₁, w₁, hq, harr⟩ := P0 n a w hJ (by omega) b (.inScope c :: k) cs
        cases e with
        | normal => exact ⟨.normal, a₁, w₁, hq, Steps.trans harr (.one step_inScope)⟩
        | exit id => exact ⟨.exit id, a₁, w₁, hq, fun k' hk => harr k' (by simp [exitTo, hk])⟩
        | goto l' =>
          rcases hq with ⟨rfl, hJ', hlt⟩ | ⟨rfl, hJ', hlt⟩
          · obtain ⟨e₂, a₂, w₂, hq₂, harr₂⟩ := (ih _ hlt).1 a₁ w₁ rfl hJ'
            exact ⟨e₂, a₂, w₂, hq₂, .of_steps (harr _ g0) harr₂⟩
          · obtain ⟨e₂, a₂, w₂, hq₂, harr₂⟩ := (ih _ hlt).2 a₁ w₁ rfl hJ'
            exact ⟨e₂, a₂, w₂, hq₂, .of_steps (harr _ g1) harr₂⟩
        | ret => exact ⟨_, a₁, w₁, hq, harr⟩
        | panic ch => exact ⟨_, a₁, w₁, hq, harr⟩
        | outgrown => exact ⟨_, a₁, w₁, hq, harr⟩
      · obtain ⟨e, a₁, w₁, hq, harr⟩ := P1 n a w hJ (by omega) b (.inScope c :: k) cs
        cases e with
        | normal => exact ⟨.normal, a₁, w₁, hq, Steps.trans harr (.one step_inScope)⟩
        | exit id => exact ⟨.exit id, a₁, w₁, hq, fun k' hk => harr k' (by simp [exitTo, hk])⟩
        | goto l' =>
          rcases hq with ⟨rfl, hJ', hlt⟩ | ⟨rfl, hJ', hlt⟩
          · obtain ⟨e₂, a₂, w₂, hq₂, harr₂⟩ := (ih _ hlt).1 a₁ w₁ rfl hJ'
            exact ⟨e₂, a₂, w₂, hq₂, .of_steps (harr _ g0) harr₂⟩
          · obtain ⟨e₂, a₂, w₂, hq₂, harr₂⟩ := (ih _ hlt).2 a₁ w₁ rfl hJ'
            exact ⟨e₂, a₂, w₂, hq₂, .of_steps (harr _ g1) harr₂⟩
        | ret => exact ⟨_, a₁, w₁, hq, harr⟩
        | panic ch => exact ⟨_, a₁, w₁, hq, harr⟩
        | outgrown => exact ⟨_, a₁, w₁, hq, harr⟩
  have F := first (exitJ J K Q) (fun a w h => code_mono (fun e a' w' hq => exitJ_mono (fun _ _ h => h.1) (fun _ _ h => h.1) e a' w' hq) (pass0 _ _ (en _) (pass1 _ _ (en _)) a w h (Nat.le_refl _))) (fun a w h => h)
  obtain ⟨e, a₁, w₁, hq, harr⟩ := F b (.inScope c :: k) cs
  cases e with
  | normal => exact ⟨.normal, a₁, w₁, hq, .head step_scope (Steps.trans harr (.one step_inScope))⟩
  | exit id => exact ⟨.exit id, a₁, w₁, hq, fun k' hk => .head step_scope (harr k' (by simp [exitTo, hk]))⟩
  | goto l' =>
    rcases hq with ⟨rfl, hJ'⟩ | ⟨rfl, hJ'⟩
    · obtain ⟨e₂, a₂, w₂, hq₂, harr₂⟩ := (key _).1 a₁ w₁ rfl hJ'
      exact ⟨e₂, a₂, w₂, hq₂, .of_steps (.head step_scope (harr _ g0)) harr₂⟩
    · obtain ⟨e₂, a₂, w₂, hq₂, harr₂⟩ := (key _).2 a₁ w₁ rfl hJ'
      exact ⟨e₂, a₂, w₂, hq₂, .of_steps (.head step_scope (harr _ g1)) harr₂⟩
  | ret => exact ⟨_, a₁, w₁, hq, .of_steps (.one step_scope) harr⟩
  | panic ch => exact ⟨_, a₁, w₁, hq, .of_steps (.one step_scope) harr⟩
  | outgrown => exact ⟨_, a₁, w₁, hq, .of_steps (.one step_scope) harr⟩

end Go.Proofs.YtajfhalalnlejaaGreat

/- What Partition of the program returns: two labels (promise 3). Written by gen_pti.py. -/
namespace Go.Proofs.YtajfhalalnlejaaGreat
open Go.RowKit Go.ChangeShapes
set_option linter.unusedSimpArgs false
set_option linter.unusedVariables false
set_option maxRecDepth 100000

theorem part_stay (l : List Int) (p : Int) (f i e : Nat) (h : i < e) (hx : l.getD i 0 < p) : part l p (f + 1) i e = part l p f (i + 1) e := by rw [part_step l p f i e h, if_pos hx]
theorem part_back (l : List Int) (p : Int) (f i q : Nat) (h : i < q + 1) (hx : p ≤ l.getD i 0) (hy : p ≤ l.getD q 0) : part l p (f + 1) i (q + 1) = part l p f i q := by rw [part_step l p f i _ h, if_neg (by omega), Nat.add_sub_cancel, if_pos hy]
theorem part_swap (l : List Int) (p : Int) (f i q : Nat) (h : i < q + 1) (hx : p ≤ l.getD i 0) (hy : ¬ (p ≤ l.getD q 0)) : part l p (f + 1) i (q + 1) = (((i : Int), (q : Int)) :: (part l p f (i + 1) q).1, (part l p f (i + 1) q).2) := by
  rw [part_step l p f i _ h, if_neg (by omega), Nat.add_sub_cancel, if_neg hy]
  simp

/-- At the first label. -/
def AtL (w : World) (l : List Int) (p : Int) (ad : Option Addr) (cap n e : Nat) (R : List Pv × Int) (a' : Act) (w' : World) : Prop := ∃ (f i j : Nat) (x z : Int) (out : List Pv) (sv u4 u5 u6 u7 u8 u9 u13 u14 u15 u16 u17 u18 u19 u20 u21 u22 u23 u24 u25 u26 u27 u28 u29 u30 u31 u32 u33 u34 u35 u36 u37 u38 u39 u40 u41 u42 u43 u44 u45 u46 u47 u48 u49 u50 u51 u52 u53 u54 u55 u56 u57 u58 u59 u60 u61 u62 u63 u64 : Value), a' = { tmps := #[.slice ad l.length cap, .int .i64 n, .int .i64 e, .int .i64 p, u4, u5, u6, u7, u8, u9, sv, .int .i64 x, .int .i64 z, u13, u14, u15, u16, u17, u18, u19, u20, u21, u22, u23, u24, u25, u26, u27, u28, u29, u30, u31, u32, u33, u34, u35, u36, u37, u38, u39, u40, u41, u42, u43, u44, u45, u46, u47, u48, u49, u50, u51, u52, u53, u54, u55, u56, u57, u58, u59, u60, u61, u62, u63, u64], defers := [] } ∧ x = (i : Int) ∧ z = (j : Int) - 1 ∧ j ≤ e ∧ i ≤ e ∧ i ≤ j + 1 ∧ Hid (j - i ≤ f) ∧ Hid (R = (out ++ (part l p f i j).1, ((part l p f i j).2 : Int))) ∧ Hid (OwS w' w.heap.size sv out) ∧ Hid (out.length + j ≤ 2097152) ∧ Hid (Below w.heap.size w w')

/-- At the second label: the element at i is not less. -/
def AtR (w : World) (l : List Int) (p : Int) (ad : Option Addr) (cap n e : Nat) (R : List Pv × Int) (a' : Act) (w' : World) : Prop := ∃ (f i j : Nat) (x z : Int) (out : List Pv) (sv u4 u5 u6 u7 u8 u9 u13 u14 u15 u16 u17 u18 u19 u20 u21 u22 u23 u24 u25 u26 u27 u28 u29 u30 u31 u32 u33 u34 u35 u36 u37 u38 u39 u40 u41 u42 u43 u44 u45 u46 u47 u48 u49 u50 u51 u52 u53 u54 u55 u56 u57 u58 u59 u60 u61 u62 u63 u64 : Value), a' = { tmps := #[.slice ad l.length cap, .int .i64 n, .int .i64 e, .int .i64 p, u4, u5, u6, u7, u8, u9, sv, .int .i64 x, .int .i64 z, u13, u14, u15, u16, u17, u18, u19, u20, u21, u22, u23, u24, u25, u26, u27, u28, u29, u30, u31, u32, u33, u34, u35, u36, u37, u38, u39, u40, u41, u42, u43, u44, u45, u46, u47, u48, u49, u50, u51, u52, u53, u54, u55, u56, u57, u58, u59, u60, u61, u62, u63, u64], defers := [] } ∧ x = (i : Int) ∧ z = (j : Int) - 1 ∧ j ≤ e ∧ i ≤ e ∧ i ≤ j + 1 ∧ Hid (j - i ≤ f) ∧ Hid (R = (out ++ (part l p f i j).1, ((part l p f i j).2 : Int))) ∧ Hid (OwS w' w.heap.size sv out) ∧ Hid (out.length + j ≤ 2097152) ∧ Hid (Below w.heap.size w w') ∧ Hid (p ≤ l.getD i 0) ∧ Hid (i < l.length)

def muL (a' : Act) (_ : World) : Nat := 2 * (intOf (a'.tmps.getD 12 undef) + 2 - intOf (a'.tmps.getD 11 undef)).toNat + 1
def muR (a' : Act) (_ : World) : Nat := 2 * (intOf (a'.tmps.getD 12 undef) + 2 - intOf (a'.tmps.getD 11 undef)).toNat

set_option maxHeartbeats 4000000 in
theorem iPart_in (l : List Int) (n e : Nat) (p : Int) (ad : Option Addr) (cap : Nat) (w : World) (B : Nat) (HC : Hid (∀ j (h : j < l.length), ∃ b o, ad = some ⟨b, o, none⟩ ∧ b < B ∧ w.cell? ⟨b, o + j, none⟩ = some (.int .i64 l[j]))) (hB : B ≤ w.heap.size) (hl : l.length ≤ 1048576) (hne : n ≤ e) (hel : e ≤ l.length) (R : List Pv × Int) (HR : Hid (R = ((part l p (e - n) n e).1, ((part l p (e - n) n e).2 : Int)))) :
    Calls Tryz.prog 137 #[.slice ad l.length cap, .int .i64 n, .int .i64 e, .int .i64 p] w (RetSI w R) := by
  have t1 : decide ((n : Int) < 0) = false := by simp
  have t2 : decide (e < n) = false := by simp; omega
  have t3 : decide (l.length < e) = false := by simp; omega
  go_enter Tryz.func137, Tryz.ntmps137
  go_wp2_with fail
  refine wp_scope_two (AtL w l p ad cap n e R) (AtR w l p ad cap n e R) muL muR rfl rfl ?_ ?_ ?_
  · intro m E hE a' w' hK hm
    obtain ⟨f, i, j, x, z, out, sv, u4, u5, u6, u7, u8, u9, u13, u14, u15, u16, u17, u18, u19, u20, u21, u22, u23, u24, u25, u26, u27, u28, u29, u30, u31, u32, u33, u34, u35, u36, u37, u38, u39, u40, u41, u42, u43, u44, u45, u46, u47, u48, u49, u50, u51, u52, u53, u54, u55, u56, u57, u58, u59, u60, u61, u62, u63, u64, rfl, rfl, hz, hje, hie, hij, hf, hR, O, hol, hb, hx, hil⟩ := hK
    have hm2 := hide (show 2 * (z + 2 - (i : Int)).toNat ≤ m by simpa [muR, intOf] using hm)
    clear hm
    by_cases hlt : i < j
    · obtain ⟨q, rfl⟩ : ∃ q, j = q + 1 := ⟨j - 1, by omega⟩
      obtain rfl : z = (q : Int) := by omega
      obtain ⟨f', rfl⟩ : ∃ f', f = f' + 1 := ⟨f - 1, by have := hf.out; omega⟩
      have hql : q < l.length := by omega
      obtain ⟨b1, o1, rfl, hb1, hc1⟩ := HC.out q hql
      obtain ⟨y, hy⟩ : ∃ y, y = l[q] := ⟨_, rfl⟩
      have hyd := hide (show l.getD q 0 = y by rw [hy, List.getD_eq_getElem?_getD, List.getElem?_eq_getElem hql]; rfl)
      rw [← hy] at hc1
      have d1 : w'.cell? ⟨b1, o1 + q, none⟩ = some (.int .i64 y) := by rw [hb.out.cell (p := ⟨b1, o1 + q, none⟩) (Nat.lt_of_lt_of_le hb1 hB)]; exact hc1
      have s1n : decide (q < i) = false := by simp; omega
      have hfo := hf.out
      clear hb1 hc1 hy hf hz
      by_cases e2 : p ≤ y
      · have hn2 := hide (show R = (out ++ (part l p f' i q).1, ((part l p f' i q).2 : Int)) by rw [hR.out, part_back l p f' i q hlt hx.out (by rw [hyd.out]; exact e2)])
        have t4 : decide (y ≥ p) = true := by simp; omega
        have t5 : decide (p ≤ y) = true := by simp; omega
        have hol2 := hide (show out.length + q ≤ 2097152 by have := hol.out; omega)
        go_wp2_with fail
        go_step3
        refine hE.out.one _ _ ⟨f', i, q, _, _, out, _, _, _, _, _, _, _, _, _, _, _, _, _, _, _, _, _, _, _, _, _, _, _, _, _, _, _, _, _, _, _, _, _, _, _, _, _, _, _, _, _, _, _, _, _, _, _, _, _, _, _, _, _, _, _, _, _, _, _, rfl, rfl, by go_num, by omega, by omega, by omega, by show _ ≤ _; omega, hn2, O.out, hol2.out, hb.out, hx.out, hil.out⟩ ?_
        have := hm2.out
        simp [muR, intOf]; omega
      · have hn2 := hide (show R = ((out ++ [((i : Int), (q : Int))]) ++ (part l p f' (i + 1) q).1, ((part l p f' (i + 1) q).2 : Int)) by rw [hR.out, part_swap l p f' i q hlt hx.out (by rw [hyd.out]; exact e2)]; simp)
        have t4 : decide (y ≥ p) = false := by simp; omega
        have t5 : decide (p ≤ y) = false := by simp; omega
        have hol2 := hide (show (out ++ [((i : Int), (q : Int))]).length + q ≤ 2097152 by have := hol.out; simp; omega)
        have hbs := hide hb.out.size
        obtain ⟨uv, ucap, huf⟩ := O.out.form
        subst huf
        go_wp2_with (first | (at_builtin; refine os_append _ rfl _ _ rfl w.heap.size _ _ O.out rfl _ _ _ _ rfl rfl (by have := hol.out; omega) hbs.out ?_; intro v5 w5 hown5 hb5 hq5) | fail)
        have O := hide hown5
        have hb := hide (hb.out.trans hb5)
        clear hown5 hb5 hq5
        go_step3
        refine hE.out.zero _ _ ⟨f', i + 1, q, _, _, out ++ [((i : Int), (q : Int))], _, _, _, _, _, _, _, _, _, _, _, _, _, _, _, _, _, _, _, _, _, _, _, _, _, _, _, _, _, _, _, _, _, _, _, _, _, _, _, _, _, _, _, _, _, _, _, _, _, _, _, _, _, _, _, _, _, _, _, rfl, by go_num, by go_num, by omega, by omega, by omega, by show _ ≤ _; omega, hn2, O.out, hol2.out, hb.out⟩ ?_
        have := hm2.out
        simp [muL, intOf]; omega
    · have hst := part_stop l p f i j hlt
      have hn2 := hide (show R = (out, (i : Int)) by rw [hR.out, hst]; simp)
      have s1' : decide (z < (i : Int)) = true := by simp; omega
      clear hst
      go_wp2_with fail
      refine hE.out.ret _ _ ?_
      go_ret2
      exact ⟨_, by rw [hn2.out]; rfl, by rw [hn2.out]; exact O.out, hb.out⟩
  · intro m E hE HP a' w' hJ hm
    obtain ⟨f, i, j, x, z, out, sv, u4, u5, u6, u7, u8, u9, u13, u14, u15, u16, u17, u18, u19, u20, u21, u22, u23, u24, u25, u26, u27, u28, u29, u30, u31, u32, u33, u34, u35, u36, u37, u38, u39, u40, u41, u42, u43, u44, u45, u46, u47, u48, u49, u50, u51, u52, u53, u54, u55, u56, u57, u58, u59, u60, u61, u62, u63, u64, rfl, rfl, hz, hje, hie, hij, hf, hR, O, hol, hb⟩ := hJ
    have hm2 := hide (show 2 * (z + 2 - (i : Int)).toNat + 1 ≤ m by simpa [muL, intOf] using hm)
    clear hm
    by_cases hlt : i < j
    · obtain ⟨q, rfl⟩ : ∃ q, j = q + 1 := ⟨j - 1, by omega⟩
      obtain rfl : z = (q : Int) := by omega
      have hil : i < l.length := by omega
      obtain ⟨b1, o1, rfl, hb1, hc1⟩ := HC.out i hil
      obtain ⟨y, hy⟩ : ∃ y, y = l[i] := ⟨_, rfl⟩
      have hyd := hide (show l.getD i 0 = y by rw [hy, List.getD_eq_getElem?_getD, List.getElem?_eq_getElem hil]; rfl)
      rw [← hy] at hc1
      have d1 : w'.cell? ⟨b1, o1 + i, none⟩ = some (.int .i64 y) := by rw [hb.out.cell (p := ⟨b1, o1 + i, none⟩) (Nat.lt_of_lt_of_le hb1 hB)]; exact hc1
      have s1n : decide (q < i) = false := by simp; omega
      clear hb1 hc1 hy hz
      by_cases e2 : y < p
      · obtain ⟨f', rfl⟩ : ∃ f', f = f' + 1 := ⟨f - 1, by have := hf.out; omega⟩
        have hn2 := hide (show R = (out ++ (part l p f' (i + 1) (q + 1)).1, ((part l p f' (i + 1) (q + 1)).2 : Int)) by rw [hR.out, part_stay l p f' i (q + 1) hlt (by rw [hyd.out]; exact e2)])
        have hfo := hf.out
        have t4 : decide (y < p) = true := by simp; omega
        clear hf
        go_wp2_with fail
        go_step3
        refine hE.out.zero _ _ ⟨f', i + 1, q + 1, _, _, out, _, _, _, _, _, _, _, _, _, _, _, _, _, _, _, _, _, _, _, _, _, _, _, _, _, _, _, _, _, _, _, _, _, _, _, _, _, _, _, _, _, _, _, _, _, _, _, _, _, _, _, _, _, _, _, _, _, _, _, rfl, by go_num, by go_num, by omega, by omega, by omega, by show _ ≤ _; omega, hn2, O.out, hol.out, hb.out⟩ ?_
        have := hm2.out
        simp [muL, intOf]; omega
      · have t4 : decide (y < p) = false := by simp; omega
        have hx := hide (show p ≤ l.getD i 0 by rw [hyd.out]; omega)
        go_wp2_with fail
        go_step3
        rename_i hK
        refine hK _ _ (HP.out _ _ ⟨f, i, q + 1, _, _, out, _, _, _, _, _, _, _, _, _, _, _, _, _, _, _, _, _, _, _, _, _, _, _, _, _, _, _, _, _, _, _, _, _, _, _, _, _, _, _, _, _, _, _, _, _, _, _, _, _, _, _, _, _, _, _, _, _, _, _, rfl, rfl, by go_num, hje, hie, hij, hf.out, hR.out, O.out, hol.out, hb.out, hx.out, hil⟩ ?_)
        have := hm2.out
        simp [muR, intOf]; omega
    · have hst := part_stop l p f i j hlt
      have hn2 := hide (show R = (out, (i : Int)) by rw [hR.out, hst]; simp)
      have s1' : decide (z < (i : Int)) = true := by simp; omega
      clear hst
      go_wp2_with fail
      refine hE.out.ret _ _ ?_
      go_ret2
      exact ⟨_, by rw [hn2.out]; rfl, by rw [hn2.out]; exact O.out, hb.out⟩
  · intro E HP HQ
    have HP := hide HP
    go_wp2_with fail
    go_step3
    rename_i hK
    refine hK _ _ (HP.out _ _ ⟨e - n, n, e, _, _, [], _, _, _, _, _, _, _, _, _, _, _, _, _, _, _, _, _, _, _, _, _, _, _, _, _, _, _, _, _, _, _, _, _, _, _, _, _, _, _, _, _, _, _, _, _, _, _, _, _, _, _, _, _, _, _, _, _, _, _, rfl, by go_num, by go_num, by omega, by omega, by omega, Nat.le_refl _, by simpa [Hid] using HR.out, OwS.nil _ _, by simp [Hid]; omega, Below.refl _ _⟩)

end Go.Proofs.YtajfhalalnlejaaGreat

/- What Partition of the program returns, whole (promise 3). -/
namespace Go.Proofs.YtajfhalalnlejaaGreat
open Go.RowKit Go.ChangeShapes
set_option linter.unusedSimpArgs false
set_option linter.unusedVariables false
set_option maxRecDepth 100000

set_option maxHeartbeats 4000000 in
theorem iPart_no (l : List Int) (a b p : Int) (ad : Option Addr) (cap : Nat) (w : World) (hl : l.length ≤ 1048576) (h1 : ¬ (0 ≤ a ∧ a ≤ b ∧ b ≤ (l.length : Int))) :
    Calls Tryz.prog 137 #[.slice ad l.length cap, .int .i64 a, .int .i64 b, .int .i64 p] w (RetSI w ([], 0)) := by
  by_cases q1 : a < 0
  · have t1 : decide (a < 0) = true := by simp; omega
    clear h1
    go_enter Tryz.func137, Tryz.ntmps137
    go_wp2_with fail
    go_step3
    go_wp2_with fail
    rw [Exit.noGoto_ret]
    go_ret2
    exact ⟨_, rfl, OwS.nil _ _, Below.refl _ _⟩
  · have t1 : decide (a < 0) = false := by simp; omega
    by_cases q2 : b < a
    · have t2 : decide (b < a) = true := by simp; omega
      have t2' : decide (a > b) = true := by simp; omega
      clear h1
      go_enter Tryz.func137, Tryz.ntmps137
      go_wp2_with fail
      go_step3
      go_wp2_with fail
      rw [Exit.noGoto_ret]
      go_ret2
      exact ⟨_, rfl, OwS.nil _ _, Below.refl _ _⟩
    · have t2 : decide (b < a) = false := by simp; omega
      have t2' : decide (a > b) = false := by simp; omega
      have t3 : decide ((l.length : Int) < b) = true := by simp; omega
      have t3' : decide (b > (l.length : Int)) = true := by simp; omega
      clear h1
      go_enter Tryz.func137, Tryz.ntmps137
      go_wp2_with fail
      go_step3
      go_wp2_with fail
      rw [Exit.noGoto_ret]
      go_ret2
      exact ⟨_, rfl, OwS.nil _ _, Below.refl _ _⟩

theorem iPart_any (v : Value) (l : List Int) (a b p : Int) (w : World) (B : Nat) (hv : Ints w B v l) (hB : B ≤ w.heap.size) (hl : l.length ≤ 1048576) :
    Calls Tryz.prog 137 #[v, .int .i64 a, .int .i64 b, .int .i64 p] w (RetSI w (partP l a b p)) := by
  obtain ⟨ad, cap, rfl, hlen, -, hcell⟩ := hv
  by_cases h1 : 0 ≤ a ∧ a ≤ b ∧ b ≤ (l.length : Int)
  · obtain ⟨g1, g2, g3⟩ := h1
    obtain ⟨n, rfl⟩ := Int.eq_ofNat_of_zero_le g1
    obtain ⟨e, rfl⟩ := Int.eq_ofNat_of_zero_le (show 0 ≤ b by omega)
    refine iPart_in l n e p ad cap w B hcell hB hl (by omega) (by omega) _ ?_
    show _ = _
    unfold partP
    rw [if_pos ⟨g1, g2, g3⟩]
    simp only [Int.toNat_natCast]
    rw [show ((e : Int) - (n : Int)).toNat = e - n by omega]
  · have : partP l a b p = ([], 0) := by unfold partP; rw [if_neg h1]
    rw [this]
    exact iPart_no l a b p ad cap w hl h1

end Go.Proofs.YtajfhalalnlejaaGreat

/- What CrackAt of the program returns (promise 3). Written by gen_cri.py. -/
namespace Go.Proofs.YtajfhalalnlejaaGreat
open Go.RowKit Go.ChangeShapes
set_option linter.unusedSimpArgs false
set_option linter.unusedVariables false
set_option maxRecDepth 100000

set_option maxHeartbeats 8000000 in
theorem iCrack_any (u : Value) (l r : List Int) (ps : List Pv) (v : Int) (w : World) (B : Nat) (hv : Ck w B u l r ps) (hB : B ≤ w.heap.size) (hl : l.length ≤ 1048576) (hr : r.length ≤ 1048576) (hp : ps.length ≤ 1048576) (hvw : I64 v) :
    Calls Tryz.prog 119 #[u, .int .i64 v] w (RetOCSB w (crL l r ps v) (crR l r ps v) (crP l r ps v) (crS l r ps v) (crOk l r ps v)) := by
  obtain ⟨a1, c1, a2, c2, a3, c3, rfl, i1, i2, i3⟩ := hv.form
  obtain ⟨wl, wr, wpl, wp⟩ := hv.wf
  have V := hide hv
  have I1 := hide i1
  clear hv i1 i2 i3
  obtain ⟨t0, ht0⟩ : ∃ t, t = isCk l r ps := ⟨_, rfl⟩
  obtain ⟨bd, hbd⟩ : ∃ t, t = decide (-1000 ≤ v ∧ v ≤ 1000) := ⟨_, rfl⟩
  obtain ⟨fd, hfd⟩ : ∃ p, p = fndP ps v := ⟨_, rfl⟩
  obtain ⟨pc, hpc⟩ : ∃ p, p = pieceP l r ps v := ⟨_, rfl⟩
  obtain ⟨pt, hpt⟩ : ∃ p, p = crPt l r ps v := ⟨_, rfl⟩
  obtain ⟨L1, hL1⟩ : ∃ p, p = apL l r pt.1 := ⟨_, rfl⟩
  obtain ⟨R1, hR1⟩ : ∃ p, p = apR l r pt.1 := ⟨_, rfl⟩
  obtain ⟨P1, hP1⟩ : ∃ p, p = adP L1 R1 ps (v, pt.2) := ⟨_, rfl⟩
  obtain ⟨nl, hnl⟩ : ∃ p, p = crL l r ps v := ⟨_, rfl⟩
  obtain ⟨nr, hnr⟩ : ∃ p, p = crR l r ps v := ⟨_, rfl⟩
  obtain ⟨np, hnp⟩ : ∃ p, p = crP l r ps v := ⟨_, rfl⟩
  obtain ⟨ns, hns⟩ : ∃ p, p = crS l r ps v := ⟨_, rfl⟩
  obtain ⟨ok, hok⟩ : ∃ p, p = crOk l r ps v := ⟨_, rfl⟩
  have HOK := hide (show ok = (t0 && bd) by rw [hok, ht0, hbd]; rfl)
  have HDV := hide (show crDiv l r ps v = ((t0 && bd) && !fd.2) by rw [ht0, hbd, hfd]; rfl)
  have HNL := hide (show nl = if ((t0 && bd) && !fd.2) = true then L1 else l by rw [← HDV.out, hnl, hL1, hpt]; rfl)
  have HNR := hide (show nr = if ((t0 && bd) && !fd.2) = true then R1 else r by rw [← HDV.out, hnr, hR1, hpt]; rfl)
  have HNP := hide (show np = if ((t0 && bd) && !fd.2) = true then P1 else ps by rw [← HDV.out, hnp, hP1, hL1, hR1, hpt]; rfl)
  have HNS := hide (show ns = if ((t0 && bd) && !fd.2) = true then pt.1 else [] by rw [← HDV.out, hns, hpt]; rfl)
  rw [← hnl, ← hnr, ← hnp, ← hns, ← hok]
  have HPT := hide (show pt = partP l pc.1 pc.2 v by rw [hpt, hpc]; rfl)
  have hnum := partP_nums l pc.1 pc.2 v hl
  have hpw := partP_wf l pc.1 pc.2 v hl
  rw [← HPT.out] at hnum hpw
  have HL1 := hide (show L1.length ≤ 1048576 ∧ (∀ x ∈ L1, I64 x) by rw [hL1]; exact ⟨by rw [apL_length]; exact hl, apL_wf wl⟩)
  have HR1 := hide (show R1.length ≤ 1048576 ∧ (∀ x ∈ R1, I64 x) by rw [hR1]; exact ⟨by rw [apR_length]; exact hr, apR_wf wr⟩)
  have HNM := hide hnum
  have HPW := hide hpw
  have HWP := hide wp
  have CK := hide (fun (W : World) (h : Below w.heap.size w W) => show Calls Tryz.prog 33 #[.agg #[.slice a1 l.length c1, .slice a2 r.length c2, .slice a3 ps.length c3]] W (RetB1 W t0) by rw [ht0]; exact iIsCk_any _ l r ps W B (V.out.below h hB) (Nat.le_trans hB h.size))
  have CF := hide (fun (W : World) (h : Below w.heap.size w W) => show Calls Tryz.prog 67 #[.agg #[.slice a1 l.length c1, .slice a2 r.length c2, .slice a3 ps.length c3], .int .i64 v] W (RetPB W fd) by rw [hfd]; exact iFindP_any _ l r ps v W B (V.out.below h hB) (Nat.le_trans hB h.size))
  have CC := hide (fun (W : World) (h : Below w.heap.size w W) => iCopy_any _ l r ps W B (V.out.below h hB) (Nat.le_trans hB h.size) hl hr hp)
  have CP := hide (fun (W : World) (h : Below w.heap.size w W) => show Calls Tryz.prog 84 #[.agg #[.slice a1 l.length c1, .slice a2 r.length c2, .slice a3 ps.length c3], .int .i64 v] W (RetII W pc) by rw [hpc]; exact iPieceOf_any _ l r ps v W B (V.out.below h hB) (Nat.le_trans hB h.size))
  have CT := hide (fun (W : World) (h : Below w.heap.size w W) => show Calls Tryz.prog 137 #[.slice a1 l.length c1, .int .i64 pc.1, .int .i64 pc.2, .int .i64 v] W (RetSI W pt) by rw [HPT.out]; exact iPart_any _ l pc.1 pc.2 v W B (I1.out.below h hB) (Nat.le_trans hB h.size) hl)
  have CAp := hide (fun (W : World) (sv : Value) (h : Below w.heap.size w W) (h2 : Pvs W W.heap.size sv pt.1) => show Calls Tryz.prog 138 #[.agg #[.slice a1 l.length c1, .slice a2 r.length c2, .slice a3 ps.length c3], sv] W (RetOCB W L1 R1 ps (canSwap l r pt.1)) by rw [hL1, hR1]; exact iApply_any _ sv l r ps pt.1 W W.heap.size ((V.out.below h hB).mono (Nat.le_trans hB h.size)) h2 (Nat.le_refl _) hl hr hp)
  have CAd := hide (fun (W : World) (x : Value) (h : Ck W W.heap.size x L1 R1 ps) => show Calls Tryz.prog 139 #[x, .agg #[.int .i64 v, .int .i64 pt.2]] W (RetOCB W L1 R1 P1 (adOk L1 R1 ps (v, pt.2))) by rw [hP1]; exact iAdd_any x L1 R1 ps v pt.2 W W.heap.size h ⟨hvw, ⟨by have := HNM.out; omega, by have := HNM.out; omega⟩⟩ (Nat.le_refl _) HL1.out.1 HR1.out.1 hp)
  have HBD := hide hbd
  clear ht0 hbd hfd hpc hpt hL1 hR1 hP1 hnl hnr hnp hns hok hnum hpw wl wr wpl wp
  obtain ⟨f0, f1⟩ := fd
  obtain ⟨pa, pb⟩ := pc
  obtain ⟨sw, at0⟩ := pt
  simp only at HDV HNL HNR HNP HNS CT CAp CAd HNM HPW CP HPT
  obtain ⟨cs, hcs⟩ : ∃ t, t = canSwap l r sw := ⟨_, rfl⟩
  obtain ⟨ad, had⟩ : ∃ t, t = adOk L1 R1 ps (v, at0) := ⟨_, rfl⟩
  rw [← hcs] at CAp
  rw [← had] at CAd
  clear hcs had
  have X := hide (Kn.two w #[.slice a1 l.length c1, .slice a2 r.length c2, .slice a3 ps.length c3] #[.slice none 0 0, .slice none 0 0, .slice none 0 0] 33 33)
  obtain ⟨w1, hw1⟩ : ∃ w1, w1 = (w.alloc (.cells #[.slice a1 l.length c1, .slice a2 r.length c2, .slice a3 ps.length c3] 33)).alloc (.cells #[.slice none 0 0, .slice none 0 0, .slice none 0 0] 33) := ⟨_, rfl⟩
  have hz1 := hide (show w1.heap.size = w.heap.size + 1 + 1 by rw [hw1]; simp)
  rw [← hw1] at X
  have d0 : w1.cell? ⟨w.heap.size, 0, none⟩ = some (.slice a1 l.length c1) := X.out.cell 0 0 rfl rfl
  have d1 : w1.cell? ⟨w.heap.size, 1, none⟩ = some (.slice a2 r.length c2) := X.out.cell 0 1 rfl rfl
  have d2 : w1.cell? ⟨w.heap.size, 2, none⟩ = some (.slice a3 ps.length c3) := X.out.cell 0 2 rfl rfl
  rw [hw1] at d0 d1 d2
  go_enter Tryz.func119, Tryz.ntmps119
  go_wp2_with fail
  rw [← hw1]
  clear hw1 d0 d1 d2
  go_at_call 33
  refine (CK.out _ X.out.below).mono ?_
  rintro e w2 ⟨rfl, hb⟩
  have X := hide (X.out.up hb)
  have N2 := hide (Nat.le_trans (Nat.le_of_eq hz1.out.symm) hb.size)
  clear hb
  cases t0 with
  | false =>
    have d0 : w2.cell? ⟨w.heap.size, 0, none⟩ = some (.slice a1 l.length c1) := X.out.cell 0 0 rfl rfl
    have d1 : w2.cell? ⟨w.heap.size, 1, none⟩ = some (.slice a2 r.length c2) := X.out.cell 0 1 rfl rfl
    have d2 : w2.cell? ⟨w.heap.size, 2, none⟩ = some (.slice a3 ps.length c3) := X.out.cell 0 2 rfl rfl
    go_wp2_with fail
    go_at_call 67
    refine (CF.out _ X.out.below).mono ?_
    rintro e w3 ⟨rfl, hb⟩
    have X := hide (X.out.up hb)
    have N3 := hide (Nat.le_trans N2.out hb.size)
    clear hb d0 d1 d2
    have d0 : w3.cell? ⟨w.heap.size, 0, none⟩ = some (.slice a1 l.length c1) := X.out.cell 0 0 rfl rfl
    have d1 : w3.cell? ⟨w.heap.size, 1, none⟩ = some (.slice a2 r.length c2) := X.out.cell 0 1 rfl rfl
    have d2 : w3.cell? ⟨w.heap.size, 2, none⟩ = some (.slice a3 ps.length c3) := X.out.cell 0 2 rfl rfl
    cases f1 with
    | false =>
      obtain rfl : nl = l := by simpa [Hid] using HNL
      obtain rfl : nr = r := by simpa [Hid] using HNR
      obtain rfl : np = ps := by simpa [Hid] using HNP
      obtain rfl : ns = [] := by simpa [Hid] using HNS
      obtain rfl : ok = false := by simpa [Hid] using HOK
      go_wp2_with fail
      go_at_call 66
      refine (CC.out _ X.out.below).mono ?_
      rintro e w8 ⟨x', y', z', lo', hi', n1', h1', n2', h2', n4, h4, rfl, q1, q2, O8, hb⟩
      obtain ⟨v1, j1, rfl⟩ := O8.x.form
      obtain ⟨v2, j2, rfl⟩ := O8.y.form
      obtain ⟨v3, j4, rfl⟩ := O8.z.own.form
      have K8 := hide (X.out.up hb)
      have P3 := hide (Nat.le_trans X.out.below.size q1)
      have P5 := hide (Nat.lt_of_lt_of_le (X.out.lt 1 rfl) q1)
      have O8 := hide O8
      clear d0 d1 d2 hb q1 q2 X
      have g0 : w8.cell? ⟨w.heap.size + 1, 0, none⟩ = some (.slice none 0 0) := K8.out.cell 1 0 rfl rfl
      have g1 : w8.cell? ⟨w.heap.size + 1, 1, none⟩ = some (.slice none 0 0) := K8.out.cell 1 1 rfl rfl
      have g2 : w8.cell? ⟨w.heap.size + 1, 2, none⟩ = some (.slice none 0 0) := K8.out.cell 1 2 rfl rfl
      have f0' := K8.out.free 1 0 rfl
      have f1' := K8.out.free 1 1 rfl
      have f2' := K8.out.free 1 2 rfl
      go_wp2_with fail
      have Z := ((K8.out.set 1 0 rfl (.slice v1 nl.length j1)).set 1 1 rfl (.slice v2 nr.length j2)).set 1 2 rfl (.slice v3 np.length j4)
      have z0 := Z.cell 1 0 rfl rfl
      have z1 := Z.cell 1 1 rfl rfl
      have z2 := Z.cell 1 2 rfl rfl
      have O9 := O8.out.seg (seg3 _ (w.heap.size + 1) (.slice v1 nl.length j1) (.slice v2 nr.length j2) (.slice v3 np.length j4)) (.inr P5.out)
      exact bodyPost_ret (v := .tuple #[.agg #[.slice v1 nl.length j1, .slice v2 nr.length j2, .slice v3 np.length j4], .slice none 0 0, .bool false]) (by simp [results, Tryz.results119, go_sem, z0, z1, z2]) rfl
        ⟨_, _, _, _, lo', hi', n1', h1', n2', h2', n4, h4, _, _, rfl, ⟨P3.out, Z.below.size⟩, ⟨O9.top.2, Nat.le_refl _⟩, O9, Osw.nil (Nat.le_refl _), .inl O9.top.2, Z.below⟩
    | true =>
      obtain rfl : nl = l := by simpa [Hid] using HNL
      obtain rfl : nr = r := by simpa [Hid] using HNR
      obtain rfl : np = ps := by simpa [Hid] using HNP
      obtain rfl : ns = [] := by simpa [Hid] using HNS
      obtain rfl : ok = false := by simpa [Hid] using HOK
      go_wp2_with fail
      go_at_call 66
      refine (CC.out _ X.out.below).mono ?_
      rintro e w8 ⟨x', y', z', lo', hi', n1', h1', n2', h2', n4, h4, rfl, q1, q2, O8, hb⟩
      obtain ⟨v1, j1, rfl⟩ := O8.x.form
      obtain ⟨v2, j2, rfl⟩ := O8.y.form
      obtain ⟨v3, j4, rfl⟩ := O8.z.own.form
      have K8 := hide (X.out.up hb)
      have P3 := hide (Nat.le_trans X.out.below.size q1)
      have P5 := hide (Nat.lt_of_lt_of_le (X.out.lt 1 rfl) q1)
      have O8 := hide O8
      clear d0 d1 d2 hb q1 q2 X
      have g0 : w8.cell? ⟨w.heap.size + 1, 0, none⟩ = some (.slice none 0 0) := K8.out.cell 1 0 rfl rfl
      have g1 : w8.cell? ⟨w.heap.size + 1, 1, none⟩ = some (.slice none 0 0) := K8.out.cell 1 1 rfl rfl
      have g2 : w8.cell? ⟨w.heap.size + 1, 2, none⟩ = some (.slice none 0 0) := K8.out.cell 1 2 rfl rfl
      have f0' := K8.out.free 1 0 rfl
      have f1' := K8.out.free 1 1 rfl
      have f2' := K8.out.free 1 2 rfl
      go_wp2_with fail
      have Z := ((K8.out.set 1 0 rfl (.slice v1 nl.length j1)).set 1 1 rfl (.slice v2 nr.length j2)).set 1 2 rfl (.slice v3 np.length j4)
      have z0 := Z.cell 1 0 rfl rfl
      have z1 := Z.cell 1 1 rfl rfl
      have z2 := Z.cell 1 2 rfl rfl
      have O9 := O8.out.seg (seg3 _ (w.heap.size + 1) (.slice v1 nl.length j1) (.slice v2 nr.length j2) (.slice v3 np.length j4)) (.inr P5.out)
      exact bodyPost_ret (v := .tuple #[.agg #[.slice v1 nl.length j1, .slice v2 nr.length j2, .slice v3 np.length j4], .slice none 0 0, .bool false]) (by simp [results, Tryz.results119, go_sem, z0, z1, z2]) rfl
        ⟨_, _, _, _, lo', hi', n1', h1', n2', h2', n4, h4, _, _, rfl, ⟨P3.out, Z.below.size⟩, ⟨O9.top.2, Nat.le_refl _⟩, O9, Osw.nil (Nat.le_refl _), .inl O9.top.2, Z.below⟩
  | true =>
    cases bd with
    | false =>
      have d0 : w2.cell? ⟨w.heap.size, 0, none⟩ = some (.slice a1 l.length c1) := X.out.cell 0 0 rfl rfl
      have d1 : w2.cell? ⟨w.heap.size, 1, none⟩ = some (.slice a2 r.length c2) := X.out.cell 0 1 rfl rfl
      have d2 : w2.cell? ⟨w.heap.size, 2, none⟩ = some (.slice a3 ps.length c3) := X.out.cell 0 2 rfl rfl
      have hvb := of_decide_eq_false HBD.out.symm
      have CB := hide (fun (W : World) => bound_no v W (by omega))
      clear hvb
      go_wp2_with fail
      go_at_call 83
      refine (CB.out _).mono ?_
      rintro e wq ⟨rfl, rfl⟩
      go_wp2_with fail
      go_at_call 67
      refine (CF.out _ X.out.below).mono ?_
      rintro e w3 ⟨rfl, hb⟩
      have X := hide (X.out.up hb)
      have N3 := hide (Nat.le_trans N2.out hb.size)
      clear hb d0 d1 d2
      have d0 : w3.cell? ⟨w.heap.size, 0, none⟩ = some (.slice a1 l.length c1) := X.out.cell 0 0 rfl rfl
      have d1 : w3.cell? ⟨w.heap.size, 1, none⟩ = some (.slice a2 r.length c2) := X.out.cell 0 1 rfl rfl
      have d2 : w3.cell? ⟨w.heap.size, 2, none⟩ = some (.slice a3 ps.length c3) := X.out.cell 0 2 rfl rfl
      cases f1 with
      | false =>
        obtain rfl : nl = l := by simpa [Hid] using HNL
        obtain rfl : nr = r := by simpa [Hid] using HNR
        obtain rfl : np = ps := by simpa [Hid] using HNP
        obtain rfl : ns = [] := by simpa [Hid] using HNS
        obtain rfl : ok = false := by simpa [Hid] using HOK
        go_wp2_with fail
        go_at_call 66
        refine (CC.out _ X.out.below).mono ?_
        rintro e w8 ⟨x', y', z', lo', hi', n1', h1', n2', h2', n4, h4, rfl, q1, q2, O8, hb⟩
        obtain ⟨v1, j1, rfl⟩ := O8.x.form
        obtain ⟨v2, j2, rfl⟩ := O8.y.form
        obtain ⟨v3, j4, rfl⟩ := O8.z.own.form
        have K8 := hide (X.out.up hb)
        have P3 := hide (Nat.le_trans X.out.below.size q1)
        have P5 := hide (Nat.lt_of_lt_of_le (X.out.lt 1 rfl) q1)
        have O8 := hide O8
        clear d0 d1 d2 hb q1 q2 X
        have g0 : w8.cell? ⟨w.heap.size + 1, 0, none⟩ = some (.slice none 0 0) := K8.out.cell 1 0 rfl rfl
        have g1 : w8.cell? ⟨w.heap.size + 1, 1, none⟩ = some (.slice none 0 0) := K8.out.cell 1 1 rfl rfl
        have g2 : w8.cell? ⟨w.heap.size + 1, 2, none⟩ = some (.slice none 0 0) := K8.out.cell 1 2 rfl rfl
        have f0' := K8.out.free 1 0 rfl
        have f1' := K8.out.free 1 1 rfl
        have f2' := K8.out.free 1 2 rfl
        go_wp2_with fail
        have Z := ((K8.out.set 1 0 rfl (.slice v1 nl.length j1)).set 1 1 rfl (.slice v2 nr.length j2)).set 1 2 rfl (.slice v3 np.length j4)
        have z0 := Z.cell 1 0 rfl rfl
        have z1 := Z.cell 1 1 rfl rfl
        have z2 := Z.cell 1 2 rfl rfl
        have O9 := O8.out.seg (seg3 _ (w.heap.size + 1) (.slice v1 nl.length j1) (.slice v2 nr.length j2) (.slice v3 np.length j4)) (.inr P5.out)
        exact bodyPost_ret (v := .tuple #[.agg #[.slice v1 nl.length j1, .slice v2 nr.length j2, .slice v3 np.length j4], .slice none 0 0, .bool false]) (by simp [results, Tryz.results119, go_sem, z0, z1, z2]) rfl
          ⟨_, _, _, _, lo', hi', n1', h1', n2', h2', n4, h4, _, _, rfl, ⟨P3.out, Z.below.size⟩, ⟨O9.top.2, Nat.le_refl _⟩, O9, Osw.nil (Nat.le_refl _), .inl O9.top.2, Z.below⟩
      | true =>
        obtain rfl : nl = l := by simpa [Hid] using HNL
        obtain rfl : nr = r := by simpa [Hid] using HNR
        obtain rfl : np = ps := by simpa [Hid] using HNP
        obtain rfl : ns = [] := by simpa [Hid] using HNS
        obtain rfl : ok = false := by simpa [Hid] using HOK
        go_wp2_with fail
        go_at_call 66
        refine (CC.out _ X.out.below).mono ?_
        rintro e w8 ⟨x', y', z', lo', hi', n1', h1', n2', h2', n4, h4, rfl, q1, q2, O8, hb⟩
        obtain ⟨v1, j1, rfl⟩ := O8.x.form
        obtain ⟨v2, j2, rfl⟩ := O8.y.form
        obtain ⟨v3, j4, rfl⟩ := O8.z.own.form
        have K8 := hide (X.out.up hb)
        have P3 := hide (Nat.le_trans X.out.below.size q1)
        have P5 := hide (Nat.lt_of_lt_of_le (X.out.lt 1 rfl) q1)
        have O8 := hide O8
        clear d0 d1 d2 hb q1 q2 X
        have g0 : w8.cell? ⟨w.heap.size + 1, 0, none⟩ = some (.slice none 0 0) := K8.out.cell 1 0 rfl rfl
        have g1 : w8.cell? ⟨w.heap.size + 1, 1, none⟩ = some (.slice none 0 0) := K8.out.cell 1 1 rfl rfl
        have g2 : w8.cell? ⟨w.heap.size + 1, 2, none⟩ = some (.slice none 0 0) := K8.out.cell 1 2 rfl rfl
        have f0' := K8.out.free 1 0 rfl
        have f1' := K8.out.free 1 1 rfl
        have f2' := K8.out.free 1 2 rfl
        go_wp2_with fail
        have Z := ((K8.out.set 1 0 rfl (.slice v1 nl.length j1)).set 1 1 rfl (.slice v2 nr.length j2)).set 1 2 rfl (.slice v3 np.length j4)
        have z0 := Z.cell 1 0 rfl rfl
        have z1 := Z.cell 1 1 rfl rfl
        have z2 := Z.cell 1 2 rfl rfl
        have O9 := O8.out.seg (seg3 _ (w.heap.size + 1) (.slice v1 nl.length j1) (.slice v2 nr.length j2) (.slice v3 np.length j4)) (.inr P5.out)
        exact bodyPost_ret (v := .tuple #[.agg #[.slice v1 nl.length j1, .slice v2 nr.length j2, .slice v3 np.length j4], .slice none 0 0, .bool false]) (by simp [results, Tryz.results119, go_sem, z0, z1, z2]) rfl
          ⟨_, _, _, _, lo', hi', n1', h1', n2', h2', n4, h4, _, _, rfl, ⟨P3.out, Z.below.size⟩, ⟨O9.top.2, Nat.le_refl _⟩, O9, Osw.nil (Nat.le_refl _), .inl O9.top.2, Z.below⟩
    | true =>
      have d0 : w2.cell? ⟨w.heap.size, 0, none⟩ = some (.slice a1 l.length c1) := X.out.cell 0 0 rfl rfl
      have d1 : w2.cell? ⟨w.heap.size, 1, none⟩ = some (.slice a2 r.length c2) := X.out.cell 0 1 rfl rfl
      have d2 : w2.cell? ⟨w.heap.size, 2, none⟩ = some (.slice a3 ps.length c3) := X.out.cell 0 2 rfl rfl
      have hvb := of_decide_eq_true HBD.out.symm
      have CB := hide (fun (W : World) => bound_yes v W hvb.1 hvb.2)
      clear hvb
      go_wp2_with fail
      go_at_call 83
      refine (CB.out _).mono ?_
      rintro e wq ⟨rfl, rfl⟩
      go_wp2_with fail
      go_at_call 67
      refine (CF.out _ X.out.below).mono ?_
      rintro e w3 ⟨rfl, hb⟩
      have X := hide (X.out.up hb)
      have N3 := hide (Nat.le_trans N2.out hb.size)
      clear hb d0 d1 d2
      have d0 : w3.cell? ⟨w.heap.size, 0, none⟩ = some (.slice a1 l.length c1) := X.out.cell 0 0 rfl rfl
      have d1 : w3.cell? ⟨w.heap.size, 1, none⟩ = some (.slice a2 r.length c2) := X.out.cell 0 1 rfl rfl
      have d2 : w3.cell? ⟨w.heap.size, 2, none⟩ = some (.slice a3 ps.length c3) := X.out.cell 0 2 rfl rfl
      cases f1 with
      | true =>
        obtain rfl : nl = l := by simpa [Hid] using HNL
        obtain rfl : nr = r := by simpa [Hid] using HNR
        obtain rfl : np = ps := by simpa [Hid] using HNP
        obtain rfl : ns = [] := by simpa [Hid] using HNS
        obtain rfl : ok = true := by simpa [Hid] using HOK
        go_wp2_with fail
        go_at_call 66
        refine (CC.out _ X.out.below).mono ?_
        rintro e w8 ⟨x', y', z', lo', hi', n1', h1', n2', h2', n4, h4, rfl, q1, q2, O8, hb⟩
        obtain ⟨v1, j1, rfl⟩ := O8.x.form
        obtain ⟨v2, j2, rfl⟩ := O8.y.form
        obtain ⟨v3, j4, rfl⟩ := O8.z.own.form
        have K8 := hide (X.out.up hb)
        have P3 := hide (Nat.le_trans X.out.below.size q1)
        have P5 := hide (Nat.lt_of_lt_of_le (X.out.lt 1 rfl) q1)
        have O8 := hide O8
        clear d0 d1 d2 hb q1 q2 X
        have g0 : w8.cell? ⟨w.heap.size + 1, 0, none⟩ = some (.slice none 0 0) := K8.out.cell 1 0 rfl rfl
        have g1 : w8.cell? ⟨w.heap.size + 1, 1, none⟩ = some (.slice none 0 0) := K8.out.cell 1 1 rfl rfl
        have g2 : w8.cell? ⟨w.heap.size + 1, 2, none⟩ = some (.slice none 0 0) := K8.out.cell 1 2 rfl rfl
        have f0' := K8.out.free 1 0 rfl
        have f1' := K8.out.free 1 1 rfl
        have f2' := K8.out.free 1 2 rfl
        go_wp2_with fail
        have Z := ((K8.out.set 1 0 rfl (.slice v1 nl.length j1)).set 1 1 rfl (.slice v2 nr.length j2)).set 1 2 rfl (.slice v3 np.length j4)
        have z0 := Z.cell 1 0 rfl rfl
        have z1 := Z.cell 1 1 rfl rfl
        have z2 := Z.cell 1 2 rfl rfl
        have O9 := O8.out.seg (seg3 _ (w.heap.size + 1) (.slice v1 nl.length j1) (.slice v2 nr.length j2) (.slice v3 np.length j4)) (.inr P5.out)
        exact bodyPost_ret (v := .tuple #[.agg #[.slice v1 nl.length j1, .slice v2 nr.length j2, .slice v3 np.length j4], .slice none 0 0, .bool true]) (by simp [results, Tryz.results119, go_sem, z0, z1, z2]) rfl
          ⟨_, _, _, _, lo', hi', n1', h1', n2', h2', n4, h4, _, _, rfl, ⟨P3.out, Z.below.size⟩, ⟨O9.top.2, Nat.le_refl _⟩, O9, Osw.nil (Nat.le_refl _), .inl O9.top.2, Z.below⟩
      | false =>
        obtain rfl : nl = L1 := by simpa [Hid] using HNL
        obtain rfl : nr = R1 := by simpa [Hid] using HNR
        obtain rfl : np = P1 := by simpa [Hid] using HNP
        obtain rfl : ns = sw := by simpa [Hid] using HNS
        obtain rfl : ok = true := by simpa [Hid] using HOK
        go_wp2_with fail
        go_at_call 84
        refine (CP.out _ X.out.below).mono ?_
        rintro e w4 ⟨rfl, hb⟩
        have X := hide (X.out.up hb)
        have N4 := hide (Nat.le_trans N3.out hb.size)
        clear hb d0 d1 d2
        have d0 : w4.cell? ⟨w.heap.size, 0, none⟩ = some (.slice a1 l.length c1) := X.out.cell 0 0 rfl rfl
        have d1 : w4.cell? ⟨w.heap.size, 1, none⟩ = some (.slice a2 r.length c2) := X.out.cell 0 1 rfl rfl
        have d2 : w4.cell? ⟨w.heap.size, 2, none⟩ = some (.slice a3 ps.length c3) := X.out.cell 0 2 rfl rfl
        go_wp2_with fail
        go_at_call 137
        refine (CT.out _ X.out.below).mono ?_
        rintro e w5 ⟨sv, rfl, OS, hb⟩
        obtain ⟨sg, sk, rfl⟩ := OS.form
        have X := hide (X.out.up hb)
        have OS := hide (Osw.of OS hb.size)
        have N5 := hide hb.size
        clear hb d0 d1 d2
        have d0 : w5.cell? ⟨w.heap.size, 0, none⟩ = some (.slice a1 l.length c1) := X.out.cell 0 0 rfl rfl
        have d1 : w5.cell? ⟨w.heap.size, 1, none⟩ = some (.slice a2 r.length c2) := X.out.cell 0 1 rfl rfl
        have d2 : w5.cell? ⟨w.heap.size, 2, none⟩ = some (.slice a3 ps.length c3) := X.out.cell 0 2 rfl rfl
        go_wp2_with fail
        go_at_call 138
        refine (CAp.out _ _ X.out.below (OS.out.own.pvs (Nat.le_refl _) (by have := HNM.out.2.1; omega) HPW.out)).mono ?_
        rintro e w6 ⟨x, y, z, lo, hi, n1, h1, n2, h2, n3, h3, rfl, q1, q2, O, hb⟩
        obtain ⟨x1, k1, rfl⟩ := O.x.form
        obtain ⟨x2, k2, rfl⟩ := O.y.form
        obtain ⟨x3, k3, rfl⟩ := O.z.own.form
        have X := hide (X.out.up hb)
        have OS := hide (OS.out.below hb)
        have HC := hide (O.ck HL1.out.2 HR1.out.2 (by omega) HWP.out)
        clear d0 d1 d2 O q1 q2
        have hs6 := hide hb.size
        clear hb
        have bl := below1 w6 (.cells #[.slice x1 nl.length k1, .slice x2 nr.length k2, .slice x3 ps.length k3] 33)
        have X := hide (X.out.alloc #[.slice x1 nl.length k1, .slice x2 nr.length k2, .slice x3 ps.length k3] 33)
        have OS := hide (OS.out.below bl)
        have HC := hide (HC.out.up bl)
        clear bl
        obtain ⟨m, hm⟩ : ∃ m, m = w6.heap.size := ⟨_, rfl⟩
        obtain ⟨w7, hw7⟩ : ∃ q, q = w6.alloc (.cells #[.slice x1 nl.length k1, .slice x2 nr.length k2, .slice x3 ps.length k3] 33) := ⟨_, rfl⟩
        have hs7 := hide (show w7.heap.size = m + 1 by rw [hw7, hm]; simp)
        rw [← hw7] at X OS HC
        rw [← hm] at X
        have hs6 := hide (show w5.heap.size ≤ m by rw [hm]; exact hs6.out)
        simp only [List.cons_append, List.nil_append] at X
        go_wp2_with fail
        rw [← hw7]
        try rw [← hm]
        clear hw7 hm
        go_at_call 139
        refine (CAd.out _ _ HC.out).mono ?_
        rintro e w8 ⟨x', y', z', lo, hi, n1, h1, n2, h2, n3, h3, rfl, q1, q2, O, hb⟩
        obtain ⟨v1, j1, rfl⟩ := O.x.form
        obtain ⟨v2, j2, rfl⟩ := O.y.form
        obtain ⟨v3, j3, rfl⟩ := O.z.own.form
        have K8 := hide (X.out.up hb)
        have OS := hide (OS.out.below hb)
        have Q1 := hide (show m + 1 ≤ lo by rw [← hs7.out]; exact q1)
        have O := hide O
        clear hb q1 q2 X HC
        have g0 : w8.cell? ⟨w.heap.size + 1, 0, none⟩ = some (.slice none 0 0) := K8.out.cell 1 0 rfl rfl
        have g1 : w8.cell? ⟨w.heap.size + 1, 1, none⟩ = some (.slice none 0 0) := K8.out.cell 1 1 rfl rfl
        have g2 : w8.cell? ⟨w.heap.size + 1, 2, none⟩ = some (.slice none 0 0) := K8.out.cell 1 2 rfl rfl
        have f0' := K8.out.free 1 0 rfl
        have f1' := K8.out.free 1 1 rfl
        have f2' := K8.out.free 1 2 rfl
        have b0 : w8.cell? ⟨m, 0, none⟩ = some (.slice x1 nl.length k1) := K8.out.cell 2 0 rfl rfl
        have b1 : w8.cell? ⟨m, 1, none⟩ = some (.slice x2 nr.length k2) := K8.out.cell 2 1 rfl rfl
        have b2 : w8.cell? ⟨m, 2, none⟩ = some (.slice x3 ps.length k3) := K8.out.cell 2 2 rfl rfl
        have e0 := K8.out.free 2 0 rfl
        have e1 := K8.out.free 2 1 rfl
        have e2 := K8.out.free 2 2 rfl
        have Z0 := ((K8.out.set 2 0 rfl (.slice v1 nl.length j1)).set 2 1 rfl (.slice v2 nr.length j2)).set 2 2 rfl (.slice v3 np.length j3)
        have Z := ((Z0.set 1 0 rfl (.slice v1 nl.length j1)).set 1 1 rfl (.slice v2 nr.length j2)).set 1 2 rfl (.slice v3 np.length j3)
        have z0 := Z.cell 1 0 rfl rfl
        have z1 := Z.cell 1 1 rfl rfl
        have z2 := Z.cell 1 2 rfl rfl
        have HZ := hide Z
        have hne1 : ¬ (m = w.heap.size + 1) := by have := N4.out; have := N5.out; have := hs6.out; omega
        have hne2 : ¬ (w.heap.size + 1 = m) := by omega
        have Q0 := hide (show w.heap.size + 1 + 1 ≤ lo by have := N4.out; have := N5.out; have := hs6.out; have := Q1.out; omega)
        have Q2 := hide (show w.heap.size + 1 + 1 ≤ w4.heap.size from N4.out)
        have hs56 := hide (show w5.heap.size ≤ m from hs6.out)
        clear Z Z0
        go_wp2_with fail
        have O1 := hide (O.out.seg (seg3 _ m (.slice v1 nl.length j1) (.slice v2 nr.length j2) (.slice v3 np.length j3)) (.inr (by have := Q1.out; omega)))
        have O2 := hide (O1.out.seg (seg3 _ (w.heap.size + 1) (.slice v1 nl.length j1) (.slice v2 nr.length j2) (.slice v3 np.length j3)) (.inr Q0.out))
        have T1 := hide (OS.out.seg (seg3 _ m (.slice v1 nl.length j1) (.slice v2 nr.length j2) (.slice v3 np.length j3)) (.inl hs56.out))
        have T2 := hide (T1.out.seg (seg3 _ (w.heap.size + 1) (.slice v1 nl.length j1) (.slice v2 nr.length j2) (.slice v3 np.length j3)) (.inr Q2.out))
        exact bodyPost_ret (v := .tuple #[.agg #[.slice v1 nl.length j1, .slice v2 nr.length j2, .slice v3 np.length j3], .slice sg ns.length sk, .bool true]) (by simp [results, Tryz.results119, go_sem, z0, z1, z2]) rfl
          ⟨_, _, _, _, lo, hi, n1, h1, n2, h2, n3, h3, _, _, rfl, ⟨by have := Q0.out; omega, by have := Q2.out; omega⟩, ⟨O2.out.top.2, T2.out.top⟩, O2.out, T2.out, .inr (by have := Q1.out; have := hs56.out; omega), HZ.out.below⟩

end Go.Proofs.YtajfhalalnlejaaGreat

/- What EqualCrackers returns: of the reference and of the program (promise 3). -/
namespace Go.Proofs.YtajfhalalnlejaaGreat
open Go.RowKit Go.ChangeShapes
set_option linter.unusedSimpArgs false
set_option linter.unusedVariables false
set_option maxRecDepth 100000

/-- Do two columns read alike? -/
def eqC (l r : List Int) (ps : List Pv) (l' r' : List Int) (ps' : List Pv) : Bool := decide (l = l') && (decide (r = r') && decide (ps = ps'))

set_option maxHeartbeats 1000000 in
theorem sL4Ints_any (v u : Value) (l m : List Int) (w : World) (B : Nat) (hv : Ints w B v l) (hu : Ints w B u m) :
    Calls Tryz.prog 76 #[v, u] w (RetB1 w (decide (l = m))) := by
  obtain ⟨a, cap, rfl, hlen, hwf, hcell⟩ := hv
  obtain ⟨c, cap2, rfl, hlen2, hwf2, hcell2⟩ := hu
  have HC := hide hcell
  have HC2 := hide hcell2
  clear hcell hcell2 hwf hwf2
  by_cases hne : l.length = m.length
  · have hd : ((l.length : Int) != (m.length : Int)) = false := by rw [bne_eq_false_iff_eq]; omega
    have hd2 : ((l.length : Int) == (m.length : Int)) = true := by rw [beq_iff_eq]; omega
    obtain ⟨b0, hb0⟩ : ∃ b0, b0 = decide (l = m) := ⟨_, rfl⟩
    have HN := hide hne
    have HB := hide hb0
    rw [← hb0]
    clear hne hb0
    go_enter Tryz.func76, Tryz.ntmps76
    go_wp2
    go_loopw [5] (fun i wr => ∃ (k q : Nat), k ≤ l.length ∧ i = .int .i64 k ∧ Hid (l.take k = m.take k) ∧ wr = w.drewN q) (fun i _ => l.length - (intOf i).toNat)
    case atStart => exact ⟨0, 0, by omega, rfl, rfl, rfl⟩
    case round =>
      obtain ⟨k, q, hk, rfl, hpre, rfl⟩ := hrel
      by_cases hlt : k < l.length
      · have hlt2 : k < m.length := by have := HN.out; omega
        obtain ⟨b, o, rfl, hbB, hc⟩ := HC.out k hlt
        obtain ⟨b2, o2, rfl, hbB2, hc2⟩ := HC2.out k hlt2
        obtain ⟨x, hx⟩ : ∃ x, x = l[k] := ⟨_, rfl⟩
        obtain ⟨y, hy⟩ : ∃ y, y = m[k] := ⟨_, rfl⟩
        rw [← hx] at hc
        rw [← hy] at hc2
        have HX := hide hx
        have HY := hide hy
        clear hx hy
        by_cases hxy : x = y
        · have ht : (x != y) = false := by rw [bne_eq_false_iff_eq]; exact hxy
          have HE := hide hxy
          clear hxy
          go_wp2
          go_quiet (fail)
          go_wp2
          go_roundw
          case rel => exact ⟨k + 1, q + nq, by omega, by go_num, take_eq_step hpre.out hlt hlt2 (by rw [← HX.out, ← HY.out]; exact HE.out), rfl⟩
          case measure => simp [intOf]; omega
        · have ht : (x != y) = true := by rw [bne_iff_ne]; exact hxy
          have HE := hide hxy
          clear hxy
          go_wp2
          go_quiet (fail)
          go_wp2
          go_ret
          refine ⟨?_, below_drewN (below_drewN (Below.refl _ _) _) _⟩
          rw [HB.out, decide_eq_false (fun hh => HE.out (by rw [HX.out, HY.out]; subst hh; rfl))]
          rfl
      · have hke : k = l.length := by omega
        subst hke
        have hlm : b0 = true := by
          rw [HB.out]
          have h1 := hpre.out
          rw [List.take_of_length_le (Nat.le_refl _), List.take_of_length_le (by have := HN.out; omega)] at h1
          simp [h1]
        have HLM := hide hlm
        clear hlm
        go_wp2
        go_ret
        exact ⟨by rw [HLM.out]; rfl, below_drewN (Below.refl _ _) _⟩
  · have hd : ((l.length : Int) != (m.length : Int)) = true := by rw [bne_iff_ne]; omega
    have hd2 : ((l.length : Int) == (m.length : Int)) = false := by rw [beq_eq_false_iff_ne]; omega
    have hb0 := hide (show decide (l = m) = false from decide_eq_false (fun hh => hne (by rw [hh])))
    clear hne
    go_enter Tryz.func76, Tryz.ntmps76
    go_wp2
    go_ret
    exact ⟨by rw [hb0.out]; rfl, Below.refl _ _⟩

set_option maxHeartbeats 1000000 in
theorem sL4Same_any (v u : Value) (l m : List Pv) (w : World) (B : Nat) (hv : Pvs w B v l) (hu : Pvs w B u m) :
    Calls Tryz.prog 77 #[v, u] w (RetB1 w (decide (l = m))) := by
  obtain ⟨a, cap, rfl, hlen, hwf, hcell⟩ := hv
  obtain ⟨c, cap2, rfl, hlen2, hwf2, hcell2⟩ := hu
  have HC := hide hcell
  have HC2 := hide hcell2
  clear hcell hcell2 hwf hwf2
  by_cases hne : l.length = m.length
  · have hd : ((l.length : Int) != (m.length : Int)) = false := by rw [bne_eq_false_iff_eq]; omega
    have hd2 : ((l.length : Int) == (m.length : Int)) = true := by rw [beq_iff_eq]; omega
    obtain ⟨b0, hb0⟩ : ∃ b0, b0 = decide (l = m) := ⟨_, rfl⟩
    have HN := hide hne
    have HB := hide hb0
    rw [← hb0]
    clear hne hb0
    go_enter Tryz.func77, Tryz.ntmps77
    go_wp2
    go_loopw [5] (fun i wr => ∃ (k q : Nat), k ≤ l.length ∧ i = .int .i64 k ∧ Hid (l.take k = m.take k) ∧ wr = w.drewN q) (fun i _ => l.length - (intOf i).toNat)
    case atStart => exact ⟨0, 0, by omega, rfl, rfl, rfl⟩
    case round =>
      obtain ⟨k, q, hk, rfl, hpre, rfl⟩ := hrel
      by_cases hlt : k < l.length
      · have hlt2 : k < m.length := by have := HN.out; omega
        obtain ⟨b, o, rfl, hbB, hc, hc'⟩ := HC.out k hlt
        obtain ⟨b2, o2, rfl, hbB2, hc2, hc2'⟩ := HC2.out k hlt2
        obtain ⟨p, hx⟩ : ∃ x, x = l[k] := ⟨_, rfl⟩
        obtain ⟨p2, hy⟩ : ∃ y, y = m[k] := ⟨_, rfl⟩
        rw [← hx] at hc hc'
        rw [← hy] at hc2 hc2'
        obtain ⟨x, x'⟩ := p
        obtain ⟨y, y'⟩ := p2
        simp only at hc hc' hc2 hc2'
        have HX := hide hx
        have HY := hide hy
        clear hx hy
        by_cases hxy : x = y ∧ x' = y'
        · obtain ⟨rfl, rfl⟩ := hxy
          have ht : (x == x) = true := by simp
          have ht2 : (x' == x') = true := by simp
          go_wp2
          go_quiet (fail)
          go_wp2
          go_roundw
          case rel => exact ⟨k + 1, q + nq, by omega, by go_num, by
            show _ = _
            rw [List.take_succ_eq_append_getElem hlt, List.take_succ_eq_append_getElem hlt2, hpre.out, ← HX.out, ← HY.out], rfl⟩
          case measure => simp [intOf]; omega
        · have HE := hide hxy
          by_cases h0 : x = y
          · have h1 : ¬ x' = y' := fun h => hxy ⟨h0, h⟩
            have ht : (x == y) = true := by rw [beq_iff_eq]; exact h0
            have ht2 : (x' == y') = false := by rw [beq_eq_false_iff_ne]; exact h1
            clear hxy h0 h1
            go_wp2
            go_quiet (fail)
            go_wp2
            go_ret
            refine ⟨?_, below_drewN (below_drewN (Below.refl _ _) _) _⟩
            rw [HB.out, decide_eq_false (fun hh => HE.out (by subst hh; have := HX.out.trans HY.out.symm; exact ⟨congrArg Prod.fst this, congrArg Prod.snd this⟩))]
            rfl
          · have ht : (x == y) = false := by rw [beq_eq_false_iff_ne]; exact h0
            clear hxy h0
            go_wp2
            go_quiet (fail)
            go_wp2
            go_ret
            refine ⟨?_, below_drewN (below_drewN (Below.refl _ _) _) _⟩
            rw [HB.out, decide_eq_false (fun hh => HE.out (by subst hh; have := HX.out.trans HY.out.symm; exact ⟨congrArg Prod.fst this, congrArg Prod.snd this⟩))]
            rfl
      · have hke : k = l.length := by omega
        subst hke
        have hlm : b0 = true := by
          rw [HB.out]
          have h1 := hpre.out
          rw [List.take_of_length_le (Nat.le_refl _), List.take_of_length_le (by have := HN.out; omega)] at h1
          simp [h1]
        have HLM := hide hlm
        clear hlm
        go_wp2
        go_ret
        exact ⟨by rw [HLM.out]; rfl, below_drewN (Below.refl _ _) _⟩
  · have hd : ((l.length : Int) != (m.length : Int)) = true := by rw [bne_iff_ne]; omega
    have hd2 : ((l.length : Int) == (m.length : Int)) = false := by rw [beq_eq_false_iff_ne]; omega
    have hb0 := hide (show decide (l = m) = false from decide_eq_false (fun hh => hne (by rw [hh])))
    clear hne
    go_enter Tryz.func77, Tryz.ntmps77
    go_wp2
    go_ret
    exact ⟨by rw [hb0.out]; rfl, Below.refl _ _⟩

set_option maxHeartbeats 2000000 in
theorem sEqCk_any (v u : Value) (l r l' r' : List Int) (ps ps' : List Pv) (w : World) (B : Nat) (hv : Ck w B v l r ps) (hu : Ck w B u l' r' ps') (hB : B ≤ w.heap.size) :
    Calls Tryz.prog 24 #[v, u] w (RetB1 w (eqC l r ps l' r' ps')) := by
  obtain ⟨a1, c1, a2, c2, a3, c3, rfl, i1, i2, i3⟩ := hv.form
  obtain ⟨b1, k1, b2, k2, b3, k3, rfl, j1, j2, j3⟩ := hu.form
  have X := hide (Kn.two w #[.slice a1 l.length c1, .slice a2 r.length c2, .slice a3 ps.length c3] #[.slice b1 l'.length k1, .slice b2 r'.length k2, .slice b3 ps'.length k3] 33 33)
  obtain ⟨w1, hw1⟩ : ∃ w1, w1 = (w.alloc (.cells #[.slice a1 l.length c1, .slice a2 r.length c2, .slice a3 ps.length c3] 33)).alloc (.cells #[.slice b1 l'.length k1, .slice b2 r'.length k2, .slice b3 ps'.length k3] 33) := ⟨_, rfl⟩
  rw [← hw1] at X
  have H1 := hide (fun (W : World) (h : Below w.heap.size w W) => And.intro (i1.below h hB) (j1.below h hB))
  have H2 := hide (fun (W : World) (h : Below w.heap.size w W) => And.intro (i2.below h hB) (j2.below h hB))
  have H3 := hide (fun (W : World) (h : Below w.heap.size w W) => And.intro (i3.below h hB) (j3.below h hB))
  clear i1 i2 i3 j1 j2 j3 hv hu
  obtain ⟨b0, hb0⟩ : ∃ b0, b0 = eqC l r ps l' r' ps' := ⟨_, rfl⟩
  rw [← hb0]
  obtain ⟨t1, ht1⟩ : ∃ t, t = decide (l = l') := ⟨_, rfl⟩
  obtain ⟨t2, ht2⟩ : ∃ t, t = decide (r = r') := ⟨_, rfl⟩
  obtain ⟨t3, ht3⟩ : ∃ t, t = decide (ps = ps') := ⟨_, rfl⟩
  unfold eqC at hb0
  rw [← ht1, ← ht2, ← ht3] at hb0
  have HB := hide hb0
  have HT1 := hide ht1
  have HT2 := hide ht2
  have HT3 := hide ht3
  clear hb0 ht1 ht2 ht3
  have d0 : w1.cell? ⟨w.heap.size, 0, none⟩ = some (.slice a1 l.length c1) := X.out.cell 0 0 rfl rfl
  have e0 : w1.cell? ⟨w.heap.size + 1, 0, none⟩ = some (.slice b1 l'.length k1) := X.out.cell 1 0 rfl rfl
  go_enter Tryz.func24, Tryz.ntmps24
  go_wp2_with fail
  rw [← hw1]
  clear hw1
  go_at_call 76
  refine (sL4Ints_any _ _ l l' _ B (H1.out _ X.out.below).1 (H1.out _ X.out.below).2).mono ?_
  rintro e w2 ⟨rfl, hb⟩
  rw [← HT1.out]
  have X := hide (X.out.up hb)
  clear hb d0 e0
  have d0 : w2.cell? ⟨w.heap.size, 1, none⟩ = some (.slice a2 r.length c2) := X.out.cell 0 1 rfl rfl
  have e0 : w2.cell? ⟨w.heap.size + 1, 1, none⟩ = some (.slice b2 r'.length k2) := X.out.cell 1 1 rfl rfl
  cases t1
  · have hf := hide (show b0 = false by rw [HB.out]; rfl)
    go_wp2_with fail
    go_ret
    exact ⟨by rw [hf.out]; rfl, X.out.below⟩
  · go_wp2_with fail
    go_at_call 76
    refine (sL4Ints_any _ _ r r' _ B (H2.out _ X.out.below).1 (H2.out _ X.out.below).2).mono ?_
    rintro e w3 ⟨rfl, hb⟩
    rw [← HT2.out]
    have X := hide (X.out.up hb)
    clear hb d0 e0
    have d0 : w3.cell? ⟨w.heap.size, 2, none⟩ = some (.slice a3 ps.length c3) := X.out.cell 0 2 rfl rfl
    have e0 : w3.cell? ⟨w.heap.size + 1, 2, none⟩ = some (.slice b3 ps'.length k3) := X.out.cell 1 2 rfl rfl
    cases t2
    · have hf := hide (show b0 = false by rw [HB.out]; rfl)
      go_wp2_with fail
      go_ret
      exact ⟨by rw [hf.out]; rfl, X.out.below⟩
    · have hf := hide (show b0 = t3 by rw [HB.out]; rfl)
      go_wp2_with fail
      go_at_call 77
      refine (sL4Same_any _ _ ps ps' _ B (H3.out _ X.out.below).1 (H3.out _ X.out.below).2).mono ?_
      rintro e w4 ⟨rfl, hb⟩
      rw [← HT3.out]
      have X := hide (X.out.up hb)
      go_wp2_with fail
      go_ret
      exact ⟨by rw [hf.out]; rfl, X.out.below⟩

end Go.Proofs.YtajfhalalnlejaaGreat

/- FnPartitions: its drawn arguments, and its words in numbers (promise 3). -/
namespace Go.Proofs.YtajfhalalnlejaaGreat
open Go.RowKit Go.ChangeShapes
set_option linter.unusedSimpArgs false
set_option linter.unusedVariables false
set_option maxRecDepth 100000

theorem bigN (a : Option Addr) (len cap : Nat) (w : World) (h : len ≤ 1048576) : Calls Tryz.prog 22 #[.slice a len cap] w fun e w' => e = .returned (.bool false) ∧ w = w' := by
  have h2 : decide ((1048576 : Int) < (len : Int)) = false := by simp; omega
  go_enter Tryz.func22, Tryz.ntmps22
  go_wp2
  go_ret
  exact ⟨rfl, rfl⟩

theorem bigY (a : Option Addr) (len cap : Nat) (w : World) (h : 1048576 < len) : Calls Tryz.prog 22 #[.slice a len cap] w fun e w' => e = .returned (.bool true) ∧ w = w' := by
  have h2 : decide ((1048576 : Int) < (len : Int)) = true := by simp; omega
  go_enter Tryz.func22, Tryz.ntmps22
  go_wp2
  go_ret
  exact ⟨rfl, rfl⟩

/-- What is only read, below the world's own size. -/
def IU (w : World) (v : Value) (l : List Int) : Prop := Ints w w.heap.size v l
def PU (w : World) (v : Value) (l : List Pv) : Prop := Pvs w w.heap.size v l
def CU (w : World) (v : Value) (l r : List Int) (ps : List Pv) : Prop := Ck w w.heap.size v l r ps

theorem Ints.mono' {w : World} {B C : Nat} {v : Value} {l : List Int} (h : Ints w B v l) (hC : B ≤ C) : Ints w C v l := by
  obtain ⟨a, cap, e, h1, h2, h3⟩ := h
  refine ⟨a, cap, e, h1, h2, fun j hj => ?_⟩
  obtain ⟨b, o, e1, e2, e3⟩ := h3 j hj
  exact ⟨b, o, e1, Nat.lt_of_lt_of_le e2 hC, e3⟩
theorem Pvs.mono' {w : World} {B C : Nat} {v : Value} {l : List Pv} (h : Pvs w B v l) (hC : B ≤ C) : Pvs w C v l := by
  obtain ⟨a, cap, e, h1, h2, h3⟩ := h
  refine ⟨a, cap, e, h1, h2, fun j hj => ?_⟩
  obtain ⟨b, o, e1, e2, e3, e4⟩ := h3 j hj
  exact ⟨b, o, e1, Nat.lt_of_lt_of_le e2 hC, e3, e4⟩

theorem IU.below {w w' : World} {v : Value} {l : List Int} (h : IU w v l) (hb : Below w.heap.size w w') : IU w' v l := (Ints.below h hb (Nat.le_refl _)).mono' hb.size
theorem PU.below {w w' : World} {v : Value} {l : List Pv} (h : PU w v l) (hb : Below w.heap.size w w') : PU w' v l := (Pvs.below h hb (Nat.le_refl _)).mono' hb.size
theorem CU.below {w w' : World} {v : Value} {l r : List Int} {ps : List Pv} (h : CU w v l r ps) (hb : Below w.heap.size w w') : CU w' v l r ps := Ck.up h hb

/-- The cells of a column's values and rows, and of pivots, that are only read. -/
theorem CU.left {w : World} {a : Option Addr} {n c : Nat} {y z : Value} {l r : List Int} {ps : List Pv} (h : CU w (.agg #[.slice a n c, y, z]) l r ps) (j : Nat) (hj : j < l.length) :
    ∃ b o, a = some ⟨b, o, none⟩ ∧ w.cell? ⟨b, o + j, none⟩ = some (.int .i64 (l.getD j 0)) := by
  obtain ⟨x', y', z', e, ⟨a', c', e1, -, -, h1⟩, -⟩ := h
  simp only [Value.agg.injEq, Array.mk.injEq, List.cons.injEq, and_true] at e
  obtain ⟨rfl, rfl, rfl⟩ := e
  injection e1 with e1 e2 e3
  subst e1
  obtain ⟨b, o, rfl, -, hc⟩ := h1 j hj
  exact ⟨b, o, rfl, by rw [hc]; simp [List.getD_eq_getElem?_getD, List.getElem?_eq_getElem hj]⟩
theorem CU.right {w : World} {a : Option Addr} {n c : Nat} {x z : Value} {l r : List Int} {ps : List Pv} (h : CU w (.agg #[x, .slice a n c, z]) l r ps) (j : Nat) (hj : j < r.length) :
    ∃ b o, a = some ⟨b, o, none⟩ ∧ w.cell? ⟨b, o + j, none⟩ = some (.int .i64 (r.getD j 0)) := by
  obtain ⟨x', y', z', e, -, ⟨a', c', e1, -, -, h1⟩, -⟩ := h
  simp only [Value.agg.injEq, Array.mk.injEq, List.cons.injEq, and_true] at e
  obtain ⟨rfl, rfl, rfl⟩ := e
  injection e1 with e1 e2 e3
  subst e1
  obtain ⟨b, o, rfl, -, hc⟩ := h1 j hj
  exact ⟨b, o, rfl, by rw [hc]; simp [List.getD_eq_getElem?_getD, List.getElem?_eq_getElem hj]⟩
theorem PU.cells {w : World} {a : Option Addr} {n c : Nat} {ps : List Pv} (h : PU w (.slice a n c) ps) (j : Nat) (hj : j < ps.length) :
    ∃ b o, a = some ⟨b, o, none⟩ ∧ w.cell? ⟨b, o + j * 2, none⟩ = some (.int .i64 ps[j].1) ∧ w.cell? ⟨b, o + j * 2 + 1, none⟩ = some (.int .i64 ps[j].2) := by
  obtain ⟨a', c', e1, -, -, h1⟩ := h
  injection e1 with e1 e2 e3
  subst e1
  obtain ⟨b, o, rfl, -, hc, hc2⟩ := h1 j hj
  exact ⟨b, o, rfl, hc, hc2⟩

/-- Drawn values, places and a pivot. -/
def DrPt (w : World) (e : Ending) (w' : World) : Prop := ∃ gl capl l, ∃ a b p : Int, l.length ≤ 12 ∧ (∀ x ∈ l, -1000 ≤ x ∧ x ≤ 1000) ∧ (-20 ≤ a ∧ a ≤ 20) ∧ (-20 ≤ b ∧ b ≤ 20) ∧ (-20 ≤ p ∧ p ≤ 20) ∧
  e = .returned (.tuple #[.slice (some ⟨gl, 0, none⟩) l.length capl, .int .i64 a, .int .i64 b, .int .i64 p]) ∧ Is w' w.heap.size 3 (.slice (some ⟨gl, 0, none⟩) l.length capl) l ∧ Below w.heap.size w w'

end Go.Proofs.YtajfhalalnlejaaGreat

/- The laws' helpers over columns: pairsOf, sameInts, btoi (promises 3 and 4). -/
namespace Go.Proofs.YtajfhalalnlejaaGreat
open Go.RowKit Go.ChangeShapes
set_option linter.unusedSimpArgs false
set_option linter.unusedVariables false
set_option maxRecDepth 100000

theorem Ow.wideP {w : World} {v : Value} {l : List Int} {lo hi lo' : Nat} (h : Ow w v l lo hi) (hl : lo' ≤ lo) : Ow w v l lo' hi := by
  obtain ⟨⟨F, h, hF⟩, h1, h2⟩ := h
  exact ⟨⟨F, h, fun b hb => ⟨Nat.le_trans hl (hF b hb).1, (hF b hb).2⟩⟩, Nat.le_trans hl h1, h2⟩

/-- append(s, i): i lies in a block of its own, in a region that draws its order. -/
theorem appI_wp (W : World) {o : Oper} {a : Act} {K : Act → World → Prop} {Q : Exit → Act → World → Prop} (s x : Operand)
    (ho : o.op = .call { callee := .builtin .append, args := #[s, x], argTypes := #[22, 22] })
    (base : Nat) (v : Value) (l : List Int) (hown : Is W base 3 v l) (hs : a.eval s = v) (i : Int) (c g : Nat)
    (hx : a.eval x = .slice (some ⟨g, 0, none⟩) 1 c) (hg : W.heap[g]? = some (.cells #[.int .i64 i] 3 (0, 0))) (hlen : l.length < 1099511627776) (hbase : base ≤ W.heap.size)
    (h : ∀ v' w', Is w' base 3 v' (l ++ [i]) → Below base W w' → K (a.put o.dst v') w') : o.wp Tryz.prog a W K Q := by
  obtain ⟨i0, hi0, hi1, hi2, hi3⟩ := info_parts infoI
  obtain ⟨v', w', hr, hown', hgrow, -, -⟩ := run_append_own_at (P := Tryz.prog) (w := W) base 22 o.type 3 i0 _ 1 8 Tryz.underlying22 hi0 hi1 hi2 hi3 rfl (by decide) v l.length (intVs l) hown ⟨g, 0, none⟩ 1 c [.int .i64 i] rfl
    (by intro k u hk
        rw [addr_add, cell_of_row W g (0 + k) _ _ (0, 0) hg, Nat.zero_add]
        simpa using hk)
    (by intro u hu; simp at hu; subst hu; rfl) (by unfold maxLen; omega) (by omega) hbase
  unfold Oper.wp execOp
  simp only [ho, resolve, invoke, builtin, Sem.run_bind, Sem.run_pure, Result.andThen_ok, List.map_toArray, List.map_cons, List.map_nil, hs, hx, hr]
  refine h v' w' ?_ ((Below.refl base W).grown hgrow hbase (fun k hk => (World.ownsRow.lt hown k hk).1))
  unfold Is
  rw [show intVs (l ++ [i]) = intVs l ++ [.int .i64 i] by simp [intVs], List.length_append]
  exact hown'

theorem appI_step {W : World} {ops : Array Oper} {o : Oper} {a : Act} {K : Act → World → Prop} {Q : Exit → Act → World → Prop} {E : Prop} (hgd : o.guard = none) (s x : Operand)
    (ho : o.op = .call { callee := .builtin .append, args := #[s, x], argTypes := #[22, 22] })
    (base : Nat) (v : Value) (l : List Int) (hown : Is W base 3 v l) (hs : a.eval s = v) (i : Int) (c g : Nat)
    (hx : a.eval x = .slice (some ⟨g, 0, none⟩) 1 c) (hg : W.heap[g]? = some (.cells #[.int .i64 i] 3 (0, 0))) (hlen : l.length < 1099511627776) (hbase : base ≤ W.heap.size)
    (h : ∀ v' w', Is w' base 3 v' (l ++ [i]) → Below base W w' → K (a.put o.dst v') w') :
    if Region.wanted o (yielded ops a.tmps) = true then Oper.wp Tryz.prog o a W K Q else E := by
  have hw : Region.wanted o (yielded ops a.tmps) = true := by simp [Region.wanted, hgd]
  rw [if_pos hw]
  exact appI_wp W s x ho base v l hown hs i c g hx hg hlen hbase h

/-- The pairs of values and rows, as numbers. -/
def prs (l r : List Int) : List Int := (l.zip r).map fun p => wrap64 (wrap64 (p.1 * 1000) + p.2)

theorem prs_perm {l r l' r' : List Int} (h : (l'.zip r').Perm (l.zip r)) : sortL (prs l' r') = sortL (prs l r) := sortL_of_perm (h.map _)

theorem wrap_i64 (x : Int) : I64 (wrap64 x) := by
  unfold I64 wrap64
  omega

theorem prs_wf (l r : List Int) : ∀ x ∈ prs l r, I64 x := by
  intro x hx
  obtain ⟨p, _, rfl⟩ := List.mem_map.1 hx
  exact wrap_i64 _

theorem prs_len (l r : List Int) : (prs l r).length = min l.length r.length := by simp [prs]

theorem prs_get (l r : List Int) (k : Nat) (h1 : k < l.length) (h2 : k < r.length) : (prs l r)[k]'(by rw [prs_len]; omega) = wrap64 (wrap64 (l[k] * 1000) + r[k]) := by simp [prs]

theorem Ints.at' {w : World} {B : Nat} {a : Option Addr} {n c : Nat} {l : List Int} (h : Ints w B (.slice a n c) l) (j : Nat) (hj : j < l.length) :
    ∃ b o, a = some ⟨b, o, none⟩ ∧ w.cell? ⟨b, o + j, none⟩ = some (.int .i64 (l.getD j 0)) := by
  obtain ⟨a', c', e1, -, -, h1⟩ := h
  injection e1 with e1 e2 e3
  subst e1
  obtain ⟨b, o, rfl, -, hc⟩ := h1 j hj
  exact ⟨b, o, rfl, by rw [hc]; simp [List.getD_eq_getElem?_getD, List.getElem?_eq_getElem hj]⟩

theorem same_any (v u : Value) (l : List Int) (w : World) (B : Nat) (hv : Ints w B v l) (hu : Ints w B u l) : Calls Tryz.prog 25 #[v, u] w (RetB1 w true) := by
  obtain ⟨a, c, rfl, hlen, -, hc⟩ := hv
  obtain ⟨a', c', rfl, -, -, hc'⟩ := hu
  have HC := hide hc
  have HC' := hide hc'
  clear hc hc'
  have h1 : (((l.length : Nat) : Int) != ((l.length : Nat) : Int)) = false := by simp
  go_enter Tryz.func25, Tryz.ntmps25
  go_wp2_with fail
  go_loopw [5] (fun i wr => ∃ (k q : Nat), k ≤ l.length ∧ i = .int .i64 k ∧ wr = w.drewN q) (fun i _ => l.length - (intOf i).toNat)
  case atStart => exact ⟨0, 0, by omega, rfl, rfl⟩
  case round =>
    obtain ⟨k, q, hk, rfl, rfl⟩ := hrel
    by_cases hlt : k < l.length
    · obtain ⟨b, o, rfl, -, h2⟩ := HC.out k hlt
      obtain ⟨b', o', rfl, -, h3⟩ := HC'.out k hlt
      obtain ⟨x, hx⟩ : ∃ x, x = l[k] := ⟨_, rfl⟩
      rw [← hx] at h2 h3
      have h4 : (x != x) = false := by simp
      clear hx
      go_wp2_with fail
      go_quiet (fail)
      go_wp2_with fail
      go_roundw
      case rel => exact ⟨k + 1, q + nq, by omega, by go_num, rfl⟩
      case measure => simp [intOf]; omega
    · have hke : k = l.length := by omega
      subst hke
      go_wp2_with fail
      go_ret
      exact ⟨rfl, below_drewN (Below.refl _ _) _⟩

set_option maxHeartbeats 4000000 in
theorem pairs_any (v : Value) (l r : List Int) (ps : List Pv) (w : World) (B : Nat) (hv : Ck w B v l r ps) (hB : B ≤ w.heap.size) (hl : l.length ≤ 1048576) :
    Calls Tryz.prog 35 #[v] w (RetOw w (sortL (prs l r))) := by
  obtain ⟨a1, c1, a2, c2, a3, c3, rfl, i1, i2, -⟩ := hv.form
  have X := hide (Kn.one w #[.slice a1 l.length c1, .slice a2 r.length c2, .slice a3 ps.length c3] 33)
  obtain ⟨w1, hw1⟩ : ∃ w1, w1 = w.alloc (.cells #[.slice a1 l.length c1, .slice a2 r.length c2, .slice a3 ps.length c3] 33) := ⟨_, rfl⟩
  rw [← hw1] at X
  have hz := hide (show w1.heap.size = w.heap.size + 1 by rw [hw1]; simp)
  have H1 := hide (fun (W : World) (h : Below w.heap.size w W) => i1.below h hB)
  have H2 := hide (fun (W : World) (h : Below w.heap.size w W) => i2.below h hB)
  clear i1 i2 hv
  have HS := hide (fun (W : World) (v : Value) (lo : Nat) (h : Is W lo 3 v (prs l r)) => show Calls Tryz.prog 90 #[v] W (RetOw W (sortL (prs l r))) by
    obtain ⟨a', c', rfl⟩ := h.form
    have hlen : (prs l r).length ≤ 1048576 := by rw [prs_len]; omega
    refine sSort_any a' c' _ W W.heap.size (h.ints (Nat.le_refl _) (by omega) (prs_wf l r)) ?_ (Nat.le_refl _) hlen
    intro ha
    subst ha
    rcases h.2 with ⟨e, _⟩ | ⟨g, cap, cur, e, _⟩
    · injection e
    · injection e with e1; cases e1)
  go_enter Tryz.func35, Tryz.ntmps35
  go_wp2_with fail
  rw [← hw1]
  clear hw1
  have O := hide (Is.made w1 w1.heap.size 3 (Nat.le_refl _))
  have HB := hide ((Below.refl w1.heap.size w1).alloc (Nat.le_refl _) (.cells #[] 3))
  have hlr := hide (show ∀ k, k < l.length → k < r.length → (prs l r).take (k + 1) = (prs l r).take k ++ [wrap64 (wrap64 (l.getD k 0 * 1000) + r.getD k 0)] from fun k h1 h2 => by
    rw [List.take_succ_eq_append_getElem (by rw [prs_len]; omega), prs_get l r k h1 h2]
    simp [List.getD_eq_getElem?_getD, List.getElem?_eq_getElem h1, List.getElem?_eq_getElem h2])
  have hend := hide (show ∀ k, k ≤ l.length → k ≤ r.length → ¬ (k < l.length ∧ k < r.length) → (prs l r).take k = prs l r from fun k h1 h2 h3 => List.take_of_length_le (by rw [prs_len]; omega))
  go_loopw [3, 4] (fun u i wr => ∃ (k : Nat) (ua : Option Addr) (uc : Nat), k ≤ l.length ∧ k ≤ r.length ∧ i = .int .i64 k ∧ u = .slice ua k uc ∧ Hid (Is wr w1.heap.size 3 u ((prs l r).take k)) ∧ Hid (Below w1.heap.size w1 wr)) (fun _ i _ => l.length - (intOf i).toNat)
  case atStart => exact ⟨0, _, _, by omega, by omega, rfl, rfl, by show Is _ _ _ _ _; simp only [List.take_zero]; rw [← hz.out]; exact O.out, HB.out⟩
  case round =>
    obtain ⟨k, ua, uc, hk1, hk2, rfl, rfl, O, HB⟩ := hrel
    have XX := hide (X.out.up HB.out)
    have c0 : wr.cell? ⟨w.heap.size, 0, none⟩ = some (.slice a1 l.length c1) := XX.out.cell 0 0 rfl rfl
    have c1' : wr.cell? ⟨w.heap.size, 1, none⟩ = some (.slice a2 r.length c2) := XX.out.cell 0 1 rfl rfl
    by_cases hlt : k < l.length ∧ k < r.length
    · obtain ⟨h1, h2⟩ := hlt
      obtain ⟨b, o, hab, e1⟩ := (H1.out wr XX.out.below).at' k h1
      obtain ⟨b', o', hab', e2⟩ := (H2.out wr XX.out.below).at' k h2
      subst hab hab'
      have hst := hide (hlr.out k h1 h2)
      obtain ⟨x, hx⟩ : ∃ x, x = l.getD k 0 := ⟨_, rfl⟩
      obtain ⟨y, hy⟩ : ∃ y, y = r.getD k 0 := ⟨_, rfl⟩
      rw [← hx] at e1 hst
      rw [← hy] at e2 hst
      have hsz := hide HB.out.size
      have HOf := hide (fun (W : World) (h : Below wr.heap.size wr W) => O.out.below h)
      have HLN := hide (show ((prs l r).take k).length = k by rw [List.length_take, prs_len]; omega)
      have HLN2 := hide (show ((prs l r).take (k + 1)).length = k + 1 by rw [List.length_take, prs_len]; omega)
      have HBf := hide (fun (W : World) (h : Below wr.heap.size wr W) => HB.out.trans (h.mono hsz.out))
      have hnw : (wr.alloc (.cells #[.int .i64 (IntKind.i64.wrap (IntKind.i64.wrap (x * 1000) + y))] 3)).heap[wr.heap.size]? = some (.cells #[.int .i64 (wrap64 (wrap64 (x * 1000) + y))] 3 (0, 0)) := by
        rw [heap_alloc_new, IntWalk.i64_left, IntWalk.i64_left]
      clear hx hy
      go_wp2_with fail
      go_region_law (refine appI_step rfl _ _ rfl w1.heap.size (.slice ua k uc) _ (HOf.out _ (by first | exact (below1 _ _).drew | exact (Below.refl _ _).drew.alloc (Nat.le_refl _) _ | exact below1 _ _)) (by simp [Act.eval, Act.put]) (wrap64 (wrap64 (x * 1000) + y)) 1 wr.heap.size (by simp [Act.eval, Act.put]) (by first | exact heap_alloc_new _ _ | exact hnw) (by have := HLN.out; omega) (by have := hsz.out; simp; omega) ?_; intro v5 w5' hown hb; rw [← hst.out] at hown; obtain ⟨ub, uc', rfl⟩ := hown.form; rw [HLN2.out] at hown ⊢; have OO := hide hown; have BB := hide ((HBf.out _ (by first | exact (below1 _ _).drew | exact (Below.refl _ _).drew.alloc (Nat.le_refl _) _ | exact below1 _ _)).trans hb))
      all_goals go_wp2_with fail
      all_goals exact ⟨⟨k + 1, _, _, by omega, by omega, by go_num, rfl, OO.out, BB.out⟩, by simp [intOf]; omega⟩
    · have hf := hide (hend.out k hk1 hk2 hlt)
      rw [hf.out] at O
      have HW := hide (XX.out.below)
      have HF := hide (HS.out _ _ _ O.out)
      clear O HB X
      by_cases h1 : k < l.length
      · have t2 : decide (k < r.length) = false := by simp; omega
        clear hlt
        go_wp2_with fail
        go_at_call 90
        refine HF.out.mono ?_
        rintro e w6 ⟨v, hi, rfl, O, hb⟩
        go_wp2_with fail
        go_ret
        exact ⟨_, _, rfl, O.wideP HW.out.size, HW.out.trans (hb.mono HW.out.size)⟩
      · have t1 : decide (k < l.length) = false := by simp; omega
        clear hlt
        go_wp2_with fail
        go_at_call 90
        refine HF.out.mono ?_
        rintro e w6 ⟨v, hi, rfl, O, hb⟩
        go_wp2_with fail
        go_ret
        exact ⟨_, _, rfl, O.wideP HW.out.size, HW.out.trans (hb.mono HW.out.size)⟩

end Go.Proofs.YtajfhalalnlejaaGreat

/- crackEach of the program: a column is divided at one value after another (promise 4). -/
namespace Go.Proofs.YtajfhalalnlejaaGreat
open Go.RowKit Go.ChangeShapes
set_option linter.unusedSimpArgs false
set_option linter.unusedVariables false
set_option maxRecDepth 100000

/-- A column of the call's own and a number are returned; nothing that was there has turned. -/
def RetPS (w : World) (S : PS) (e : Ending) (w' : World) : Prop := ∃ x y z lo hi n1 h1 n2 h2 n3 h3, e = .returned (.tuple #[.agg #[x, y, z], .int .i64 (S.n : Int)]) ∧ w.heap.size ≤ lo ∧ hi ≤ w'.heap.size ∧ OC w' x y z S.l S.r S.ps lo hi n1 h1 n2 h2 n3 h3 ∧ Below w.heap.size w w'

theorem Kn.apart' {w W : World} {L : List (Nat × Array Value × TypeId)} (h : Kn w W L) (i j : Nat) {g g' : Nat} {c c' : Array Value} {t t' : TypeId} (ho : L[i]? = some (g, c, t)) (ho' : L[j]? = some (g', c', t')) (hij : i < j) : g ≠ g' := by
  intro e
  obtain ⟨hi, e1⟩ := List.getElem?_eq_some_iff.1 ho
  obtain ⟨hj, e2⟩ := List.getElem?_eq_some_iff.1 ho'
  have hl : (L.map (·.1)).length = L.length := List.length_map _
  have h2 := List.pairwise_iff_getElem.1 h.nodup i j (by omega) (by omega) hij
  simp [e1, e2, e] at h2

/-- Dividing at one value after another. -/
noncomputable def PS.each (S : PS) : List Int → PS
  | [] => S
  | v :: vs => PS.each (S.crack v) vs

theorem PS.each_take (S : PS) : ∀ (vs : List Int) (k : Nat) (h : k < vs.length), S.each (vs.take (k + 1)) = (S.each (vs.take k)).crack vs[k] := by
  intro vs
  induction vs generalizing S with
  | nil => intro k h; simp at h
  | cons v vs ih =>
    intro k h
    cases k with
    | zero => simp [PS.each]
    | succ k =>
      simp only [List.take_succ_cons, PS.each, List.getElem_cons_succ]
      exact ih (S.crack v) k (by simpa using h)

/-- What holds at each value. -/
def PS.Wk (S : PS) (n k : Nat) : Prop := Wf S.l S.r S.ps (n + k) ∧ S.n ≤ k * 1048576

theorem PS.Wk.step {S : PS} {n k : Nat} {v : Int} (h : S.Wk n k) (hn : n + k ≤ 1048576) (hv : I64 v) : (S.crack v).Wk n (k + 1) ∧ (crS S.l S.r S.ps v).length ≤ 1048576 := by
  obtain ⟨h1, h2⟩ := h
  obtain ⟨w1, s1, -⟩ := crack_Wf h1 hn hv
  refine ⟨⟨by rw [← Nat.add_assoc]; exact w1, ?_⟩, s1⟩
  show S.n + (crS S.l S.r S.ps v).length ≤ _
  omega

set_option maxHeartbeats 8000000 in
theorem iEach_any (u : Value) (l r : List Int) (ps : List Pv) (s : Int) (a : Option Addr) (c : Nat) (vs : List Int) (w : World) (hv : CU w u l r ps) (hs : IU w (.slice a vs.length c) vs) (hwf : Wf l r ps 1000000) (h0 : 0 < vs.length) (h2 : vs.length ≤ 100) (hvw : ∀ v ∈ vs, I64 v) :
    Calls Tryz.prog 86 #[u, .slice a vs.length c] w (RetPS w ((⟨l, r, ps, s, 0⟩ : PS).each vs)) := by
  obtain ⟨a1, c1, a2, c2, a3, c3, rfl, -⟩ := Ck.form hv
  have X := hide (Kn.two w #[.slice a1 l.length c1, .slice a2 r.length c2, .slice a3 ps.length c3] #[.slice none 0 0, .slice none 0 0, .slice none 0 0] 33 33)
  obtain ⟨w1, hw1⟩ : ∃ w1, w1 = (w.alloc (.cells #[.slice a1 l.length c1, .slice a2 r.length c2, .slice a3 ps.length c3] 33)).alloc (.cells #[.slice none 0 0, .slice none 0 0, .slice none 0 0] 33) := ⟨_, rfl⟩
  rw [← hw1] at X
  have V := hide (hv.below X.out.below)
  have HS := hide (fun (W : World) (h : Below w.heap.size w W) => hs.below h)
  have hz := hide (show w1.heap.size = w.heap.size + 1 + 1 by rw [hw1]; simp)
  clear hv hs
  obtain ⟨S0, hS0⟩ : ∃ q : PS, q = ⟨l, r, ps, s, 0⟩ := ⟨_, rfl⟩
  have hW0 := hide (show S0.Wk 1000000 0 by rw [hS0]; exact ⟨hwf, by simp⟩)
  have HV := hide hvw
  have HST := hide (fun k h => PS.each_take S0 vs k h)
  obtain ⟨L, hL⟩ : ∃ L, L = vs.length := ⟨_, rfl⟩
  have HL := hide hL
  rw [← hS0]
  rw [← hL] at h0 h2 ⊢
  have HEND := hide (show S0.each (vs.take L) = S0.each vs by rw [hL, List.take_length])
  have V := hide (show CU w1 (.agg #[.slice a1 l.length c1, .slice a2 r.length c2, .slice a3 ps.length c3]) S0.l S0.r S0.ps by rw [hS0]; exact V.out)
  have hn0 := hide (show S0.n = 0 by rw [hS0])
  clear hvw hwf hL hS0
  go_enter Tryz.func86, Tryz.ntmps86
  go_wp2_with fail
  rw [← hw1]
  clear hw1
  go_loopg [6, 14] L (fun gg sw i wr => ∃ (k : Nat) (x y z : Value) (S : PS), k ≤ L ∧ gg = L - k ∧ i = .int .i64 k ∧ sw = .int .i64 (S.n : Int) ∧ Hid (S = S0.each (vs.take k)) ∧ Hid (S.Wk 1000000 k) ∧ Hid (Kn w wr [(w.heap.size, #[x, y, z], 33), (w.heap.size + 1, #[.slice none 0 0, .slice none 0 0, .slice none 0 0], 33)]) ∧ Hid (CU wr (.agg #[x, y, z]) S.l S.r S.ps) ∧ Hid (k = 0 ∨ ∃ lo hi n1 h1 n2 h2 n3 h3, w.heap.size + 2 ≤ lo ∧ hi ≤ wr.heap.size ∧ OC wr x y z S.l S.r S.ps lo hi n1 h1 n2 h2 n3 h3))
  case atStart => exact ⟨0, _, _, _, S0, by omega, by omega, rfl, by rw [hn0.out]; rfl, by simp [Hid, PS.each], hW0.out, X.out, V.out, .inl rfl⟩
  case round =>
    obtain ⟨k, x, y, z, S, hk, hgk, rfl, rfl, hS, hW, X, V, hOC⟩ := hrel
    have hgk := hide hgk
    obtain ⟨b1, k1, b2, k2, b3, k3, hform, -⟩ := Ck.form V.out
    simp only [Value.agg.injEq, Array.mk.injEq, List.cons.injEq, and_true] at hform
    obtain ⟨rfl, rfl, rfl⟩ := hform
    have d0 : wr.cell? ⟨w.heap.size, 0, none⟩ = some (.slice b1 S.l.length k1) := X.out.cell 0 0 rfl rfl
    have d1 : wr.cell? ⟨w.heap.size, 1, none⟩ = some (.slice b2 S.r.length k2) := X.out.cell 0 1 rfl rfl
    have d2 : wr.cell? ⟨w.heap.size, 2, none⟩ = some (.slice b3 S.ps.length k3) := X.out.cell 0 2 rfl rfl
    by_cases hlt : k < L
    · have hkv : k < vs.length := by rw [← HL.out]; exact hlt
      obtain ⟨g, o, hab, ec0⟩ := (show Ints wr wr.heap.size _ vs from HS.out wr X.out.below).at' k hkv
      subst hab
      have hst := hide (HST.out k hkv)
      have hvk := HV.out _ (List.getElem_mem hkv)
      obtain ⟨v, hvv⟩ : ∃ v, v = vs[k] := ⟨_, rfl⟩
      have ec : wr.cell? ⟨g, o + k, none⟩ = some (.int .i64 v) := by rw [ec0, hvv]; simp [List.getD_eq_getElem?_getD, List.getElem?_eq_getElem hkv]
      clear ec0
      rw [← hvv] at hst hvk
      clear hvv hkv hOC
      have hst : Hid (S.crack v = S0.each (vs.take (k + 1))) := hide (by rw [hst.out, ← hS.out])
      obtain ⟨hW2, hsl⟩ := hW.out.step (v := v) (by omega) hvk
      have HW2 := hide hW2
      have HC := hide (fun (W : World) (h : CU W (.agg #[.slice b1 S.l.length k1, .slice b2 S.r.length k2, .slice b3 S.ps.length k3]) S.l S.r S.ps) => show Calls Tryz.prog 119 #[.agg #[.slice b1 S.l.length k1, .slice b2 S.r.length k2, .slice b3 S.ps.length k3], .int .i64 v] W (RetOCSB W (S.crack v).l (S.crack v).r (S.crack v).ps (crS S.l S.r S.ps v) (crOk S.l S.r S.ps v)) from iCrack_any _ S.l S.r S.ps v W W.heap.size h (Nat.le_refl _) hW.out.1.1 hW.out.1.2.1 (by have := hW.out.1.2.2.1; omega) hvk)
      have hn : (S.crack v).n = S.n + (crS S.l S.r S.ps v).length := rfl
      have hnb := HW2.out.2
      have hnb0 := hW.out.2
      obtain ⟨ns, hns⟩ : ∃ q, q = crS S.l S.r S.ps v := ⟨_, rfl⟩
      obtain ⟨ok, hok⟩ : ∃ q, q = crOk S.l S.r S.ps v := ⟨_, rfl⟩
      obtain ⟨T, hT⟩ : ∃ q, q = S.crack v := ⟨_, rfl⟩
      rw [← hns, ← hok, ← hT] at HC
      rw [← hns] at hn hsl
      rw [← hT] at hn hst HW2 hnb
      have wn : IntKind.i64.wrap ((S.n : Int) + (ns.length : Int)) = (T.n : Int) := by rw [IntWalk.i64_left, IntWalk.wrap64_in _ (by omega)]; omega
      have wn2 : wrap64 ((S.n : Int) + (ns.length : Int)) = (T.n : Int) := by rw [IntWalk.wrap64_in _ (by omega)]; omega
      clear hns hok hT hn hsl hnb hnb0
      go_wp2_with fail
      go_at_call 119
      refine (HC.out _ V.out).mono ?_
      rintro e w3 ⟨x', y', z', sv, lo, hi, n1, h1, n2, h2', n3, h3, slo, shi, rfl, ⟨q1, -⟩, ⟨q2, -⟩, O, Sw, -, hb⟩
      obtain ⟨v1, j1, rfl⟩ := O.x.form
      obtain ⟨v2, j2, rfl⟩ := O.y.form
      obtain ⟨v3, j3, rfl⟩ := O.z.own.form
      obtain ⟨sg, sk, rfl⟩ := Sw.own.form
      have X3 := hide (X.out.up hb)
      have Q1 := hide (Nat.le_trans (Nat.le_of_eq hz.out.symm) (Nat.le_trans (show w1.heap.size ≤ wr.heap.size by have := X.out.lt 1 rfl; have := hz.out; omega) q1))
      have O3 := hide O
      clear d0 d1 d2 ec hb q1 q2 Sw O X V
      have X4 := hide (X3.out.alloc #[.slice v1 T.l.length j1, .slice v2 T.r.length j2, .slice v3 T.ps.length j3] 33)
      have O4 := hide (O3.out.below (below1 w3 (.cells #[.slice v1 T.l.length j1, .slice v2 T.r.length j2, .slice v3 T.ps.length j3] 33)))
      obtain ⟨w4, hw4⟩ : ∃ q, q = w3.alloc (.cells #[.slice v1 T.l.length j1, .slice v2 T.r.length j2, .slice v3 T.ps.length j3] 33) := ⟨_, rfl⟩
      obtain ⟨m, hm⟩ : ∃ q, q = w3.heap.size := ⟨_, rfl⟩
      rw [← hw4] at X4 O4
      rw [← hm] at X4
      simp only [List.cons_append, List.nil_append] at X4
      have hne := X4.out.apart' 0 2 rfl rfl (by omega)
      go_upto_region 6 with fail
      rw [← hw4]
      try rw [← hm]
      clear hw4 hm
      have p0 := X4.out.cell 0 0 rfl rfl
      have p1 := X4.out.cell 0 1 rfl rfl
      have p2 := X4.out.cell 0 2 rfl rfl
      have m0 := X4.out.cell 2 0 rfl rfl
      have m1 := X4.out.cell 2 1 rfl rfl
      have m2 := X4.out.cell 2 2 rfl rfl
      have f0 := X4.out.free 0 0 rfl
      have f1 := X4.out.free 0 1 rfl
      have f2 := X4.out.free 0 2 rfl
      go_wp2_with fail
      clear p0 p1 p2 f0 f1 f2 m0 m1 m2
      have Z := ((X4.out.set 0 0 rfl (.slice v1 T.l.length j1)).set 0 1 rfl (.slice v2 T.r.length j2)).set 0 2 rfl (.slice v3 T.ps.length j3)
      have O5 := O4.out.seg (seg3 _ w.heap.size (.slice v1 T.l.length j1) (.slice v2 T.r.length j2) (.slice v3 T.ps.length j3)) (.inr (by have := Q1.out; omega))
      go_roundg (L - (k + 1))
      case measure => have := hgk.out; omega
      case rel => exact ⟨k + 1, _, _, _, T, by omega, rfl, by go_num, by first | rfl | rw [wn] | rw [wn2], hst.out, HW2.out, Z.sub (by simp), O5.ck HW2.out.1.2.2.2.1 HW2.out.1.2.2.2.2.1 (by have := HW2.out.1.2.2.1; omega) HW2.out.1.2.2.2.2.2, .inr ⟨lo, hi, n1, h1, n2, h2', n3, h3, by have := Q1.out; omega, O5.top.2, O5⟩⟩
    · have hke : k = L := by omega
      subst hke
      rw [HEND.out] at hS
      rcases hOC.out with h | ⟨lo, hi, n1, h1, n2, h2', n3, h3, q1, q2, O⟩
      · omega
      have hss := hS.out
      clear hOC hS
      have r0 := X.out.cell 1 0 rfl rfl
      have r1 := X.out.cell 1 1 rfl rfl
      have r2 := X.out.cell 1 2 rfl rfl
      have f0 := X.out.free 1 0 rfl
      have f1 := X.out.free 1 1 rfl
      have f2 := X.out.free 1 2 rfl
      have hne := X.out.apart' 0 1 rfl rfl (by omega)
      go_wp2_with fail
      rw [← hss]
      have Z := ((X.out.set 1 0 rfl (.slice b1 S.l.length k1)).set 1 1 rfl (.slice b2 S.r.length k2)).set 1 2 rfl (.slice b3 S.ps.length k3)
      have z0 := Z.cell 1 0 rfl rfl
      have z1 := Z.cell 1 1 rfl rfl
      have z2 := Z.cell 1 2 rfl rfl
      have O9 := O.seg (seg3 _ (w.heap.size + 1) (.slice b1 S.l.length k1) (.slice b2 S.r.length k2) (.slice b3 S.ps.length k3)) (.inr (by omega))
      exact bodyPost_ret (v := .tuple #[.agg #[.slice b1 S.l.length k1, .slice b2 S.r.length k2, .slice b3 S.ps.length k3], .int .i64 (S.n : Int)]) (by simp [results, Tryz.results86, go_sem, z0, z1, z2]) rfl
        ⟨_, _, _, lo, hi, n1, h1, n2, h2', n3, h3, rfl, by omega, O9.top.2, O9, Z.below⟩

end Go.Proofs.YtajfhalalnlejaaGreat

/- What MedianOf returns, of the reference and of the program (promise 4). -/
namespace Go.Proofs.YtajfhalalnlejaaGreat
open Go.RowKit Go.ChangeShapes
set_option linter.unusedSimpArgs false
set_option linter.unusedVariables false
set_option maxRecDepth 100000

/-- A number is returned; nothing that was there has turned. -/
def RetNB (w : World) (n : Int) (e : Ending) (w' : World) : Prop := e = .returned (.int .i64 n) ∧ Below w.heap.size w w'

theorem medL_at {l : List Int} (h : 0 < l.length) (h2 : l.length ≤ 64) (k : Nat) (hk : k = (l.length - 1) / 2) (hk2 : k < (sortL l).length) : (sortL l)[k] = medL l := by
  subst hk
  unfold medL
  rw [if_neg (by omega), List.getD_eq_getElem?_getD, List.getElem?_eq_getElem hk2, Option.getD_some]

theorem med_ix {L : Nat} (h : 0 < L) (h2 : L ≤ 64) : (wrap64 ((L : Int) - 1)).tdiv 2 = (((L - 1) / 2 : Nat) : Int) := by
  rw [IntWalk.wrap64_in _ (by omega), Int.tdiv_eq_ediv_of_nonneg (by omega)]
  omega

set_option maxHeartbeats 4000000 in
theorem sMed_any (a : Option Addr) (c : Nat) (l : List Int) (w : World) (B : Nat) (h : Ints w B (.slice a l.length c) l) (hn : a = none → c = 0) (hB : B ≤ w.heap.size) (hl : l.length ≤ 1048576) :
    Calls Tryz.prog 142 #[.slice a l.length c] w (RetNB w (medL l)) := by
  have HS := hide (sSort_any a c l w B h hn hB hl)
  clear h hn
  obtain ⟨m, hm⟩ : ∃ m, m = medL l := ⟨_, rfl⟩
  have HA := hide (fun (h1 : 0 < l.length) (h2 : l.length ≤ 64) (k : Nat) (hk : k = (l.length - 1) / 2) (hk2 : k < (sortL l).length) => show (sortL l)[k] = m by rw [hm]; exact medL_at h1 h2 k hk hk2)
  have h0 : (l.length = 0 ∨ 64 < l.length) → m = 0 := fun h => by rw [hm]; unfold medL; rw [if_pos h]
  have hln := sortL_length l
  rw [← hm]
  clear hm
  obtain ⟨s, hs⟩ : ∃ s, s = sortL l := ⟨_, rfl⟩
  rw [← hs] at HS hln
  rw [← hs] at HA
  clear hs
  obtain ⟨L, hL⟩ : ∃ L, L = l.length := ⟨_, rfl⟩
  rw [← hL] at HA h0 hln HS ⊢
  by_cases z : L = 0
  · obtain rfl : m = 0 := h0 (.inl z)
    subst z
    clear hL HS HA h0 hln
    go_enter Tryz.func142, Tryz.ntmps142
    go_wp2_with fail
    go_ret
    exact ⟨rfl, Below.refl _ _⟩
  have t0 : ((L : Int) == 0) = false := by simpa using z
  by_cases y : 64 < L
  · obtain rfl : m = 0 := h0 (.inr y)
    have t1 : decide ((64 : Int) < (L : Int)) = true := decide_eq_true (by omega)
    clear hL HS HA h0 hln z
    go_enter Tryz.func142, Tryz.ntmps142
    go_wp2_with fail
    go_ret
    exact ⟨rfl, Below.refl _ _⟩
  have t1 : decide ((64 : Int) < (L : Int)) = false := decide_eq_false (by omega)
  have hk := med_ix (L := L) (by omega) (by omega)
  obtain ⟨k, hkk⟩ : ∃ k, k = (L - 1) / 2 := ⟨_, rfl⟩
  rw [← hkk] at hk
  have hkL : k < L := by omega
  have hwk : wrap64 (k : Int) = (k : Int) := IntWalk.wrap64_in _ (by omega)
  have HK := hide hkk
  have Hz := hide z
  have Hy := hide y
  clear hkk h0 z y hL hl
  go_enter Tryz.func142, Tryz.ntmps142
  go_wp2_with fail
  go_wp2_with fail
  go_at_call 90
  refine HS.out.mono ?_
  rintro e w1 ⟨v, hi, rfl, O, hb⟩
  obtain ⟨a', c', rfl⟩ := O.form
  obtain ⟨g, rfl, hc⟩ := O.at (by have := Hz.out; omega)
  have hkk := HK.out
  have ec := hc k (by omega)
  rw [HA.out (by have := Hz.out; omega) (by have := Hy.out; omega) k hkk (by omega)] at ec
  rw [hln]
  clear hc HA hkk HK
  go_wp2_with fail
  go_ret
  exact ⟨rfl, hb⟩

set_option maxHeartbeats 4000000 in
theorem iMed_any (a : Option Addr) (c : Nat) (l : List Int) (w : World) (B : Nat) (h : Ints w B (.slice a l.length c) l) (hn : a = none → c = 0) (hB : B ≤ w.heap.size) (hl : l.length ≤ 1048576) :
    Calls Tryz.prog 143 #[.slice a l.length c] w (RetNB w (medL l)) := by
  have HS := hide (show Calls Tryz.prog 111 #[.slice a l.length c] w (RetOw w (sortL l)) from (iSort_any a c l w B h hn hB hl).mono fun e w' ⟨v, rfl', O, hb⟩ => ⟨v, _, rfl', Ow.of O hb.size, hb⟩)
  clear h hn
  obtain ⟨m, hm⟩ : ∃ m, m = medL l := ⟨_, rfl⟩
  have HA := hide (fun (h1 : 0 < l.length) (h2 : l.length ≤ 64) (k : Nat) (hk : k = (l.length - 1) / 2) (hk2 : k < (sortL l).length) => show (sortL l)[k] = m by rw [hm]; exact medL_at h1 h2 k hk hk2)
  have h0 : (l.length = 0 ∨ 64 < l.length) → m = 0 := fun h => by rw [hm]; unfold medL; rw [if_pos h]
  have hln := sortL_length l
  rw [← hm]
  clear hm
  obtain ⟨s, hs⟩ : ∃ s, s = sortL l := ⟨_, rfl⟩
  rw [← hs] at HS hln
  rw [← hs] at HA
  clear hs
  obtain ⟨L, hL⟩ : ∃ L, L = l.length := ⟨_, rfl⟩
  rw [← hL] at HA h0 hln HS ⊢
  by_cases z : L = 0
  · obtain rfl : m = 0 := h0 (.inl z)
    subst z
    clear hL HS HA h0 hln
    go_enter Tryz.func143, Tryz.ntmps143
    go_wp2_with fail
    go_ret
    exact ⟨rfl, Below.refl _ _⟩
  have t0 : ((L : Int) == 0) = false := by simpa using z
  by_cases y : 64 < L
  · obtain rfl : m = 0 := h0 (.inr y)
    have t1 : decide ((64 : Int) < (L : Int)) = true := decide_eq_true (by omega)
    clear hL HS HA h0 hln z
    go_enter Tryz.func143, Tryz.ntmps143
    go_wp2_with fail
    go_ret
    exact ⟨rfl, Below.refl _ _⟩
  have t1 : decide ((64 : Int) < (L : Int)) = false := decide_eq_false (by omega)
  have hk := med_ix (L := L) (by omega) (by omega)
  obtain ⟨k, hkk⟩ : ∃ k, k = (L - 1) / 2 := ⟨_, rfl⟩
  rw [← hkk] at hk
  have hkL : k < L := by omega
  have hwk : wrap64 (k : Int) = (k : Int) := IntWalk.wrap64_in _ (by omega)
  have HK := hide hkk
  have Hz := hide z
  have Hy := hide y
  clear hkk h0 z y hL hl
  go_enter Tryz.func143, Tryz.ntmps143
  go_wp2_with fail
  go_wp2_with fail
  go_at_call 111
  refine HS.out.mono ?_
  rintro e w1 ⟨v, hi, rfl, O, hb⟩
  obtain ⟨a', c', rfl⟩ := O.form
  obtain ⟨g, rfl, hc⟩ := O.at (by have := Hz.out; omega)
  have hkk := HK.out
  have ec := hc k (by omega)
  rw [HA.out (by have := Hz.out; omega) (by have := Hy.out; omega) k hkk (by omega)] at ec
  rw [hln]
  clear hc HA hkk HK
  go_wp2_with fail
  go_ret
  exact ⟨rfl, hb⟩

end Go.Proofs.YtajfhalalnlejaaGreat
