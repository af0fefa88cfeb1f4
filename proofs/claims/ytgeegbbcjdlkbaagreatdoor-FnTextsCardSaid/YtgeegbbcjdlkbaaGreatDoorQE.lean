/- Several texts in one: FmtR, ParR, ParR2. -/
import Derived.Test.YtgeegbbcjdlkbaaGreatDoorRng2
import Derived.Test.YtgeegbbcjdlkbaaGreatDoorKn
import Derived.Test.YtgeegbbcjdlkbaaGreatDoorFmt
import Derived.Test.YtgeegbbcjdlkbaaGreatDoorParB
import Derived.Lib.IndexMore
import Derived.Lib.IndexLaws
import Derived.Test.YtgeegbbcjdlkbaaGreatDoorMl
/- What FormatRange returns, of the reference and of the program (promise 2). -/
namespace Go.Proofs.YtgeegbbcjdlkbaaGreatDoor
open Go.RowKit Go.ChangeShapes
set_option linter.unusedSimpArgs false
set_option linter.unusedVariables false
set_option maxRecDepth 100000

/-- A range's text. -/
def fmtR (f t : Int) : List UInt8 := if isR f t = true then Lib.itoa f ++ [46, 46] ++ Lib.itoa t else []

theorem fmtR_str (a b : List UInt8) : (ByteArray.mk a.toArray ++ ByteArray.mk #[46, 46]) ++ ByteArray.mk b.toArray = ByteArray.mk (a ++ [46, 46] ++ b).toArray := by
  have h1 := ByteArray.mk_append_mk a [46, 46]
  have h2 := ByteArray.mk_append_mk (a ++ [46, 46]) b
  rw [← h2, ← h1]

set_option maxHeartbeats 2000000 in
theorem iFmtR_any (f t : Int) (w : World) (ht : Tab w) : Calls Tryz.prog 10 #[.agg #[.int .i64 f, .int .i64 t]] w (RetS w (fmtR f t)) := by
  have HT := hide ht
  have X := hide (Kn.one w #[.int .i64 f, .int .i64 t] 32)
  obtain ⟨w1, hw1⟩ : ∃ w1, w1 = w.alloc (.cells #[.int .i64 f, .int .i64 t] 32) := ⟨_, rfl⟩
  rw [← hw1] at X
  have d0 := X.out.cell 0 0 rfl rfl
  have d1 := X.out.cell 0 1 rfl rfl
  clear ht
  cases hr : isR f t
  · have hv := hide (show fmtR f t = [] from if_neg (by rw [hr]; simp))
    have HR := hide hr
    clear hr
    go_enter Tryz.func10, Tryz.ntmps10
    go_wp2_with fail
    rw [← hw1]
    clear hw1
    go_wp2_with fail
    refine (iIsR_is HR.out _).mono ?_
    rintro e wa ⟨rfl, hb⟩
    have X := hide (X.out.up hb)
    clear hb
    go_wp2_with fail
    go_ret
    exact ⟨by rw [hv.out]; rfl, X.out.below⟩
  · have hv := hide (show fmtR f t = Lib.itoa f ++ [46, 46] ++ Lib.itoa t from if_pos hr)
    obtain ⟨l1, l2, l3, l4⟩ := isR_true hr
    have hlf := itoa_len f (by omega) (by omega)
    have hlt := itoa_len t (by omega) (by omega)
    have HR := hide hr
    clear hr
    go_enter Tryz.func10, Tryz.ntmps10
    go_wp2_with fail
    rw [← hw1]
    clear hw1
    go_wp2_with fail
    refine (iIsR_is HR.out _).mono ?_
    rintro e wa ⟨rfl, hb⟩
    have X := hide (X.out.up hb)
    have d0 := X.out.cell 0 0 rfl rfl
    have d1 := X.out.cell 0 1 rfl rfl
    clear hb
    go_wp2_with fail
    have XD := hide X.out.drew
    go_region_with (first
      | (go_at_call 42; refine (iFI_any _ _ (by omega) (by omega) (HT.out.stays XD.out.below (Nat.le_refl _))).mono ?_; rintro e wb ⟨rfl, hb⟩; have XD := hide (XD.out.up hb); have d0 := XD.out.cell 0 0 rfl rfl; have d1 := XD.out.cell 0 1 rfl rfl))
    all_goals go_wp2_with fail
    all_goals go_ret
    all_goals exact ⟨by rw [hv.out, ← fmtR_str]; rfl, XD.out.below⟩

end Go.Proofs.YtgeegbbcjdlkbaaGreatDoor

/- What ParseRange returns: the reference's search and the program's cut compute one thing; plain lists (promise 2). -/
namespace Go.Proofs.YtgeegbbcjdlkbaaGreatDoor
open Go.RowKit Go.ChangeShapes
set_option linter.unusedSimpArgs false
set_option linter.unusedVariables false
set_option maxRecDepth 100000

/-- What ParseRange returns. -/
def parR (L : List UInt8) : Int × Int × Bool :=
  if (Lib.cut L [46, 46]).2.2 = true ∧ (ParI (Lib.cut L [46, 46]).1).2 = true ∧ (ParI (Lib.cut L [46, 46]).2.1).2 = true ∧ isR (ParI (Lib.cut L [46, 46]).1).1 (ParI (Lib.cut L [46, 46]).2.1).1 = true
  then ((ParI (Lib.cut L [46, 46]).1).1, (ParI (Lib.cut L [46, 46]).2.1).1, true) else (0, 0, false)

theorem parR_none {L : List UInt8} (h : Lib.index L [46, 46] = -1) : parR L = (0, 0, false) := by
  have e : Lib.cut L [46, 46] = (L, [], false) := by unfold Lib.cut; rw [h, if_neg (by omega)]
  unfold parR
  rw [e, if_neg (fun hh => by simpa using hh.1)]

theorem itoa_kind (x : Int) : ∀ b ∈ Lib.itoa x, b ≠ 46 := by
  obtain ⟨D, neg, hs, rfl, rfl⟩ := itoa_strip x
  intro b hb
  have hd : b = 45 ∨ isDig b = true := by
    unfold Strip at hs
    split at hs
    · rw [hs] at hb
      rcases List.mem_cons.1 hb with h | h
      · exact .inl h
      · exact .inr (decDigits_all _ b h)
    · rw [hs.1] at hb
      exact .inr (decDigits_all _ b hb)
  rcases hd with rfl | hd
  · decide
  · simp [isDig] at hd
    exact fun e => by subst e; simp at hd

theorem dots_index {a b : List UInt8} (h : ∀ c ∈ a, c ≠ 46) : Lib.index (a ++ [46, 46] ++ b) [46, 46] = (a.length : Int) := by
  refine Lib.index_first (by simp) ?_ ?_
  · unfold Lib.occAt
    rw [List.append_assoc, List.drop_left]
    simp [List.isPrefixOf]
  · intro j hj
    unfold Lib.occAt
    rw [List.append_assoc, List.drop_append_of_le_length (by omega), List.drop_eq_getElem_cons hj]
    have := h _ (List.getElem_mem hj)
    rw [List.cons_append]
    show ((46 : UInt8) == a[j] && _) = false
    rw [show ((46 : UInt8) == a[j]) = false from beq_eq_false_iff_ne.2 (Ne.symm this)]
    rfl

theorem split_dots {L : List UInt8} {i : Nat} (h : Lib.index L [46, 46] = (i : Int)) : L = L.take i ++ [46, 46] ++ L.drop (i + 2) ∧ i + 2 ≤ L.length := by
  rcases Lib.index_spec L [46, 46] with ⟨h1, _⟩ | ⟨k, h1, hk, ho, _⟩
  · omega
  · obtain rfl : k = i := by omega
    unfold Lib.occAt at ho
    rw [List.isPrefixOf_iff_prefix] at ho
    obtain ⟨t, ht⟩ := ho
    have e : L = L.take k ++ ([46, 46] ++ t) := by rw [ht, List.take_append_drop]
    have hlen : k + 2 ≤ L.length := by
      have := congrArg List.length ht
      simp at this
      omega
    have e2 : L.drop (k + 2) = t := by
      have : L.drop (k + 2) = (L.drop k).drop 2 := by rw [List.drop_drop]
      rw [this, ← ht]
      rfl
    refine ⟨?_, hlen⟩
    rw [e2, List.append_assoc]
    exact e

open Classical in
theorem parR_at {L : List UInt8} {i : Nat} (h : Lib.index L [46, 46] = (i : Int)) : parR L = if fmtR (numP (L.take i)) (numP (L.drop (i + 2))) = L then (numP (L.take i), numP (L.drop (i + 2)), true) else (0, 0, false) := by
  obtain ⟨hL, hlen⟩ := split_dots h
  have ec : Lib.cut L [46, 46] = (L.take i, L.drop (i + 2), true) := by
    unfold Lib.cut
    rw [h, if_pos (by omega)]
    simp
  obtain ⟨a, ha⟩ : ∃ a, a = L.take i := ⟨_, rfl⟩
  obtain ⟨b, hb⟩ : ∃ b, b = L.drop (i + 2) := ⟨_, rfl⟩
  rw [← ha, ← hb] at hL ec ⊢
  unfold parR
  rw [ec]
  simp only
  by_cases hc : (ParI a).2 = true ∧ (ParI b).2 = true ∧ isR (ParI a).1 (ParI b).1 = true
  · obtain ⟨c1, c2, c3⟩ := hc
    have n1 : numP a = (ParI a).1 := if_pos c1
    have n2 : numP b = (ParI b).1 := if_pos c2
    rw [if_pos ⟨trivial, c1, c2, c3⟩, n1, n2, if_pos]
    unfold fmtR
    rw [if_pos c3, par_itoa c1, par_itoa c2]
    exact hL.symm
  · rw [if_neg (fun hh => hc hh.2), if_neg]
    intro hf
    apply hc
    unfold fmtR at hf
    split at hf
    · rename_i hr
      have h2 := dots_index (b := Lib.itoa (numP b)) (itoa_kind (numP a))
      rw [hf, h] at h2
      have hil : (Lib.itoa (numP a)).length = i := by omega
      have e1 : Lib.itoa (numP a) = a := by
        have h3 := congrArg (List.take i) hf
        rw [List.append_assoc, List.take_append_of_le_length (by omega), List.take_of_length_le (by omega)] at h3
        exact h3.trans ha.symm
      have e2 : Lib.itoa (numP b) = b := by
        have h3 := congrArg (List.drop (i + 2)) hf
        rw [List.drop_left' (by simp [hil])] at h3
        exact h3.trans hb.symm
      obtain ⟨l1, l2, l3, l4⟩ := isR_true hr
      have p1 := par_back (numP a)
      have p2 := par_back (numP b)
      rw [if_pos (by omega), e1] at p1
      rw [if_pos (by omega), e2] at p2
      rw [p1, p2]
      exact ⟨rfl, rfl, hr⟩
    · rw [← hf] at hlen
      simp at hlen

end Go.Proofs.YtgeegbbcjdlkbaaGreatDoor

/- ParseRange of the program and of the reference (promise 2). -/
namespace Go.Proofs.YtgeegbbcjdlkbaaGreatDoor
open Go.RowKit Go.ChangeShapes
set_option linter.unusedSimpArgs false
set_option linter.unusedVariables false
set_option maxRecDepth 100000

/-- A range and a truth are returned; nothing that was there has turned. -/
def RetRgB (w : World) (p : Int × Int × Bool) (e : Ending) (w' : World) : Prop := e = .returned (.tuple #[.agg #[.int .i64 p.1, .int .i64 p.2.1], .bool p.2.2]) ∧ Below w.heap.size w w'

theorem cut_le (s : List UInt8) : (Lib.cut s [46, 46]).1.length ≤ s.length ∧ (Lib.cut s [46, 46]).2.1.length ≤ s.length := by
  unfold Lib.cut
  split <;> simp
  omega

set_option maxHeartbeats 4000000 in
theorem iParR_any (s : ByteArray) (w : World) (hs : s.size ≤ 1048576) (hT : Tab w) (hM : ML w) :
    Calls Tryz.prog 9 #[.string s] w (RetRgB w (parR s.data.toList)) := by
  obtain ⟨r, hr⟩ : ∃ r, r = parR s.data.toList := ⟨_, rfl⟩
  rw [← hr]
  have hcl := cut_le s.data.toList
  obtain ⟨⟨hd, bd, en⟩, hcut⟩ : ∃ p, p = Lib.cut s.data.toList [46, 46] := ⟨_, rfl⟩
  unfold parR at hr
  rw [← hcut] at hr hcl
  simp only at hr hcl
  have hsl : s.data.toList.length = s.size := by simp
  rw [hsl] at hcl
  have HCUT := hide (show ∀ W : World, ML W → Calls Tryz.prog 35 #[.string s, .string ⟨#[46, 46]⟩] W fun e w' => e = .returned (.tuple #[.string ⟨hd.toArray⟩, .string ⟨bd.toArray⟩, .bool en]) ∧ Below W.heap.size W w' from fun W ⟨m, hm⟩ => by
    have := Tryz.strings_Cut s ⟨#[46, 46]⟩ m W (by omega) hm
    rw [show (ByteArray.mk #[46, 46]).data.toList = [46, 46] from rfl, ← hcut] at this
    exact this.mono fun _ _ ⟨p, n, q⟩ => ⟨p, by rw [q]; exact below_drewN (Below.refl _ _) _⟩)
  obtain ⟨⟨x, t⟩, hx⟩ : ∃ p, p = ParI hd := ⟨_, rfl⟩
  obtain ⟨⟨y, u⟩, hy⟩ : ∃ p, p = ParI bd := ⟨_, rfl⟩
  have HX := hide (show ∀ W : World, Tab W → Calls Tryz.prog 40 #[.string ⟨hd.toArray⟩] W fun e w' => e = .returned (.tuple #[.int .i64 x, .bool t]) ∧ Below W.heap.size W w' from fun W h => by
    have := iPI_any ⟨hd.toArray⟩ W (by simp [ByteArray.size]; omega) h
    rw [show (ByteArray.mk hd.toArray).data.toList = hd by simp, ← hx] at this
    exact this)
  have HY := hide (show ∀ W : World, Tab W → Calls Tryz.prog 40 #[.string ⟨bd.toArray⟩] W fun e w' => e = .returned (.tuple #[.int .i64 y, .bool u]) ∧ Below W.heap.size W w' from fun W h => by
    have := iPI_any ⟨bd.toArray⟩ W (by simp [ByteArray.size]; omega) h
    rw [show (ByteArray.mk bd.toArray).data.toList = bd by simp, ← hy] at this
    exact this)
  obtain ⟨q, hq⟩ : ∃ q, q = isR x y := ⟨_, rfl⟩
  have HQ := hide (fun W => iIsR_is hq.symm W)
  rw [← hx, ← hy] at hr
  simp only at hr
  rw [← hq] at hr
  have HR := hide hr
  have HT := hide hT
  have HM := hide hM
  have X := hide (Kn.one w #[.int .i64 0, .int .i64 0] 32)
  have M1 := hide (HM.out.up X.out.below)
  obtain ⟨w1, hw1⟩ : ∃ w1, w1 = w.alloc (.cells #[.int .i64 0, .int .i64 0] 32) := ⟨_, rfl⟩
  rw [← hw1] at X M1
  clear hcut hx hy hq hr hT hM hcl hsl
  go_enter Tryz.func9, Tryz.ntmps9
  go_wp2_with fail
  rw [← hw1]
  clear hw1
  go_wp2_with fail
  refine (HCUT.out _ M1.out).mono ?_
  rintro e w2 ⟨rfl, hb⟩
  have X := hide (X.out.up hb)
  clear hb
  go_wp2_with fail
  refine (HX.out _ (HT.out.stays X.out.below (Nat.le_refl _))).mono ?_
  rintro e w3 ⟨rfl, hb⟩
  have X := hide (X.out.up hb)
  clear hb
  go_wp2_with fail
  refine (HY.out _ (HT.out.stays X.out.below (Nat.le_refl _))).mono ?_
  rintro e w4 ⟨rfl, hb⟩
  have X := hide (X.out.up hb)
  have c0 := X.out.cell 0 0 rfl rfl
  have c1 := X.out.cell 0 1 rfl rfl
  have f0 := X.out.free 0 0 rfl
  have f1 := X.out.free 0 1 rfl
  have z0 := X.out.lt 0 rfl
  have X4 := X
  have X := hide (show Kn w _ [(w.heap.size, #[.int .i64 0, .int .i64 0], 32), (w4.heap.size, #[.int .i64 x, .int .i64 y], 32)] from X.out.alloc #[.int .i64 x, .int .i64 y] 32)
  clear hb
  by_cases hc : en = true ∧ t = true ∧ u = true
  · obtain ⟨rfl, rfl, rfl⟩ := hc
    go_wp2_with fail
    refine (HQ.out _).mono ?_
    rintro e w6 ⟨rfl, hb⟩
    have X := hide (X.out.up hb)
    have c0 := X.out.cell 0 0 rfl rfl
    have c1 := X.out.cell 0 1 rfl rfl
    have f0 := X.out.free 0 0 rfl
    have f1 := X.out.free 0 1 rfl
    have e0 := X.out.cell 1 0 rfl rfl
    have e1 := X.out.cell 1 1 rfl rfl
    clear hb
    cases q
    · have hv := hide (show r = (0, 0, false) by rw [HR.out]; simp)
      go_wp2_with fail
      have X := (X.out.set 0 0 rfl (.int .i64 0)).set 0 1 rfl (.int .i64 0)
      have q0 := X.cell 0 0 rfl rfl
      have q1 := X.cell 0 1 rfl rfl
      refine bodyPost_ret (v := .tuple #[.agg #[.int .i64 0, .int .i64 0], .bool false]) (by simp [results, Tryz.results9, go_sem, q0, q1]) rfl ⟨by rw [hv.out], X.below⟩
    · have hv := hide (show r = (x, y, true) by rw [HR.out]; simp)
      go_wp2_with fail
      have X := (X.out.set 0 0 rfl (.int .i64 x)).set 0 1 rfl (.int .i64 y)
      have q0 := X.cell 0 0 rfl rfl
      have q1 := X.cell 0 1 rfl rfl
      refine bodyPost_ret (v := .tuple #[.agg #[.int .i64 x, .int .i64 y], .bool true]) (by simp [results, Tryz.results9, go_sem, q0, q1]) rfl ⟨by rw [hv.out], X.below⟩
  · have hv := hide (show r = (0, 0, false) by rw [HR.out, if_neg (fun hh => hc ⟨hh.1, hh.2.1, hh.2.2.1⟩)])
    have Y := hide (((X4.out.set 0 0 rfl (.int .i64 0)).set 0 1 rfl (.int .i64 0)).alloc #[.int .i64 x, .int .i64 y] 32)
    cases en
    · go_wp2_with fail
      have q0 := Y.out.cell 0 0 rfl rfl
      have q1 := Y.out.cell 0 1 rfl rfl
      refine bodyPost_ret (v := .tuple #[.agg #[.int .i64 0, .int .i64 0], .bool false]) (by simp [results, Tryz.results9, go_sem, q0, q1]) rfl ⟨by rw [hv.out], Y.out.below⟩
    · cases t
      · go_wp2_with fail
        have q0 := Y.out.cell 0 0 rfl rfl
        have q1 := Y.out.cell 0 1 rfl rfl
        refine bodyPost_ret (v := .tuple #[.agg #[.int .i64 0, .int .i64 0], .bool false]) (by simp [results, Tryz.results9, go_sem, q0, q1]) rfl ⟨by rw [hv.out], Y.out.below⟩
      · cases u
        · go_wp2_with fail
          have q0 := Y.out.cell 0 0 rfl rfl
          have q1 := Y.out.cell 0 1 rfl rfl
          refine bodyPost_ret (v := .tuple #[.agg #[.int .i64 0, .int .i64 0], .bool false]) (by simp [results, Tryz.results9, go_sem, q0, q1]) rfl ⟨by rw [hv.out], Y.out.below⟩
        · exact absurd ⟨rfl, rfl, rfl⟩ hc

theorem dots_test (s : ByteArray) (k : Nat) (h : k + 1 < s.size) : ((s.extract k (k + 2)).toList == [46, 46]) = Lib.occAt s.data.toList [46, 46] k := by
  have hk : k + 1 < s.data.toList.length := by simpa using h
  rw [ByteArray.toList_eq, Lib.extract_data, show k + 2 - k = 2 by omega]
  unfold Lib.occAt
  rw [List.drop_eq_getElem_cons (by omega), List.drop_eq_getElem_cons (by omega)]
  simp [List.isPrefixOf]
  rw [Bool.eq_iff_iff]
  simp
  exact ⟨fun h => ⟨h.1.symm, h.2.symm⟩, fun h => ⟨h.1.symm, h.2.symm⟩⟩

end Go.Proofs.YtgeegbbcjdlkbaaGreatDoor
