/- ParseRange of the program and of the reference (promise 2). -/
import Derived.Test.YtgeegbbcjdlkbaaDoorParR
import Derived.Test.YtgeegbbcjdlkbaaDoorMl
namespace Go.Proofs.YtgeegbbcjdlkbaaDoor
open Go.RowKit Go.ChangeShapes
set_option linter.unusedSimpArgs false
set_option linter.unusedVariables false
set_option maxRecDepth 100000

/-- A range and a truth are returned; nothing that was there has turned. -/
def RetRgB (w : World) (p : Int × Int × Bool) (e : Ending) (w' : World) : Prop := e = .returned (.tuple #[.agg #[.int .i64 p.1, .int .i64 p.2.1], .bool p.2.2]) ∧ Below w.heap.size w w'

theorem cut_le (s : List UInt8) : (Lib.cut s [46, 46]).1.length ≤ s.length ∧ (Lib.cut s [46, 46]).2.1.length ≤ s.length := by
  unfold Lib.cut
  split <;> simp
  omega

set_option maxHeartbeats 4000000 in
theorem iParR_any (s : ByteArray) (w : World) (hs : s.size ≤ 1048576) (hT : Tab w) (hM : ML w) :
    Calls Tryd.prog 9 #[.string s] w (RetRgB w (parR s.data.toList)) := by
  obtain ⟨r, hr⟩ : ∃ r, r = parR s.data.toList := ⟨_, rfl⟩
  rw [← hr]
  have hcl := cut_le s.data.toList
  obtain ⟨⟨hd, bd, en⟩, hcut⟩ : ∃ p, p = Lib.cut s.data.toList [46, 46] := ⟨_, rfl⟩
  unfold parR at hr
  rw [← hcut] at hr hcl
  simp only at hr hcl
  have hsl : s.data.toList.length = s.size := by simp
  rw [hsl] at hcl
  have HCUT := hide (show ∀ W : World, ML W → Calls Tryd.prog 16 #[.string s, .string ⟨#[46, 46]⟩] W fun e w' => e = .returned (.tuple #[.string ⟨hd.toArray⟩, .string ⟨bd.toArray⟩, .bool en]) ∧ Below W.heap.size W w' from fun W ⟨m, hm⟩ => by
    have := Tryd.strings_Cut s ⟨#[46, 46]⟩ m W (by omega) hm
    rw [show (ByteArray.mk #[46, 46]).data.toList = [46, 46] from rfl, ← hcut] at this
    exact this.mono fun _ _ ⟨p, n, q⟩ => ⟨p, by rw [q]; exact below_drewN (Below.refl _ _) _⟩)
  obtain ⟨⟨x, t⟩, hx⟩ : ∃ p, p = ParI hd := ⟨_, rfl⟩
  obtain ⟨⟨y, u⟩, hy⟩ : ∃ p, p = ParI bd := ⟨_, rfl⟩
  have HX := hide (show ∀ W : World, Tab W → Calls Tryd.prog 17 #[.string ⟨hd.toArray⟩] W fun e w' => e = .returned (.tuple #[.int .i64 x, .bool t]) ∧ Below W.heap.size W w' from fun W h => by
    have := iPI_any ⟨hd.toArray⟩ W (by simp [ByteArray.size]; omega) h
    rw [show (ByteArray.mk hd.toArray).data.toList = hd by simp, ← hx] at this
    exact this)
  have HY := hide (show ∀ W : World, Tab W → Calls Tryd.prog 17 #[.string ⟨bd.toArray⟩] W fun e w' => e = .returned (.tuple #[.int .i64 y, .bool u]) ∧ Below W.heap.size W w' from fun W h => by
    have := iPI_any ⟨bd.toArray⟩ W (by simp [ByteArray.size]; omega) h
    rw [show (ByteArray.mk bd.toArray).data.toList = bd by simp, ← hy] at this
    exact this)
  obtain ⟨q, hq⟩ : ∃ q, q = isR x y := ⟨_, rfl⟩
  have HQ := hide (fun W => iIsR_is hq.symm W)
  rw [← hx, ← hy] at hr
  simp only at hr
  rw [← hq] at hr
  have HR := hide hr
  have HT := hide hT
  have HM := hide hM
  have X := hide (Kn.one w #[.int .i64 0, .int .i64 0] 25)
  have M1 := hide (HM.out.up X.out.below)
  obtain ⟨w1, hw1⟩ : ∃ w1, w1 = w.alloc (.cells #[.int .i64 0, .int .i64 0] 25) := ⟨_, rfl⟩
  rw [← hw1] at X M1
  clear hcut hx hy hq hr hT hM hcl hsl
  go_enter Tryd.func9, Tryd.ntmps9
  go_wp2_with fail
  rw [← hw1]
  clear hw1
  go_wp2_with fail
  refine (HCUT.out _ M1.out).mono ?_
  rintro e w2 ⟨rfl, hb⟩
  have X := hide (X.out.up hb)
  clear hb
  go_wp2_with fail
  refine (HX.out _ (HT.out.stays X.out.below (Nat.le_refl _))).mono ?_
  rintro e w3 ⟨rfl, hb⟩
  have X := hide (X.out.up hb)
  clear hb
  go_wp2_with fail
  refine (HY.out _ (HT.out.stays X.out.below (Nat.le_refl _))).mono ?_
  rintro e w4 ⟨rfl, hb⟩
  have X := hide (X.out.up hb)
  have c0 := X.out.cell 0 0 rfl rfl
  have c1 := X.out.cell 0 1 rfl rfl
  have f0 := X.out.free 0 0 rfl
  have f1 := X.out.free 0 1 rfl
  have z0 := X.out.lt 0 rfl
  have X4 := X
  have X := hide (show Kn w _ [(w.heap.size, #[.int .i64 0, .int .i64 0], 25), (w4.heap.size, #[.int .i64 x, .int .i64 y], 25)] from X.out.alloc #[.int .i64 x, .int .i64 y] 25)
  clear hb
  by_cases hc : en = true ∧ t = true ∧ u = true
  · obtain ⟨rfl, rfl, rfl⟩ := hc
    go_wp2_with fail
    refine (HQ.out _).mono ?_
    rintro e w6 ⟨rfl, hb⟩
    have X := hide (X.out.up hb)
    have c0 := X.out.cell 0 0 rfl rfl
    have c1 := X.out.cell 0 1 rfl rfl
    have f0 := X.out.free 0 0 rfl
    have f1 := X.out.free 0 1 rfl
    have e0 := X.out.cell 1 0 rfl rfl
    have e1 := X.out.cell 1 1 rfl rfl
    clear hb
    cases q
    · have hv := hide (show r = (0, 0, false) by rw [HR.out]; simp)
      go_wp2_with fail
      have X := (X.out.set 0 0 rfl (.int .i64 0)).set 0 1 rfl (.int .i64 0)
      have q0 := X.cell 0 0 rfl rfl
      have q1 := X.cell 0 1 rfl rfl
      refine bodyPost_ret (v := .tuple #[.agg #[.int .i64 0, .int .i64 0], .bool false]) (by simp [results, Tryd.results9, go_sem, q0, q1]) rfl ⟨by rw [hv.out], X.below⟩
    · have hv := hide (show r = (x, y, true) by rw [HR.out]; simp)
      go_wp2_with fail
      have X := (X.out.set 0 0 rfl (.int .i64 x)).set 0 1 rfl (.int .i64 y)
      have q0 := X.cell 0 0 rfl rfl
      have q1 := X.cell 0 1 rfl rfl
      refine bodyPost_ret (v := .tuple #[.agg #[.int .i64 x, .int .i64 y], .bool true]) (by simp [results, Tryd.results9, go_sem, q0, q1]) rfl ⟨by rw [hv.out], X.below⟩
  · have hv := hide (show r = (0, 0, false) by rw [HR.out, if_neg (fun hh => hc ⟨hh.1, hh.2.1, hh.2.2.1⟩)])
    have Y := hide (((X4.out.set 0 0 rfl (.int .i64 0)).set 0 1 rfl (.int .i64 0)).alloc #[.int .i64 x, .int .i64 y] 25)
    cases en
    · go_wp2_with fail
      have q0 := Y.out.cell 0 0 rfl rfl
      have q1 := Y.out.cell 0 1 rfl rfl
      refine bodyPost_ret (v := .tuple #[.agg #[.int .i64 0, .int .i64 0], .bool false]) (by simp [results, Tryd.results9, go_sem, q0, q1]) rfl ⟨by rw [hv.out], Y.out.below⟩
    · cases t
      · go_wp2_with fail
        have q0 := Y.out.cell 0 0 rfl rfl
        have q1 := Y.out.cell 0 1 rfl rfl
        refine bodyPost_ret (v := .tuple #[.agg #[.int .i64 0, .int .i64 0], .bool false]) (by simp [results, Tryd.results9, go_sem, q0, q1]) rfl ⟨by rw [hv.out], Y.out.below⟩
      · cases u
        · go_wp2_with fail
          have q0 := Y.out.cell 0 0 rfl rfl
          have q1 := Y.out.cell 0 1 rfl rfl
          refine bodyPost_ret (v := .tuple #[.agg #[.int .i64 0, .int .i64 0], .bool false]) (by simp [results, Tryd.results9, go_sem, q0, q1]) rfl ⟨by rw [hv.out], Y.out.below⟩
        · exact absurd ⟨rfl, rfl, rfl⟩ hc

theorem dots_test (s : ByteArray) (k : Nat) (h : k + 1 < s.size) : ((s.extract k (k + 2)).toList == [46, 46]) = Lib.occAt s.data.toList [46, 46] k := by
  have hk : k + 1 < s.data.toList.length := by simpa using h
  rw [ByteArray.toList_eq, Lib.extract_data, show k + 2 - k = 2 by omega]
  unfold Lib.occAt
  rw [List.drop_eq_getElem_cons (by omega), List.drop_eq_getElem_cons (by omega)]
  simp [List.isPrefixOf]
  rw [Bool.eq_iff_iff]
  simp
  exact ⟨fun h => ⟨h.1.symm, h.2.symm⟩, fun h => ⟨h.1.symm, h.2.symm⟩⟩

set_option maxHeartbeats 4000000 in
theorem sParR_any (s : ByteArray) (w : World) (hs : s.size ≤ 1048576) :
    Calls Tryd.prog 8 #[.string s] w (RetRgB w (parR s.data.toList)) := by
  obtain ⟨r, hr⟩ : ∃ r, r = parR s.data.toList := ⟨_, rfl⟩
  rw [← hr]
  have HR := hide hr
  have X := hide (Kn.one w #[.int .i64 0, .int .i64 0] 25)
  obtain ⟨w1, hw1⟩ : ∃ w1, w1 = w.alloc (.cells #[.int .i64 0, .int .i64 0] 25) := ⟨_, rfl⟩
  rw [← hw1] at X
  clear hr
  go_enter Tryd.func8, Tryd.ntmps8
  go_wp2_with fail
  rw [← hw1]
  clear hw1
  go_loopw [4] (fun i wr => ∃ (k : Nat), k ≤ s.size ∧ i = .int .i64 k ∧ Hid (Lib.NoOcc s.data.toList [46, 46] k) ∧ w1 = wr) (fun i _ => s.size - (intOf i).toNat)
  case atStart => exact ⟨0, by omega, rfl, Lib.NoOcc.zero _ _, rfl⟩
  case round =>
    obtain ⟨k, hk, rfl, hno, rfl⟩ := hrel
    have c0 := X.out.cell 0 0 rfl rfl
    have c1 := X.out.cell 0 1 rfl rfl
    have f0 := X.out.free 0 0 rfl
    have f1 := X.out.free 0 1 rfl
    have z0 := X.out.lt 0 rfl
    by_cases hlt : k + 1 < s.size
    · have ht := dots_test s k hlt
      cases ho : Lib.occAt s.data.toList [46, 46] k
      · rw [ho] at ht
        have HN := hide (hno.out.succ ho)
        clear ho
        go_wp2_with fail
        go_roundw
        case rel => exact ⟨k + 1, by omega, by go_num, HN.out, trivial⟩
        case measure => simp [intOf]; omega
      · rw [ho] at ht
        have HI := hide (Lib.index_hit hno.out (by simp; omega) ho)
        clear ho
        obtain ⟨x, hx⟩ : ∃ x, x = numP (s.data.toList.take k) := ⟨_, rfl⟩
        obtain ⟨y, hy⟩ : ∃ y, y = numP (s.data.toList.drop (k + 2)) := ⟨_, rfl⟩
        have H1 := hide (show ∀ W : World, Calls Tryd.prog 15 #[.string (s.extract 0 k)] W (RetI1 W x) from fun W => by
          have := sNum_any (s.extract 0 k) W (by simp; omega)
          rw [Lib.extract_data, List.drop_zero, Nat.sub_zero, ← hx] at this
          exact this)
        have H2 := hide (show ∀ W : World, Calls Tryd.prog 15 #[.string (s.extract (k + 2) s.size)] W (RetI1 W y) from fun W => by
          have := sNum_any (s.extract (k + 2) s.size) W (by simp; omega)
          rw [Lib.extract_to_end, ← hy] at this
          exact this)
        have HF := hide (show ∀ W : World, Calls Tryd.prog 5 #[.agg #[.int .i64 x, .int .i64 y]] W fun e w' => e = .returned (.string ⟨(fmtR x y).toArray⟩) ∧ Below W.heap.size W w' from fun W => sFmtR_any x y W)
        have hr2 := HR.out
        rw [parR_at HI.out, ← hx, ← hy] at hr2
        have HR2 := hide hr2
        have hq : ((⟨(fmtR x y).toArray⟩ : ByteArray).toList == s.toList) = decide (fmtR x y = s.data.toList) := by
          rw [ByteArray.toList_eq, ByteArray.toList_eq, Bool.eq_iff_iff]
          simp
        obtain ⟨z, hz⟩ : ∃ z : ByteArray, z = ⟨(fmtR x y).toArray⟩ := ⟨_, rfl⟩
        rw [← hz] at HF hq
        clear hx hy hr2 hz
        go_upto_region 5 with fail
        go_cut [5] from 6 to 34 (fun v wx => ∃ g, v = .pointer (some ⟨g, 0, none⟩) ∧ Hid (Kn w wx [(w.heap.size, #[.int .i64 0, .int .i64 0], 25), (g, #[.int .i64 x, .int .i64 y], 25)]))
        case first =>
          have X0 := X
          have X := hide X.out.drew
          have k4 : k + 2 ≤ s.size := by omega
          have k5 : (k : Int) + 2 ≤ (s.size : Int) := by omega
          have k2 : (0 : Int) ≤ (k : Int) + 2 := by omega
          have k1 : IntKind.i64.wrap ((k : Int) + 2) = (k : Int) + 2 := IntWalk.i64_in _ (by omega)
          have k3 : ((k : Int) + 2).toNat = k + 2 := by omega
          go_region_with (first
            | (go_at_call 15; (with_reducible refine (H1.out _).mono ?_); rintro e wa ⟨rfl, hb⟩; (first | (have X := hide (X.out.up hb)) | (have X := hide (X0.out.upD hb)) | (have X := hide (X.out.upA hb))); have z0 := X.out.lt 0 rfl; (first | (have e0 := X.out.cell 1 0 rfl rfl; have e1 := X.out.cell 1 1 rfl rfl; have g0 := X.out.free 1 0 rfl; have g1 := X.out.free 1 1 rfl; have g2 := X.out.lt 1 rfl) | skip))
            | (go_at_call 15; (with_reducible refine (H2.out _).mono ?_); rintro e wa ⟨rfl, hb⟩; (first | (have X := hide (X.out.up hb)) | (have X := hide (X0.out.upD hb)) | (have X := hide (X.out.upA hb))); have z0 := X.out.lt 0 rfl; (first | (have e0 := X.out.cell 1 0 rfl rfl; have e1 := X.out.cell 1 1 rfl rfl; have g0 := X.out.free 1 0 rfl; have g1 := X.out.free 1 1 rfl; have g2 := X.out.lt 1 rfl) | skip)))
          all_goals go_wp2_with fail
          all_goals go_meet
          all_goals first | exact ⟨_, rfl, (X.out.set 1 0 rfl _).set 1 1 rfl _⟩ | exact ⟨_, rfl, X.out.alloc _ _⟩
        case rest =>
          obtain ⟨g, rfl, X⟩ := hcut
          clear c0 c1 f0 f1 z0
          have e0 := X.out.cell 1 0 rfl rfl
          have e1 := X.out.cell 1 1 rfl rfl
          go_wp2_with fail
          refine (HF.out _).mono ?_
          rintro e wb ⟨rfl, hb⟩
          have X := hide (X.out.up hb)
          have c0 := X.out.cell 0 0 rfl rfl
          have c1 := X.out.cell 0 1 rfl rfl
          have f0 := X.out.free 0 0 rfl
          have f1 := X.out.free 0 1 rfl
          have e0 := X.out.cell 1 0 rfl rfl
          have e1 := X.out.cell 1 1 rfl rfl
          clear hb
          by_cases hf : fmtR x y = s.data.toList
          · rw [decide_eq_true hf] at hq
            have HV := hide (show r = (x, y, true) by rw [HR2.out, if_pos hf])
            clear hf
            go_wp2_with fail
            have X := (X.out.set 0 0 rfl (.int .i64 x)).set 0 1 rfl (.int .i64 y)
            have q0 := X.cell 0 0 rfl rfl
            have q1 := X.cell 0 1 rfl rfl
            refine bodyPost_ret (v := .tuple #[.agg #[.int .i64 x, .int .i64 y], .bool true]) (by simp [results, Tryd.results8, go_sem, q0, q1]) rfl ⟨by rw [HV.out], X.below⟩
          · rw [decide_eq_false hf] at hq
            have HV := hide (show r = (0, 0, false) by rw [HR2.out, if_neg hf])
            clear hf
            go_wp2_with fail
            have X := (X.out.set 0 0 rfl (.int .i64 0)).set 0 1 rfl (.int .i64 0)
            have q0 := X.cell 0 0 rfl rfl
            have q1 := X.cell 0 1 rfl rfl
            refine bodyPost_ret (v := .tuple #[.agg #[.int .i64 0, .int .i64 0], .bool false]) (by simp [results, Tryd.results8, go_sem, q0, q1]) rfl ⟨by rw [HV.out], X.below⟩
    · have HV := hide (show r = (0, 0, false) by rw [HR.out]; exact parR_none (Lib.index_past (by simp) hno.out (by simp; omega)))
      go_wp2_with fail
      have X := (X.out.set 0 0 rfl (.int .i64 0)).set 0 1 rfl (.int .i64 0)
      have q0 := X.cell 0 0 rfl rfl
      have q1 := X.cell 0 1 rfl rfl
      refine bodyPost_ret (v := .tuple #[.agg #[.int .i64 0, .int .i64 0], .bool false]) (by simp [results, Tryd.results8, go_sem, q0, q1]) rfl ⟨by rw [HV.out], X.below⟩

end Go.Proofs.YtgeegbbcjdlkbaaDoor
