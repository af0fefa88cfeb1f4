/- The walk of FnTexts. -/
import Derived.Test.YtgeegbbcjdlkbaaGreatDoorQD
import Derived.Test.YtgeegbbcjdlkbaaGreatDoorQF
namespace Go.Proofs.YtgeegbbcjdlkbaaGreatDoor
open Go.RowKit Go.ChangeShapes
set_option linter.unusedSimpArgs false
set_option linter.unusedVariables false
set_option maxRecDepth 100000

theorem tbl_up {w w' : World} {v : Value} {cs : List Col} (h : Tbl w w.heap.size v cs) (hb : Below w.heap.size w w') : Tbl w' w'.heap.size v cs := h.up hb

set_option maxHeartbeats 16000000 in
theorem texts_walk (w : World) (v0 : Value) (w0 : CodeV w v0) (ht : Tab w) (hm : ML w) :
    Calls Tryz.prog 3 #[v0] w fun e w' => e = .returned (.bool true) ∧ Below w.heap.size w w' := by
  obtain ⟨a, len, cap, rfl, hcode⟩ := w0
  have H := hide hcode
  have HT := hide ht
  have HM := hide hm
  clear hcode ht hm
  by_cases hbig : len ≤ 1048576
  · go_enter Tryz.func3, Tryz.ntmps3
    go_wp2_with fail
    refine (bigN a len cap _ hbig).mono ?_
    rintro e w1 ⟨rfl, rfl⟩
    have X := hide (Kn.start w)
    go_wp2_with fail
    refine (drFmtT_any a len cap _ (H.out.below X.out.below (Nat.le_refl _)) hbig).mono ?_
    rintro e w2 ⟨a3, c3, cs, rfl, hT3, hS3, hl3, hb⟩
    have T3 := hide hT3
    have S3 := hide hS3
    have X := hide (X.out.up hb)
    clear hT3 hS3 hb
    have hb1 := below1 w2 (.cells #[.slice a3 cs.length c3] 26)
    replace X := hide (show Kn w _ [(w2.heap.size, #[.slice a3 cs.length c3], 26)] from X.out.alloc #[.slice a3 cs.length c3] 26)
    replace T3 := hide (T3.out.up hb1)
    clear hb1
    obtain ⟨b3, hb3⟩ : ∃ Z, Z = w2.heap.size := ⟨_, rfl⟩
    obtain ⟨w3, hww3⟩ : ∃ Z, Z = w2.alloc (.cells #[.slice a3 cs.length c3] 26) := ⟨_, rfl⟩
    rw [← hb3] at X
    rw [← hww3] at X
    rw [← hww3] at T3
    go_wp2_with fail
    rw [← hb3]
    rw [← hww3]
    clear hb3 hww3
    have d3 := X.out.cell 0 0 rfl rfl
    obtain ⟨s, hs⟩ : ∃ s : ByteArray, s = ⟨(fmtTab cs).toArray⟩ := ⟨_, rfl⟩
    obtain ⟨bt, hbt⟩ : ∃ b, b = isT cs := ⟨_, rfl⟩
    have HF1 := hide (show ∀ W (v : Value), Tbl W W.heap.size v cs → Tab W → Calls Tryz.prog 6 #[v] W fun e w' => e = .returned (.string s) ∧ Below W.heap.size W w' from fun W v h k => by rw [hs]; exact iFmt_any v cs W _ h (Nat.le_refl _) k)
    have HF2 := hide (show ∀ W (v : Value), Tbl W W.heap.size v cs → Calls Tryz.prog 11 #[v] W fun e w' => e = .returned (.string s) ∧ Below W.heap.size W w' from fun W v h => by rw [hs]; exact sFmt_any v cs W _ h (Nat.le_refl _))
    have HP1 := hide (show ∀ W, Tab W → ML W → Calls Tryz.prog 7 #[.string s] W (RetPT W cs bt) from fun W h k => by rw [hs, hbt]; exact parse_own cs S3.out W h k)
    have HI1 := hide (show ∀ W (v : Value), Tbl W W.heap.size v cs → Calls Tryz.prog 12 #[v] W (RetB1 W bt) from fun W v h => by rw [hbt]; exact sTable_any v cs W _ h (Nat.le_refl _))
    have hss : (s.toList != s.toList) = false := by simp
    clear hs hbt
    go_wp2_with fail
    refine (HF1.out _ _ T3.out.tbl (HT.out.stays X.out.below (Nat.le_refl _))).mono ?_
    rintro e w4 ⟨rfl, hb⟩
    replace X := hide (X.out.up hb)
    replace T3 := hide (T3.out.up hb)
    clear hb
    go_wp2_with fail
    refine (HP1.out _ (HT.out.stays X.out.below (Nat.le_refl _)) (HM.out.up X.out.below)).mono ?_
    rintro e w5 ⟨a5, c5, cs5, rfl, hcs5, hT5, hb⟩
    have T5 := hide hT5
    have HC5 := hide hcs5
    have X := hide (X.out.up hb)
    have T3 := hide (T3.out.up hb)
    clear hT5 hcs5 hb
    have hb1 := below1 w5 (.cells #[.slice a5 cs5.length c5] 26)
    replace X := hide (show Kn w _ [(b3, #[.slice a3 cs.length c3], 26), (w5.heap.size, #[.slice a5 cs5.length c5], 26)] from X.out.alloc #[.slice a5 cs5.length c5] 26)
    replace T3 := hide (T3.out.up hb1)
    replace T5 := hide (T5.out.up hb1)
    clear hb1
    obtain ⟨b5, hb5⟩ : ∃ Z, Z = w5.heap.size := ⟨_, rfl⟩
    obtain ⟨w6, hww6⟩ : ∃ Z, Z = w5.alloc (.cells #[.slice a5 cs5.length c5] 26) := ⟨_, rfl⟩
    rw [← hb5] at X
    rw [← hww6] at X
    rw [← hww6] at T3
    rw [← hww6] at T5
    go_wp2_with fail
    rw [← hb5]
    rw [← hww6]
    clear hb5 hww6
    refine (drFmtR_any a len cap _ (H.out.below X.out.below (Nat.le_refl _)) hbig).mono ?_
    rintro e w7 ⟨f, t, hft, rfl, hb⟩
    have HFT := hide hft
    clear hft d3
    replace X := hide (X.out.up hb)
    replace T3 := hide (T3.out.up hb)
    replace T5 := hide (T5.out.up hb)
    clear hb
    have hb1 := below1 w7 (.cells #[.int .i64 f, .int .i64 t] 32)
    replace X := hide (show Kn w _ [(b3, #[.slice a3 cs.length c3], 26), (b5, #[.slice a5 cs5.length c5], 26), (w7.heap.size, #[.int .i64 f, .int .i64 t], 32)] from X.out.alloc #[.int .i64 f, .int .i64 t] 32)
    replace T3 := hide (T3.out.up hb1)
    replace T5 := hide (T5.out.up hb1)
    clear hb1
    obtain ⟨b7, hb7⟩ : ∃ Z, Z = w7.heap.size := ⟨_, rfl⟩
    obtain ⟨w8, hww8⟩ : ∃ Z, Z = w7.alloc (.cells #[.int .i64 f, .int .i64 t] 32) := ⟨_, rfl⟩
    rw [← hb7] at X
    rw [← hww8] at X
    rw [← hww8] at T3
    rw [← hww8] at T5
    go_wp2_with fail
    rw [← hb7]
    rw [← hww8]
    clear hb7 hww8
    have d7 := X.out.cell 2 0 rfl rfl
    have d7' := X.out.cell 2 1 rfl rfl
    obtain ⟨sr, hsr⟩ : ∃ s : ByteArray, s = ⟨(fmtR f t).toArray⟩ := ⟨_, rfl⟩
    obtain ⟨br, hbr⟩ : ∃ b, b = isR f t := ⟨_, rfl⟩
    have HF3 := hide (show ∀ W, Tab W → Calls Tryz.prog 10 #[.agg #[.int .i64 f, .int .i64 t]] W fun e w' => e = .returned (.string sr) ∧ Below W.heap.size W w' from fun W k => by rw [hsr]; exact iFmtR_any f t W k)
    have HP2 := hide (show ∀ W, Tab W → ML W → Calls Tryz.prog 9 #[.string sr] W (RetPR W f t br) from fun W h k => by rw [hsr, hbr]; exact parseR_own f t W h k)
    have HI2 := hide (fun W => sIsR_at hbr.symm W)
    clear hsr hbr
    go_wp2_with fail
    refine (HF3.out _ (HT.out.stays X.out.below (Nat.le_refl _))).mono ?_
    rintro e w9 ⟨rfl, hb⟩
    replace X := hide (X.out.up hb)
    replace T3 := hide (T3.out.up hb)
    replace T5 := hide (T5.out.up hb)
    clear hb
    go_wp2_with fail
    refine (HP2.out _ (HT.out.stays X.out.below (Nat.le_refl _)) (HM.out.up X.out.below)).mono ?_
    rintro e w10 ⟨x, y, rfl, hxy, hb⟩
    have HXY := hide hxy
    clear hxy d7 d7'
    replace X := hide (X.out.up hb)
    replace T3 := hide (T3.out.up hb)
    replace T5 := hide (T5.out.up hb)
    clear hb
    have hb1 := below1 w10 (.cells #[.int .i64 x, .int .i64 y] 32)
    replace X := hide (show Kn w _ [(b3, #[.slice a3 cs.length c3], 26), (b5, #[.slice a5 cs5.length c5], 26), (b7, #[.int .i64 f, .int .i64 t], 32), (w10.heap.size, #[.int .i64 x, .int .i64 y], 32)] from X.out.alloc #[.int .i64 x, .int .i64 y] 32)
    replace T3 := hide (T3.out.up hb1)
    replace T5 := hide (T5.out.up hb1)
    clear hb1
    obtain ⟨b8, hb8⟩ : ∃ Z, Z = w10.heap.size := ⟨_, rfl⟩
    obtain ⟨w11, hww11⟩ : ∃ Z, Z = w10.alloc (.cells #[.int .i64 x, .int .i64 y] 32) := ⟨_, rfl⟩
    rw [← hb8] at X
    rw [← hww11] at X
    rw [← hww11] at T3
    rw [← hww11] at T5
    go_upto_region 8 with fail
    rw [← hb8]
    rw [← hww11]
    clear hb8 hww11
    go_cut [73] (fun v wx => v = .bool false ∧ Hid (Kn w wx [(b3, #[.slice a3 cs.length c3], 26), (b5, #[.slice a5 cs5.length c5], 26), (b7, #[.int .i64 f, .int .i64 t], 32), (b8, #[.int .i64 x, .int .i64 y], 32)]))
    case first =>
      have d3 := X.out.cell 0 0 rfl rfl
      have d5 := X.out.cell 1 0 rfl rfl
      have d7 := X.out.cell 2 0 rfl rfl
      have d7' := X.out.cell 2 1 rfl rfl
      have d8 := X.out.cell 3 0 rfl rfl
      have d8' := X.out.cell 3 1 rfl rfl
      go_wp2_with fail
      refine (HF2.out _ _ T3.out.tbl).mono ?_
      rintro e v1 ⟨rfl, hb⟩
      replace X := hide (X.out.up hb)
      replace T3 := hide (T3.out.up hb)
      replace T5 := hide (T5.out.up hb)
      clear hb
      have d3 := X.out.cell 0 0 rfl rfl
      have d5 := X.out.cell 1 0 rfl rfl
      have d7 := X.out.cell 2 0 rfl rfl
      have d7' := X.out.cell 2 1 rfl rfl
      have d8 := X.out.cell 3 0 rfl rfl
      have d8' := X.out.cell 3 1 rfl rfl
      go_wp2_with fail
      refine (HI1.out _ _ T3.out.tbl).mono ?_
      rintro e v2 ⟨rfl, hb⟩
      replace X := hide (X.out.up hb)
      replace T3 := hide (T3.out.up hb)
      replace T5 := hide (T5.out.up hb)
      clear hb
      have d3 := X.out.cell 0 0 rfl rfl
      have d5 := X.out.cell 1 0 rfl rfl
      have d7 := X.out.cell 2 0 rfl rfl
      have d7' := X.out.cell 2 1 rfl rfl
      have d8 := X.out.cell 3 0 rfl rfl
      have d8' := X.out.cell 3 1 rfl rfl
      have hbb : (bt != bt) = false := by simp
      have hrr : (br != br) = false := by simp
      cases bt
      · go_wp2_with fail
        refine (HI2.out _).mono ?_
        rintro e v3 ⟨rfl, hb⟩
        have X := hide (X.out.up hb)
        clear hb
        have d7 := X.out.cell 2 0 rfl rfl
        have d7' := X.out.cell 2 1 rfl rfl
        have d8 := X.out.cell 3 0 rfl rfl
        have d8' := X.out.cell 3 1 rfl rfl
        cases br
        · go_wp2_with fail
          go_meet
          exact ⟨rfl, X.out⟩
        · obtain ⟨rfl, rfl⟩ := HXY.out rfl
          have q1 : (x == x) = true := by simp
          have q2 : (y == y) = true := by simp
          have q3 : (x != x) = false := by simp
          have q4 : (y != y) = false := by simp
          go_wp2_with fail
          go_meet
          exact ⟨rfl, X.out⟩
      · have e5 := HC5.out rfl
        subst e5
        go_wp2_with fail
        refine (HF1.out _ _ T5.out (HT.out.stays X.out.below (Nat.le_refl _))).mono ?_
        rintro e v3 ⟨rfl, hb⟩
        have X := hide (X.out.up hb)
        clear hb
        have d7 := X.out.cell 2 0 rfl rfl
        have d7' := X.out.cell 2 1 rfl rfl
        have d8 := X.out.cell 3 0 rfl rfl
        have d8' := X.out.cell 3 1 rfl rfl
        go_wp2_with fail
        refine (HI2.out _).mono ?_
        rintro e v4 ⟨rfl, hb⟩
        have X := hide (X.out.up hb)
        clear hb
        have d7 := X.out.cell 2 0 rfl rfl
        have d7' := X.out.cell 2 1 rfl rfl
        have d8 := X.out.cell 3 0 rfl rfl
        have d8' := X.out.cell 3 1 rfl rfl
        cases br
        · go_wp2_with fail
          go_meet
          exact ⟨rfl, X.out⟩
        · obtain ⟨rfl, rfl⟩ := HXY.out rfl
          have q1 : (x == x) = true := by simp
          have q2 : (y == y) = true := by simp
          have q3 : (x != x) = false := by simp
          have q4 : (y != y) = false := by simp
          go_wp2_with fail
          go_meet
          exact ⟨rfl, X.out⟩
    case rest =>
      obtain ⟨rfl, X⟩ := hcut
      have X := hide (X.out.sub (List.nil_sublist _))
      clear T3 T5 HF1 HF2 HP1 HI1 HF3 HP2 HI2 HXY HC5 HFT S3
      go_wp2_with fail
      refine (drMeet_any a len cap _ (H.out.below X.out.below (Nat.le_refl _)) hbig).mono ?_
      rintro e w12 ⟨p, q, r, u, hpq, hru, rfl, hb⟩
      have X := hide (X.out.up hb)
      clear hb hpq hru
      have X := hide (show Kn w _ [(w12.heap.size, #[.int .i64 p, .int .i64 q], 32), (w12.heap.size + 1, #[.int .i64 r, .int .i64 u], 32)] from by
        have := (X.out.alloc #[.int .i64 p, .int .i64 q] 32).alloc #[.int .i64 r, .int .i64 u] 32
        simpa using this)
      obtain ⟨b10, hb10⟩ : ∃ Z, Z = w12.heap.size := ⟨_, rfl⟩
      obtain ⟨w13, hw13⟩ : ∃ Z, Z = (w12.alloc (.cells #[.int .i64 p, .int .i64 q] 32)).alloc (.cells #[.int .i64 r, .int .i64 u] 32) := ⟨_, rfl⟩
      rw [← hb10] at X
      rw [← hw13] at X
      obtain ⟨mf, hmf⟩ : ∃ Z, Z = meF p q r u := ⟨_, rfl⟩
      obtain ⟨mt, hmt⟩ : ∃ Z, Z = meT p q r u := ⟨_, rfl⟩
      have HMI := hide (fun W => iMeet_any p q r u W)
      have HMS := hide (fun W => sMeet_any p q r u W)
      have HIN := hide (fun (v : Int) (h : isR p q = true) (k : isR r u = true) => meet_in v h k)
      rw [← hmf, ← hmt] at HMI HMS HIN
      clear hmf hmt
      have d0 := X.out.cell 0 0 rfl rfl
      have d1 := X.out.cell 0 1 rfl rfl
      have d2 := X.out.cell 1 0 rfl rfl
      have d3 := X.out.cell 1 1 rfl rfl
      go_upto_region 11 with fail
      rw [← hb10]
      rw [← hw13]
      clear hb10 hw13
      go_wp2_with fail
      refine (HMI.out _).mono ?_
      rintro e w14 ⟨rfl, hb⟩
      clear d0 d1 d2 d3
      replace X := hide (X.out.up hb)
      clear hb
      have hb1 := below1 w14 (.cells #[.int .i64 mf, .int .i64 mt] 32)
      replace X := hide (show Kn w _ [(b10, #[.int .i64 p, .int .i64 q], 32), (b10 + 1, #[.int .i64 r, .int .i64 u], 32), (w14.heap.size, #[.int .i64 mf, .int .i64 mt], 32)] from X.out.alloc #[.int .i64 mf, .int .i64 mt] 32)
      clear hb1
      obtain ⟨b12, hb12⟩ : ∃ Z, Z = w14.heap.size := ⟨_, rfl⟩
      obtain ⟨w15, hww15⟩ : ∃ Z, Z = w14.alloc (.cells #[.int .i64 mf, .int .i64 mt] 32) := ⟨_, rfl⟩
      rw [← hb12] at X
      rw [← hww15] at X
      go_wp2_with fail
      rw [← hb12]
      rw [← hww15]
      clear hb12 hww15
      refine (drIn_any a len cap _ (H.out.below X.out.below (Nat.le_refl _)) hbig).mono ?_
      rintro e w16 ⟨f', t', n, hft, ⟨n1, n2⟩, rfl, hb⟩
      clear hft
      replace X := hide (X.out.up hb)
      clear hb
      have hb1 := below1 w16 (.cells #[.int .i64 f', .int .i64 t'] 32)
      replace X := hide (show Kn w _ [(b10, #[.int .i64 p, .int .i64 q], 32), (b10 + 1, #[.int .i64 r, .int .i64 u], 32), (b12, #[.int .i64 mf, .int .i64 mt], 32), (w16.heap.size, #[.int .i64 f', .int .i64 t'], 32)] from X.out.alloc #[.int .i64 f', .int .i64 t'] 32)
      clear hb1
      obtain ⟨b13, hb13⟩ : ∃ Z, Z = w16.heap.size := ⟨_, rfl⟩
      obtain ⟨w17, hww17⟩ : ∃ Z, Z = w16.alloc (.cells #[.int .i64 f', .int .i64 t'] 32) := ⟨_, rfl⟩
      rw [← hb13] at X
      rw [← hww17] at X
      go_wp2_with fail
      rw [← hb13]
      rw [← hww17]
      clear hb13 hww17
      go_loopw [15] (fun i wr => ∃ j : Nat, j ≤ 7 ∧ i = .int .i64 (n - 3 + (j : Int)) ∧ Hid (Kn w wr [(b10, #[.int .i64 p, .int .i64 q], 32), (b10 + 1, #[.int .i64 r, .int .i64 u], 32), (b12, #[.int .i64 mf, .int .i64 mt], 32), (b13, #[.int .i64 f', .int .i64 t'], 32)])) (fun i _ => (n + 4 - intOf i).toNat)
      case atStart => exact ⟨0, by omega, by simp, X.out⟩
      case round =>
        clear X
        obtain ⟨j, hj, rfl, X⟩ := hrel
        by_cases hj7 : j < 7
        · have hle : n - 3 + (j : Int) ≤ n + 3 := by omega
          cases hra : isR p q
          · have HA := hide (fun W => sIsR_at hra W)
            clear hra
            have XD := hide X.out.drew
            have d0 := X.out.cell 0 0 rfl rfl
            have d1 := X.out.cell 0 1 rfl rfl
            have d2 := X.out.cell 1 0 rfl rfl
            have d3 := X.out.cell 1 1 rfl rfl
            have d4 := X.out.cell 2 0 rfl rfl
            have d5 := X.out.cell 2 1 rfl rfl
            go_wp2_with fail
            refine GR.region (S := (fun w' => w'.cell? ⟨b10, 0, none⟩ = some (.int .i64 p) ∧ w'.cell? ⟨b10, 1, none⟩ = some (.int .i64 q) ∧ w'.cell? ⟨b10 + 1, 0, none⟩ = some (.int .i64 r) ∧ w'.cell? ⟨b10 + 1, 1, none⟩ = some (.int .i64 u) ∧ w'.cell? ⟨b12, 0, none⟩ = some (.int .i64 mf) ∧ w'.cell? ⟨b12, 1, none⟩ = some (.int .i64 mt))) (n := 20) (by kernel_rfl) rfl ⟨d0, d1, d2, d3, d4, d5⟩ (fun hS => ?_)
            refine GR.take (i := 0) (v := (.agg #[.int .i64 p, .int .i64 q])) rfl (by kernel_rfl) (by kernel_rfl) (by kernel_rfl) (fun _ _ _ h => h) (by first | (go_simp; done) | rfl) (by rintro w' ⟨s0, s1, s2, s3, s4, s5⟩; go_simp) hS ?_
            try simp only [Act.put, List.setIfInBounds_toArray, List.set_cons_zero, List.set_cons_succ]
            refine GR.one (i := 1) (by kernel_rfl) rfl (fun K hK => ?_)
            go_simp
            go_at_call 13
            refine (HA.out _).mono ?_
            rintro e v1 ⟨rfl, hb⟩
            replace XD := hide (XD.out.up hb)
            clear hb d0 d1 d2 d3 d4 d5
            have d0 := XD.out.cell 0 0 rfl rfl
            have d1 := XD.out.cell 0 1 rfl rfl
            have d2 := XD.out.cell 1 0 rfl rfl
            have d3 := XD.out.cell 1 1 rfl rfl
            have d4 := XD.out.cell 2 0 rfl rfl
            have d5 := XD.out.cell 2 1 rfl rfl
            clear hS
            have hS : ((fun w' => w'.cell? ⟨b10, 0, none⟩ = some (.int .i64 p) ∧ w'.cell? ⟨b10, 1, none⟩ = some (.int .i64 q) ∧ w'.cell? ⟨b10 + 1, 0, none⟩ = some (.int .i64 r) ∧ w'.cell? ⟨b10 + 1, 1, none⟩ = some (.int .i64 u) ∧ w'.cell? ⟨b12, 0, none⟩ = some (.int .i64 mf) ∧ w'.cell? ⟨b12, 1, none⟩ = some (.int .i64 mt))) v1 := ⟨d0, d1, d2, d3, d4, d5⟩
            refine hK.out _ _ hS ?_
            clear hK K
            try simp only [Act.put, List.setIfInBounds_toArray, List.set_cons_zero, List.set_cons_succ]
            refine GR.take (i := 2) (v := (.bool false)) rfl (by kernel_rfl) (by kernel_rfl) (by kernel_rfl) (fun _ _ _ h => h) (by first | (go_simp; done) | rfl) (by rintro w' ⟨s0, s1, s2, s3, s4, s5⟩; go_simp) hS ?_
            try simp only [Act.put, List.setIfInBounds_toArray, List.set_cons_zero, List.set_cons_succ]
            refine GR.skip (i := 3) rfl (by kernel_rfl) (by kernel_rfl) (by kernel_rfl) (fun _ _ _ h => h) (by first | (go_simp; done) | rfl) hS ?_
            try simp only [Act.put, List.setIfInBounds_toArray, List.set_cons_zero, List.set_cons_succ]
            refine GR.one (i := 4) (by kernel_rfl) rfl (fun K hK => ?_)
            go_simp
            refine hK.out _ _ hS ?_
            clear hK K
            try simp only [Act.put, List.setIfInBounds_toArray, List.set_cons_zero, List.set_cons_succ]
            refine GR.take (i := 5) (v := (.bool false)) rfl (by kernel_rfl) (by kernel_rfl) (by kernel_rfl) (fun _ _ _ h => h) (by first | (go_simp; done) | rfl) (by rintro w' ⟨s0, s1, s2, s3, s4, s5⟩; go_simp) hS ?_
            try simp only [Act.put, List.setIfInBounds_toArray, List.set_cons_zero, List.set_cons_succ]
            refine GR.take (i := 6) (v := (.bool false)) rfl (by kernel_rfl) (by kernel_rfl) (by kernel_rfl) (fun _ _ _ h => h) (by first | (go_simp; done) | rfl) (by rintro w' ⟨s0, s1, s2, s3, s4, s5⟩; go_simp) hS ?_
            try simp only [Act.put, List.setIfInBounds_toArray, List.set_cons_zero, List.set_cons_succ]
            refine GR.skip (i := 7) rfl (by kernel_rfl) (by kernel_rfl) (by kernel_rfl) (fun _ _ _ h => h) (by first | (go_simp; done) | rfl) hS ?_
            try simp only [Act.put, List.setIfInBounds_toArray, List.set_cons_zero, List.set_cons_succ]
            refine GR.skip (i := 8) rfl (by kernel_rfl) (by kernel_rfl) (by kernel_rfl) (fun _ _ _ h => h) (by first | (go_simp; done) | rfl) hS ?_
            try simp only [Act.put, List.setIfInBounds_toArray, List.set_cons_zero, List.set_cons_succ]
            refine GR.skip (i := 10) rfl (by kernel_rfl) (by kernel_rfl) (by kernel_rfl) (fun _ _ _ h => h) (by first | (go_simp; done) | rfl) hS ?_
            try simp only [Act.put, List.setIfInBounds_toArray, List.set_cons_zero, List.set_cons_succ]
            refine GR.skip (i := 11) rfl (by kernel_rfl) (by kernel_rfl) (by kernel_rfl) (fun _ _ _ h => h) (by first | (go_simp; done) | rfl) hS ?_
            try simp only [Act.put, List.setIfInBounds_toArray, List.set_cons_zero, List.set_cons_succ]
            refine GR.one (i := 9) (by kernel_rfl) rfl (fun K hK => ?_)
            go_simp
            refine hK.out _ _ hS ?_
            clear hK K
            try simp only [Act.put, List.setIfInBounds_toArray, List.set_cons_zero, List.set_cons_succ]
            refine GR.one (i := 12) (by kernel_rfl) rfl (fun K hK => ?_)
            go_simp
            refine hK.out _ _ hS ?_
            clear hK K
            try simp only [Act.put, List.setIfInBounds_toArray, List.set_cons_zero, List.set_cons_succ]
            refine GR.skip (i := 13) rfl (by kernel_rfl) (by kernel_rfl) (by kernel_rfl) (fun _ _ _ h => h) (by first | (go_simp; done) | rfl) hS ?_
            try simp only [Act.put, List.setIfInBounds_toArray, List.set_cons_zero, List.set_cons_succ]
            refine GR.skip (i := 14) rfl (by kernel_rfl) (by kernel_rfl) (by kernel_rfl) (fun _ _ _ h => h) (by first | (go_simp; done) | rfl) hS ?_
            try simp only [Act.put, List.setIfInBounds_toArray, List.set_cons_zero, List.set_cons_succ]
            refine GR.skip (i := 15) rfl (by kernel_rfl) (by kernel_rfl) (by kernel_rfl) (fun _ _ _ h => h) (by first | (go_simp; done) | rfl) hS ?_
            try simp only [Act.put, List.setIfInBounds_toArray, List.set_cons_zero, List.set_cons_succ]
            refine GR.one (i := 16) (by kernel_rfl) rfl (fun K hK => ?_)
            go_simp
            refine hK.out _ _ hS ?_
            clear hK K
            try simp only [Act.put, List.setIfInBounds_toArray, List.set_cons_zero, List.set_cons_succ]
            refine GR.skip (i := 17) rfl (by kernel_rfl) (by kernel_rfl) (by kernel_rfl) (fun _ _ _ h => h) (by first | (go_simp; done) | rfl) hS ?_
            try simp only [Act.put, List.setIfInBounds_toArray, List.set_cons_zero, List.set_cons_succ]
            refine GR.skip (i := 18) rfl (by kernel_rfl) (by kernel_rfl) (by kernel_rfl) (fun _ _ _ h => h) (by first | (go_simp; done) | rfl) hS ?_
            try simp only [Act.put, List.setIfInBounds_toArray, List.set_cons_zero, List.set_cons_succ]
            refine GR.take (i := 19) (v := (.bool false)) rfl (by kernel_rfl) (by kernel_rfl) (by kernel_rfl) (fun _ _ _ h => h) (by first | (go_simp; done) | rfl) (by rintro w' ⟨s0, s1, s2, s3, s4, s5⟩; go_simp) hS ?_
            try simp only [Act.put, List.setIfInBounds_toArray, List.set_cons_zero, List.set_cons_succ]
            refine GR.done (by kernel_rfl) ?_
            go_wp2_with fail
            go_roundw
            case rel => exact ⟨j + 1, by omega, by first | go_num | (congr 1; omega), XD.out⟩
            case measure => simp [intOf]; omega
          · cases hrb : isR r u
            · have HA := hide (fun W => sIsR_at hra W)
              have HB := hide (fun W => sIsR_at hrb W)
              clear hra hrb
              have XD := hide X.out.drew
              have d0 := X.out.cell 0 0 rfl rfl
              have d1 := X.out.cell 0 1 rfl rfl
              have d2 := X.out.cell 1 0 rfl rfl
              have d3 := X.out.cell 1 1 rfl rfl
              have d4 := X.out.cell 2 0 rfl rfl
              have d5 := X.out.cell 2 1 rfl rfl
              go_wp2_with fail
              refine GR.region (S := (fun w' => w'.cell? ⟨b10, 0, none⟩ = some (.int .i64 p) ∧ w'.cell? ⟨b10, 1, none⟩ = some (.int .i64 q) ∧ w'.cell? ⟨b10 + 1, 0, none⟩ = some (.int .i64 r) ∧ w'.cell? ⟨b10 + 1, 1, none⟩ = some (.int .i64 u) ∧ w'.cell? ⟨b12, 0, none⟩ = some (.int .i64 mf) ∧ w'.cell? ⟨b12, 1, none⟩ = some (.int .i64 mt))) (n := 20) (by kernel_rfl) rfl ⟨d0, d1, d2, d3, d4, d5⟩ (fun hS => ?_)
              refine GR.take (i := 0) (v := (.agg #[.int .i64 p, .int .i64 q])) rfl (by kernel_rfl) (by kernel_rfl) (by kernel_rfl) (fun _ _ _ h => h) (by first | (go_simp; done) | rfl) (by rintro w' ⟨s0, s1, s2, s3, s4, s5⟩; go_simp) hS ?_
              try simp only [Act.put, List.setIfInBounds_toArray, List.set_cons_zero, List.set_cons_succ]
              refine GR.one (i := 1) (by kernel_rfl) rfl (fun K hK => ?_)
              go_simp
              go_at_call 13
              refine (HA.out _).mono ?_
              rintro e v1 ⟨rfl, hb⟩
              replace XD := hide (XD.out.up hb)
              clear hb d0 d1 d2 d3 d4 d5
              have d0 := XD.out.cell 0 0 rfl rfl
              have d1 := XD.out.cell 0 1 rfl rfl
              have d2 := XD.out.cell 1 0 rfl rfl
              have d3 := XD.out.cell 1 1 rfl rfl
              have d4 := XD.out.cell 2 0 rfl rfl
              have d5 := XD.out.cell 2 1 rfl rfl
              clear hS
              have hS : ((fun w' => w'.cell? ⟨b10, 0, none⟩ = some (.int .i64 p) ∧ w'.cell? ⟨b10, 1, none⟩ = some (.int .i64 q) ∧ w'.cell? ⟨b10 + 1, 0, none⟩ = some (.int .i64 r) ∧ w'.cell? ⟨b10 + 1, 1, none⟩ = some (.int .i64 u) ∧ w'.cell? ⟨b12, 0, none⟩ = some (.int .i64 mf) ∧ w'.cell? ⟨b12, 1, none⟩ = some (.int .i64 mt))) v1 := ⟨d0, d1, d2, d3, d4, d5⟩
              refine hK.out _ _ hS ?_
              clear hK K
              try simp only [Act.put, List.setIfInBounds_toArray, List.set_cons_zero, List.set_cons_succ]
              refine GR.take (i := 2) (v := (.bool true)) rfl (by kernel_rfl) (by kernel_rfl) (by kernel_rfl) (fun _ _ _ h => h) (by first | (go_simp; done) | rfl) (by rintro w' ⟨s0, s1, s2, s3, s4, s5⟩; go_simp) hS ?_
              try simp only [Act.put, List.setIfInBounds_toArray, List.set_cons_zero, List.set_cons_succ]
              refine GR.take (i := 3) (v := (.agg #[.int .i64 r, .int .i64 u])) rfl (by kernel_rfl) (by kernel_rfl) (by kernel_rfl) (fun _ _ _ h => h) (by first | (go_simp; done) | rfl) (by rintro w' ⟨s0, s1, s2, s3, s4, s5⟩; go_simp) hS ?_
              try simp only [Act.put, List.setIfInBounds_toArray, List.set_cons_zero, List.set_cons_succ]
              refine GR.one (i := 4) (by kernel_rfl) rfl (fun K hK => ?_)
              go_simp
              go_at_call 13
              refine (HB.out _).mono ?_
              rintro e v2 ⟨rfl, hb⟩
              replace XD := hide (XD.out.up hb)
              clear hb d0 d1 d2 d3 d4 d5
              have d0 := XD.out.cell 0 0 rfl rfl
              have d1 := XD.out.cell 0 1 rfl rfl
              have d2 := XD.out.cell 1 0 rfl rfl
              have d3 := XD.out.cell 1 1 rfl rfl
              have d4 := XD.out.cell 2 0 rfl rfl
              have d5 := XD.out.cell 2 1 rfl rfl
              clear hS
              have hS : ((fun w' => w'.cell? ⟨b10, 0, none⟩ = some (.int .i64 p) ∧ w'.cell? ⟨b10, 1, none⟩ = some (.int .i64 q) ∧ w'.cell? ⟨b10 + 1, 0, none⟩ = some (.int .i64 r) ∧ w'.cell? ⟨b10 + 1, 1, none⟩ = some (.int .i64 u) ∧ w'.cell? ⟨b12, 0, none⟩ = some (.int .i64 mf) ∧ w'.cell? ⟨b12, 1, none⟩ = some (.int .i64 mt))) v2 := ⟨d0, d1, d2, d3, d4, d5⟩
              refine hK.out _ _ hS ?_
              clear hK K
              try simp only [Act.put, List.setIfInBounds_toArray, List.set_cons_zero, List.set_cons_succ]
              refine GR.take (i := 5) (v := (.bool false)) rfl (by kernel_rfl) (by kernel_rfl) (by kernel_rfl) (fun _ _ _ h => h) (by first | (go_simp; done) | rfl) (by rintro w' ⟨s0, s1, s2, s3, s4, s5⟩; go_simp) hS ?_
              try simp only [Act.put, List.setIfInBounds_toArray, List.set_cons_zero, List.set_cons_succ]
              refine GR.take (i := 6) (v := (.bool false)) rfl (by kernel_rfl) (by kernel_rfl) (by kernel_rfl) (fun _ _ _ h => h) (by first | (go_simp; done) | rfl) (by rintro w' ⟨s0, s1, s2, s3, s4, s5⟩; go_simp) hS ?_
              try simp only [Act.put, List.setIfInBounds_toArray, List.set_cons_zero, List.set_cons_succ]
              refine GR.skip (i := 7) rfl (by kernel_rfl) (by kernel_rfl) (by kernel_rfl) (fun _ _ _ h => h) (by first | (go_simp; done) | rfl) hS ?_
              try simp only [Act.put, List.setIfInBounds_toArray, List.set_cons_zero, List.set_cons_succ]
              refine GR.skip (i := 8) rfl (by kernel_rfl) (by kernel_rfl) (by kernel_rfl) (fun _ _ _ h => h) (by first | (go_simp; done) | rfl) hS ?_
              try simp only [Act.put, List.setIfInBounds_toArray, List.set_cons_zero, List.set_cons_succ]
              refine GR.skip (i := 10) rfl (by kernel_rfl) (by kernel_rfl) (by kernel_rfl) (fun _ _ _ h => h) (by first | (go_simp; done) | rfl) hS ?_
              try simp only [Act.put, List.setIfInBounds_toArray, List.set_cons_zero, List.set_cons_succ]
              refine GR.skip (i := 11) rfl (by kernel_rfl) (by kernel_rfl) (by kernel_rfl) (fun _ _ _ h => h) (by first | (go_simp; done) | rfl) hS ?_
              try simp only [Act.put, List.setIfInBounds_toArray, List.set_cons_zero, List.set_cons_succ]
              refine GR.one (i := 9) (by kernel_rfl) rfl (fun K hK => ?_)
              go_simp
              refine hK.out _ _ hS ?_
              clear hK K
              try simp only [Act.put, List.setIfInBounds_toArray, List.set_cons_zero, List.set_cons_succ]
              refine GR.one (i := 12) (by kernel_rfl) rfl (fun K hK => ?_)
              go_simp
              refine hK.out _ _ hS ?_
              clear hK K
              try simp only [Act.put, List.setIfInBounds_toArray, List.set_cons_zero, List.set_cons_succ]
              refine GR.skip (i := 13) rfl (by kernel_rfl) (by kernel_rfl) (by kernel_rfl) (fun _ _ _ h => h) (by first | (go_simp; done) | rfl) hS ?_
              try simp only [Act.put, List.setIfInBounds_toArray, List.set_cons_zero, List.set_cons_succ]
              refine GR.skip (i := 14) rfl (by kernel_rfl) (by kernel_rfl) (by kernel_rfl) (fun _ _ _ h => h) (by first | (go_simp; done) | rfl) hS ?_
              try simp only [Act.put, List.setIfInBounds_toArray, List.set_cons_zero, List.set_cons_succ]
              refine GR.skip (i := 15) rfl (by kernel_rfl) (by kernel_rfl) (by kernel_rfl) (fun _ _ _ h => h) (by first | (go_simp; done) | rfl) hS ?_
              try simp only [Act.put, List.setIfInBounds_toArray, List.set_cons_zero, List.set_cons_succ]
              refine GR.one (i := 16) (by kernel_rfl) rfl (fun K hK => ?_)
              go_simp
              refine hK.out _ _ hS ?_
              clear hK K
              try simp only [Act.put, List.setIfInBounds_toArray, List.set_cons_zero, List.set_cons_succ]
              refine GR.skip (i := 17) rfl (by kernel_rfl) (by kernel_rfl) (by kernel_rfl) (fun _ _ _ h => h) (by first | (go_simp; done) | rfl) hS ?_
              try simp only [Act.put, List.setIfInBounds_toArray, List.set_cons_zero, List.set_cons_succ]
              refine GR.skip (i := 18) rfl (by kernel_rfl) (by kernel_rfl) (by kernel_rfl) (fun _ _ _ h => h) (by first | (go_simp; done) | rfl) hS ?_
              try simp only [Act.put, List.setIfInBounds_toArray, List.set_cons_zero, List.set_cons_succ]
              refine GR.take (i := 19) (v := (.bool false)) rfl (by kernel_rfl) (by kernel_rfl) (by kernel_rfl) (fun _ _ _ h => h) (by first | (go_simp; done) | rfl) (by rintro w' ⟨s0, s1, s2, s3, s4, s5⟩; go_simp) hS ?_
              try simp only [Act.put, List.setIfInBounds_toArray, List.set_cons_zero, List.set_cons_succ]
              refine GR.done (by kernel_rfl) ?_
              go_wp2_with fail
              go_roundw
              case rel => exact ⟨j + 1, by omega, by first | go_num | (congr 1; omega), XD.out⟩
              case measure => simp [intOf]; omega
            · have hm := HIN.out (n - 3 + (j : Int)) hra hrb
              have HA := hide (fun W => sIsR_at hra W)
              have HB := hide (fun W => sIsR_at hrb W)
              obtain ⟨xa, hxa⟩ : ∃ Z, Z = inR p q (n - 3 + (j : Int)) := ⟨_, rfl⟩
              obtain ⟨xb, hxb⟩ : ∃ Z, Z = inR r u (n - 3 + (j : Int)) := ⟨_, rfl⟩
              rw [← hxa, ← hxb] at hm
              clear hra hrb
              cases xa
              · have HIm := hide (fun W => iInR_at (show inR mf mt (n - 3 + (j : Int)) = false by rw [hm]; rfl) W)
                have HIa := hide (fun W => sInR_at hxa.symm W)
                clear hm hxa hxb
                have XD := hide X.out.drew
                have d0 := X.out.cell 0 0 rfl rfl
                have d1 := X.out.cell 0 1 rfl rfl
                have d2 := X.out.cell 1 0 rfl rfl
                have d3 := X.out.cell 1 1 rfl rfl
                have d4 := X.out.cell 2 0 rfl rfl
                have d5 := X.out.cell 2 1 rfl rfl
                go_wp2_with fail
                refine GR.region (S := (fun w' => w'.cell? ⟨b10, 0, none⟩ = some (.int .i64 p) ∧ w'.cell? ⟨b10, 1, none⟩ = some (.int .i64 q) ∧ w'.cell? ⟨b10 + 1, 0, none⟩ = some (.int .i64 r) ∧ w'.cell? ⟨b10 + 1, 1, none⟩ = some (.int .i64 u) ∧ w'.cell? ⟨b12, 0, none⟩ = some (.int .i64 mf) ∧ w'.cell? ⟨b12, 1, none⟩ = some (.int .i64 mt))) (n := 20) (by kernel_rfl) rfl ⟨d0, d1, d2, d3, d4, d5⟩ (fun hS => ?_)
                refine GR.take (i := 0) (v := (.agg #[.int .i64 p, .int .i64 q])) rfl (by kernel_rfl) (by kernel_rfl) (by kernel_rfl) (fun _ _ _ h => h) (by first | (go_simp; done) | rfl) (by rintro w' ⟨s0, s1, s2, s3, s4, s5⟩; go_simp) hS ?_
                try simp only [Act.put, List.setIfInBounds_toArray, List.set_cons_zero, List.set_cons_succ]
                refine GR.one (i := 1) (by kernel_rfl) rfl (fun K hK => ?_)
                go_simp
                go_at_call 13
                refine (HA.out _).mono ?_
                rintro e v1 ⟨rfl, hb⟩
                replace XD := hide (XD.out.up hb)
                clear hb d0 d1 d2 d3 d4 d5
                have d0 := XD.out.cell 0 0 rfl rfl
                have d1 := XD.out.cell 0 1 rfl rfl
                have d2 := XD.out.cell 1 0 rfl rfl
                have d3 := XD.out.cell 1 1 rfl rfl
                have d4 := XD.out.cell 2 0 rfl rfl
                have d5 := XD.out.cell 2 1 rfl rfl
                clear hS
                have hS : ((fun w' => w'.cell? ⟨b10, 0, none⟩ = some (.int .i64 p) ∧ w'.cell? ⟨b10, 1, none⟩ = some (.int .i64 q) ∧ w'.cell? ⟨b10 + 1, 0, none⟩ = some (.int .i64 r) ∧ w'.cell? ⟨b10 + 1, 1, none⟩ = some (.int .i64 u) ∧ w'.cell? ⟨b12, 0, none⟩ = some (.int .i64 mf) ∧ w'.cell? ⟨b12, 1, none⟩ = some (.int .i64 mt))) v1 := ⟨d0, d1, d2, d3, d4, d5⟩
                refine hK.out _ _ hS ?_
                clear hK K
                try simp only [Act.put, List.setIfInBounds_toArray, List.set_cons_zero, List.set_cons_succ]
                refine GR.take (i := 2) (v := (.bool true)) rfl (by kernel_rfl) (by kernel_rfl) (by kernel_rfl) (fun _ _ _ h => h) (by first | (go_simp; done) | rfl) (by rintro w' ⟨s0, s1, s2, s3, s4, s5⟩; go_simp) hS ?_
                try simp only [Act.put, List.setIfInBounds_toArray, List.set_cons_zero, List.set_cons_succ]
                refine GR.take (i := 3) (v := (.agg #[.int .i64 r, .int .i64 u])) rfl (by kernel_rfl) (by kernel_rfl) (by kernel_rfl) (fun _ _ _ h => h) (by first | (go_simp; done) | rfl) (by rintro w' ⟨s0, s1, s2, s3, s4, s5⟩; go_simp) hS ?_
                try simp only [Act.put, List.setIfInBounds_toArray, List.set_cons_zero, List.set_cons_succ]
                refine GR.one (i := 4) (by kernel_rfl) rfl (fun K hK => ?_)
                go_simp
                go_at_call 13
                refine (HB.out _).mono ?_
                rintro e v2 ⟨rfl, hb⟩
                replace XD := hide (XD.out.up hb)
                clear hb d0 d1 d2 d3 d4 d5
                have d0 := XD.out.cell 0 0 rfl rfl
                have d1 := XD.out.cell 0 1 rfl rfl
                have d2 := XD.out.cell 1 0 rfl rfl
                have d3 := XD.out.cell 1 1 rfl rfl
                have d4 := XD.out.cell 2 0 rfl rfl
                have d5 := XD.out.cell 2 1 rfl rfl
                clear hS
                have hS : ((fun w' => w'.cell? ⟨b10, 0, none⟩ = some (.int .i64 p) ∧ w'.cell? ⟨b10, 1, none⟩ = some (.int .i64 q) ∧ w'.cell? ⟨b10 + 1, 0, none⟩ = some (.int .i64 r) ∧ w'.cell? ⟨b10 + 1, 1, none⟩ = some (.int .i64 u) ∧ w'.cell? ⟨b12, 0, none⟩ = some (.int .i64 mf) ∧ w'.cell? ⟨b12, 1, none⟩ = some (.int .i64 mt))) v2 := ⟨d0, d1, d2, d3, d4, d5⟩
                refine hK.out _ _ hS ?_
                clear hK K
                try simp only [Act.put, List.setIfInBounds_toArray, List.set_cons_zero, List.set_cons_succ]
                refine GR.take (i := 5) (v := (.bool true)) rfl (by kernel_rfl) (by kernel_rfl) (by kernel_rfl) (fun _ _ _ h => h) (by first | (go_simp; done) | rfl) (by rintro w' ⟨s0, s1, s2, s3, s4, s5⟩; go_simp) hS ?_
                try simp only [Act.put, List.setIfInBounds_toArray, List.set_cons_zero, List.set_cons_succ]
                refine GR.take (i := 6) (v := (.bool true)) rfl (by kernel_rfl) (by kernel_rfl) (by kernel_rfl) (fun _ _ _ h => h) (by first | (go_simp; done) | rfl) (by rintro w' ⟨s0, s1, s2, s3, s4, s5⟩; go_simp) hS ?_
                try simp only [Act.put, List.setIfInBounds_toArray, List.set_cons_zero, List.set_cons_succ]
                refine GR.take (i := 7) (v := (.agg #[.int .i64 mf, .int .i64 mt])) rfl (by kernel_rfl) (by kernel_rfl) (by kernel_rfl) (fun _ _ _ h => h) (by first | (go_simp; done) | rfl) (by rintro w' ⟨s0, s1, s2, s3, s4, s5⟩; go_simp) hS ?_
                try simp only [Act.put, List.setIfInBounds_toArray, List.set_cons_zero, List.set_cons_succ]
                refine GR.take (i := 8) (v := (.int .i64 (n - 3 + (j : Int)))) rfl (by kernel_rfl) (by kernel_rfl) (by kernel_rfl) (fun _ _ _ h => h) (by first | (go_simp; done) | rfl) (by rintro w' ⟨s0, s1, s2, s3, s4, s5⟩; go_simp) hS ?_
                try simp only [Act.put, List.setIfInBounds_toArray, List.set_cons_zero, List.set_cons_succ]
                refine GR.take (i := 10) (v := (.agg #[.int .i64 p, .int .i64 q])) rfl (by kernel_rfl) (by kernel_rfl) (by kernel_rfl) (fun _ _ _ h => h) (by first | (go_simp; done) | rfl) (by rintro w' ⟨s0, s1, s2, s3, s4, s5⟩; go_simp) hS ?_
                try simp only [Act.put, List.setIfInBounds_toArray, List.set_cons_zero, List.set_cons_succ]
                refine GR.take (i := 11) (v := (.int .i64 (n - 3 + (j : Int)))) rfl (by kernel_rfl) (by kernel_rfl) (by kernel_rfl) (fun _ _ _ h => h) (by first | (go_simp; done) | rfl) (by rintro w' ⟨s0, s1, s2, s3, s4, s5⟩; go_simp) hS ?_
                try simp only [Act.put, List.setIfInBounds_toArray, List.set_cons_zero, List.set_cons_succ]
                refine GR.one (i := 9) (by kernel_rfl) rfl (fun K hK => ?_)
                go_simp
                go_at_call 17
                refine (HIm.out _).mono ?_
                rintro e v3 ⟨rfl, hb⟩
                replace XD := hide (XD.out.up hb)
                clear hb d0 d1 d2 d3 d4 d5
                have d0 := XD.out.cell 0 0 rfl rfl
                have d1 := XD.out.cell 0 1 rfl rfl
                have d2 := XD.out.cell 1 0 rfl rfl
                have d3 := XD.out.cell 1 1 rfl rfl
                have d4 := XD.out.cell 2 0 rfl rfl
                have d5 := XD.out.cell 2 1 rfl rfl
                clear hS
                have hS : ((fun w' => w'.cell? ⟨b10, 0, none⟩ = some (.int .i64 p) ∧ w'.cell? ⟨b10, 1, none⟩ = some (.int .i64 q) ∧ w'.cell? ⟨b10 + 1, 0, none⟩ = some (.int .i64 r) ∧ w'.cell? ⟨b10 + 1, 1, none⟩ = some (.int .i64 u) ∧ w'.cell? ⟨b12, 0, none⟩ = some (.int .i64 mf) ∧ w'.cell? ⟨b12, 1, none⟩ = some (.int .i64 mt))) v3 := ⟨d0, d1, d2, d3, d4, d5⟩
                refine hK.out _ _ hS ?_
                clear hK K
                try simp only [Act.put, List.setIfInBounds_toArray, List.set_cons_zero, List.set_cons_succ]
                refine GR.one (i := 12) (by kernel_rfl) rfl (fun K hK => ?_)
                go_simp
                go_at_call 18
                refine (HIa.out _).mono ?_
                rintro e v4 ⟨rfl, hb⟩
                replace XD := hide (XD.out.up hb)
                clear hb d0 d1 d2 d3 d4 d5
                have d0 := XD.out.cell 0 0 rfl rfl
                have d1 := XD.out.cell 0 1 rfl rfl
                have d2 := XD.out.cell 1 0 rfl rfl
                have d3 := XD.out.cell 1 1 rfl rfl
                have d4 := XD.out.cell 2 0 rfl rfl
                have d5 := XD.out.cell 2 1 rfl rfl
                clear hS
                have hS : ((fun w' => w'.cell? ⟨b10, 0, none⟩ = some (.int .i64 p) ∧ w'.cell? ⟨b10, 1, none⟩ = some (.int .i64 q) ∧ w'.cell? ⟨b10 + 1, 0, none⟩ = some (.int .i64 r) ∧ w'.cell? ⟨b10 + 1, 1, none⟩ = some (.int .i64 u) ∧ w'.cell? ⟨b12, 0, none⟩ = some (.int .i64 mf) ∧ w'.cell? ⟨b12, 1, none⟩ = some (.int .i64 mt))) v4 := ⟨d0, d1, d2, d3, d4, d5⟩
                refine hK.out _ _ hS ?_
                clear hK K
                try simp only [Act.put, List.setIfInBounds_toArray, List.set_cons_zero, List.set_cons_succ]
                refine GR.take (i := 13) (v := (.bool false)) rfl (by kernel_rfl) (by kernel_rfl) (by kernel_rfl) (fun _ _ _ h => h) (by first | (go_simp; done) | rfl) (by rintro w' ⟨s0, s1, s2, s3, s4, s5⟩; go_simp) hS ?_
                try simp only [Act.put, List.setIfInBounds_toArray, List.set_cons_zero, List.set_cons_succ]
                refine GR.skip (i := 14) rfl (by kernel_rfl) (by kernel_rfl) (by kernel_rfl) (fun _ _ _ h => h) (by first | (go_simp; done) | rfl) hS ?_
                try simp only [Act.put, List.setIfInBounds_toArray, List.set_cons_zero, List.set_cons_succ]
                refine GR.skip (i := 15) rfl (by kernel_rfl) (by kernel_rfl) (by kernel_rfl) (fun _ _ _ h => h) (by first | (go_simp; done) | rfl) hS ?_
                try simp only [Act.put, List.setIfInBounds_toArray, List.set_cons_zero, List.set_cons_succ]
                refine GR.one (i := 16) (by kernel_rfl) rfl (fun K hK => ?_)
                go_simp
                refine hK.out _ _ hS ?_
                clear hK K
                try simp only [Act.put, List.setIfInBounds_toArray, List.set_cons_zero, List.set_cons_succ]
                refine GR.take (i := 17) (v := (.bool false)) rfl (by kernel_rfl) (by kernel_rfl) (by kernel_rfl) (fun _ _ _ h => h) (by first | (go_simp; done) | rfl) (by rintro w' ⟨s0, s1, s2, s3, s4, s5⟩; go_simp) hS ?_
                try simp only [Act.put, List.setIfInBounds_toArray, List.set_cons_zero, List.set_cons_succ]
                refine GR.take (i := 18) (v := (.bool false)) rfl (by kernel_rfl) (by kernel_rfl) (by kernel_rfl) (fun _ _ _ h => h) (by first | (go_simp; done) | rfl) (by rintro w' ⟨s0, s1, s2, s3, s4, s5⟩; go_simp) hS ?_
                try simp only [Act.put, List.setIfInBounds_toArray, List.set_cons_zero, List.set_cons_succ]
                refine GR.take (i := 19) (v := (.bool false)) rfl (by kernel_rfl) (by kernel_rfl) (by kernel_rfl) (fun _ _ _ h => h) (by first | (go_simp; done) | rfl) (by rintro w' ⟨s0, s1, s2, s3, s4, s5⟩; go_simp) hS ?_
                try simp only [Act.put, List.setIfInBounds_toArray, List.set_cons_zero, List.set_cons_succ]
                refine GR.done (by kernel_rfl) ?_
                go_wp2_with fail
                go_roundw
                case rel => exact ⟨j + 1, by omega, by first | go_num | (congr 1; omega), XD.out⟩
                case measure => simp [intOf]; omega
              · have HIm := hide (fun W => iInR_at (show inR mf mt (n - 3 + (j : Int)) = xb by rw [hm]; rfl) W)
                have HIa := hide (fun W => sInR_at hxa.symm W)
                have HIb := hide (fun W => sInR_at hxb.symm W)
                have hxx : (xb != xb) = false := by simp
                clear hm hxa hxb
                have XD := hide X.out.drew
                have d0 := X.out.cell 0 0 rfl rfl
                have d1 := X.out.cell 0 1 rfl rfl
                have d2 := X.out.cell 1 0 rfl rfl
                have d3 := X.out.cell 1 1 rfl rfl
                have d4 := X.out.cell 2 0 rfl rfl
                have d5 := X.out.cell 2 1 rfl rfl
                go_wp2_with fail
                refine GR.region (S := (fun w' => w'.cell? ⟨b10, 0, none⟩ = some (.int .i64 p) ∧ w'.cell? ⟨b10, 1, none⟩ = some (.int .i64 q) ∧ w'.cell? ⟨b10 + 1, 0, none⟩ = some (.int .i64 r) ∧ w'.cell? ⟨b10 + 1, 1, none⟩ = some (.int .i64 u) ∧ w'.cell? ⟨b12, 0, none⟩ = some (.int .i64 mf) ∧ w'.cell? ⟨b12, 1, none⟩ = some (.int .i64 mt))) (n := 20) (by kernel_rfl) rfl ⟨d0, d1, d2, d3, d4, d5⟩ (fun hS => ?_)
                refine GR.take (i := 0) (v := (.agg #[.int .i64 p, .int .i64 q])) rfl (by kernel_rfl) (by kernel_rfl) (by kernel_rfl) (fun _ _ _ h => h) (by first | (go_simp; done) | rfl) (by rintro w' ⟨s0, s1, s2, s3, s4, s5⟩; go_simp) hS ?_
                try simp only [Act.put, List.setIfInBounds_toArray, List.set_cons_zero, List.set_cons_succ]
                refine GR.one (i := 1) (by kernel_rfl) rfl (fun K hK => ?_)
                go_simp
                go_at_call 13
                refine (HA.out _).mono ?_
                rintro e v1 ⟨rfl, hb⟩
                replace XD := hide (XD.out.up hb)
                clear hb d0 d1 d2 d3 d4 d5
                have d0 := XD.out.cell 0 0 rfl rfl
                have d1 := XD.out.cell 0 1 rfl rfl
                have d2 := XD.out.cell 1 0 rfl rfl
                have d3 := XD.out.cell 1 1 rfl rfl
                have d4 := XD.out.cell 2 0 rfl rfl
                have d5 := XD.out.cell 2 1 rfl rfl
                clear hS
                have hS : ((fun w' => w'.cell? ⟨b10, 0, none⟩ = some (.int .i64 p) ∧ w'.cell? ⟨b10, 1, none⟩ = some (.int .i64 q) ∧ w'.cell? ⟨b10 + 1, 0, none⟩ = some (.int .i64 r) ∧ w'.cell? ⟨b10 + 1, 1, none⟩ = some (.int .i64 u) ∧ w'.cell? ⟨b12, 0, none⟩ = some (.int .i64 mf) ∧ w'.cell? ⟨b12, 1, none⟩ = some (.int .i64 mt))) v1 := ⟨d0, d1, d2, d3, d4, d5⟩
                refine hK.out _ _ hS ?_
                clear hK K
                try simp only [Act.put, List.setIfInBounds_toArray, List.set_cons_zero, List.set_cons_succ]
                refine GR.take (i := 2) (v := (.bool true)) rfl (by kernel_rfl) (by kernel_rfl) (by kernel_rfl) (fun _ _ _ h => h) (by first | (go_simp; done) | rfl) (by rintro w' ⟨s0, s1, s2, s3, s4, s5⟩; go_simp) hS ?_
                try simp only [Act.put, List.setIfInBounds_toArray, List.set_cons_zero, List.set_cons_succ]
                refine GR.take (i := 3) (v := (.agg #[.int .i64 r, .int .i64 u])) rfl (by kernel_rfl) (by kernel_rfl) (by kernel_rfl) (fun _ _ _ h => h) (by first | (go_simp; done) | rfl) (by rintro w' ⟨s0, s1, s2, s3, s4, s5⟩; go_simp) hS ?_
                try simp only [Act.put, List.setIfInBounds_toArray, List.set_cons_zero, List.set_cons_succ]
                refine GR.one (i := 4) (by kernel_rfl) rfl (fun K hK => ?_)
                go_simp
                go_at_call 13
                refine (HB.out _).mono ?_
                rintro e v2 ⟨rfl, hb⟩
                replace XD := hide (XD.out.up hb)
                clear hb d0 d1 d2 d3 d4 d5
                have d0 := XD.out.cell 0 0 rfl rfl
                have d1 := XD.out.cell 0 1 rfl rfl
                have d2 := XD.out.cell 1 0 rfl rfl
                have d3 := XD.out.cell 1 1 rfl rfl
                have d4 := XD.out.cell 2 0 rfl rfl
                have d5 := XD.out.cell 2 1 rfl rfl
                clear hS
                have hS : ((fun w' => w'.cell? ⟨b10, 0, none⟩ = some (.int .i64 p) ∧ w'.cell? ⟨b10, 1, none⟩ = some (.int .i64 q) ∧ w'.cell? ⟨b10 + 1, 0, none⟩ = some (.int .i64 r) ∧ w'.cell? ⟨b10 + 1, 1, none⟩ = some (.int .i64 u) ∧ w'.cell? ⟨b12, 0, none⟩ = some (.int .i64 mf) ∧ w'.cell? ⟨b12, 1, none⟩ = some (.int .i64 mt))) v2 := ⟨d0, d1, d2, d3, d4, d5⟩
                refine hK.out _ _ hS ?_
                clear hK K
                try simp only [Act.put, List.setIfInBounds_toArray, List.set_cons_zero, List.set_cons_succ]
                refine GR.take (i := 5) (v := (.bool true)) rfl (by kernel_rfl) (by kernel_rfl) (by kernel_rfl) (fun _ _ _ h => h) (by first | (go_simp; done) | rfl) (by rintro w' ⟨s0, s1, s2, s3, s4, s5⟩; go_simp) hS ?_
                try simp only [Act.put, List.setIfInBounds_toArray, List.set_cons_zero, List.set_cons_succ]
                refine GR.take (i := 6) (v := (.bool true)) rfl (by kernel_rfl) (by kernel_rfl) (by kernel_rfl) (fun _ _ _ h => h) (by first | (go_simp; done) | rfl) (by rintro w' ⟨s0, s1, s2, s3, s4, s5⟩; go_simp) hS ?_
                try simp only [Act.put, List.setIfInBounds_toArray, List.set_cons_zero, List.set_cons_succ]
                refine GR.take (i := 7) (v := (.agg #[.int .i64 mf, .int .i64 mt])) rfl (by kernel_rfl) (by kernel_rfl) (by kernel_rfl) (fun _ _ _ h => h) (by first | (go_simp; done) | rfl) (by rintro w' ⟨s0, s1, s2, s3, s4, s5⟩; go_simp) hS ?_
                try simp only [Act.put, List.setIfInBounds_toArray, List.set_cons_zero, List.set_cons_succ]
                refine GR.take (i := 8) (v := (.int .i64 (n - 3 + (j : Int)))) rfl (by kernel_rfl) (by kernel_rfl) (by kernel_rfl) (fun _ _ _ h => h) (by first | (go_simp; done) | rfl) (by rintro w' ⟨s0, s1, s2, s3, s4, s5⟩; go_simp) hS ?_
                try simp only [Act.put, List.setIfInBounds_toArray, List.set_cons_zero, List.set_cons_succ]
                refine GR.take (i := 10) (v := (.agg #[.int .i64 p, .int .i64 q])) rfl (by kernel_rfl) (by kernel_rfl) (by kernel_rfl) (fun _ _ _ h => h) (by first | (go_simp; done) | rfl) (by rintro w' ⟨s0, s1, s2, s3, s4, s5⟩; go_simp) hS ?_
                try simp only [Act.put, List.setIfInBounds_toArray, List.set_cons_zero, List.set_cons_succ]
                refine GR.take (i := 11) (v := (.int .i64 (n - 3 + (j : Int)))) rfl (by kernel_rfl) (by kernel_rfl) (by kernel_rfl) (fun _ _ _ h => h) (by first | (go_simp; done) | rfl) (by rintro w' ⟨s0, s1, s2, s3, s4, s5⟩; go_simp) hS ?_
                try simp only [Act.put, List.setIfInBounds_toArray, List.set_cons_zero, List.set_cons_succ]
                refine GR.one (i := 9) (by kernel_rfl) rfl (fun K hK => ?_)
                go_simp
                go_at_call 17
                refine (HIm.out _).mono ?_
                rintro e v3 ⟨rfl, hb⟩
                replace XD := hide (XD.out.up hb)
                clear hb d0 d1 d2 d3 d4 d5
                have d0 := XD.out.cell 0 0 rfl rfl
                have d1 := XD.out.cell 0 1 rfl rfl
                have d2 := XD.out.cell 1 0 rfl rfl
                have d3 := XD.out.cell 1 1 rfl rfl
                have d4 := XD.out.cell 2 0 rfl rfl
                have d5 := XD.out.cell 2 1 rfl rfl
                clear hS
                have hS : ((fun w' => w'.cell? ⟨b10, 0, none⟩ = some (.int .i64 p) ∧ w'.cell? ⟨b10, 1, none⟩ = some (.int .i64 q) ∧ w'.cell? ⟨b10 + 1, 0, none⟩ = some (.int .i64 r) ∧ w'.cell? ⟨b10 + 1, 1, none⟩ = some (.int .i64 u) ∧ w'.cell? ⟨b12, 0, none⟩ = some (.int .i64 mf) ∧ w'.cell? ⟨b12, 1, none⟩ = some (.int .i64 mt))) v3 := ⟨d0, d1, d2, d3, d4, d5⟩
                refine hK.out _ _ hS ?_
                clear hK K
                try simp only [Act.put, List.setIfInBounds_toArray, List.set_cons_zero, List.set_cons_succ]
                refine GR.one (i := 12) (by kernel_rfl) rfl (fun K hK => ?_)
                go_simp
                go_at_call 18
                refine (HIa.out _).mono ?_
                rintro e v4 ⟨rfl, hb⟩
                replace XD := hide (XD.out.up hb)
                clear hb d0 d1 d2 d3 d4 d5
                have d0 := XD.out.cell 0 0 rfl rfl
                have d1 := XD.out.cell 0 1 rfl rfl
                have d2 := XD.out.cell 1 0 rfl rfl
                have d3 := XD.out.cell 1 1 rfl rfl
                have d4 := XD.out.cell 2 0 rfl rfl
                have d5 := XD.out.cell 2 1 rfl rfl
                clear hS
                have hS : ((fun w' => w'.cell? ⟨b10, 0, none⟩ = some (.int .i64 p) ∧ w'.cell? ⟨b10, 1, none⟩ = some (.int .i64 q) ∧ w'.cell? ⟨b10 + 1, 0, none⟩ = some (.int .i64 r) ∧ w'.cell? ⟨b10 + 1, 1, none⟩ = some (.int .i64 u) ∧ w'.cell? ⟨b12, 0, none⟩ = some (.int .i64 mf) ∧ w'.cell? ⟨b12, 1, none⟩ = some (.int .i64 mt))) v4 := ⟨d0, d1, d2, d3, d4, d5⟩
                refine hK.out _ _ hS ?_
                clear hK K
                try simp only [Act.put, List.setIfInBounds_toArray, List.set_cons_zero, List.set_cons_succ]
                refine GR.take (i := 13) (v := (.bool true)) rfl (by kernel_rfl) (by kernel_rfl) (by kernel_rfl) (fun _ _ _ h => h) (by first | (go_simp; done) | rfl) (by rintro w' ⟨s0, s1, s2, s3, s4, s5⟩; go_simp) hS ?_
                try simp only [Act.put, List.setIfInBounds_toArray, List.set_cons_zero, List.set_cons_succ]
                refine GR.take (i := 14) (v := (.agg #[.int .i64 r, .int .i64 u])) rfl (by kernel_rfl) (by kernel_rfl) (by kernel_rfl) (fun _ _ _ h => h) (by first | (go_simp; done) | rfl) (by rintro w' ⟨s0, s1, s2, s3, s4, s5⟩; go_simp) hS ?_
                try simp only [Act.put, List.setIfInBounds_toArray, List.set_cons_zero, List.set_cons_succ]
                refine GR.take (i := 15) (v := (.int .i64 (n - 3 + (j : Int)))) rfl (by kernel_rfl) (by kernel_rfl) (by kernel_rfl) (fun _ _ _ h => h) (by first | (go_simp; done) | rfl) (by rintro w' ⟨s0, s1, s2, s3, s4, s5⟩; go_simp) hS ?_
                try simp only [Act.put, List.setIfInBounds_toArray, List.set_cons_zero, List.set_cons_succ]
                refine GR.one (i := 16) (by kernel_rfl) rfl (fun K hK => ?_)
                go_simp
                go_at_call 18
                refine (HIb.out _).mono ?_
                rintro e v5 ⟨rfl, hb⟩
                replace XD := hide (XD.out.up hb)
                clear hb d0 d1 d2 d3 d4 d5
                have d0 := XD.out.cell 0 0 rfl rfl
                have d1 := XD.out.cell 0 1 rfl rfl
                have d2 := XD.out.cell 1 0 rfl rfl
                have d3 := XD.out.cell 1 1 rfl rfl
                have d4 := XD.out.cell 2 0 rfl rfl
                have d5 := XD.out.cell 2 1 rfl rfl
                clear hS
                have hS : ((fun w' => w'.cell? ⟨b10, 0, none⟩ = some (.int .i64 p) ∧ w'.cell? ⟨b10, 1, none⟩ = some (.int .i64 q) ∧ w'.cell? ⟨b10 + 1, 0, none⟩ = some (.int .i64 r) ∧ w'.cell? ⟨b10 + 1, 1, none⟩ = some (.int .i64 u) ∧ w'.cell? ⟨b12, 0, none⟩ = some (.int .i64 mf) ∧ w'.cell? ⟨b12, 1, none⟩ = some (.int .i64 mt))) v5 := ⟨d0, d1, d2, d3, d4, d5⟩
                refine hK.out _ _ hS ?_
                clear hK K
                try simp only [Act.put, List.setIfInBounds_toArray, List.set_cons_zero, List.set_cons_succ]
                refine GR.take (i := 17) (v := (.bool xb)) rfl (by kernel_rfl) (by kernel_rfl) (by kernel_rfl) (fun _ _ _ h => h) (by first | (go_simp; done) | rfl) (by rintro w' ⟨s0, s1, s2, s3, s4, s5⟩; go_simp) hS ?_
                try simp only [Act.put, List.setIfInBounds_toArray, List.set_cons_zero, List.set_cons_succ]
                refine GR.take (i := 18) (v := (.bool false)) rfl (by kernel_rfl) (by kernel_rfl) (by kernel_rfl) (fun _ _ _ h => h) (by first | (go_simp; done) | rfl) (by rintro w' ⟨s0, s1, s2, s3, s4, s5⟩; go_simp) hS ?_
                try simp only [Act.put, List.setIfInBounds_toArray, List.set_cons_zero, List.set_cons_succ]
                refine GR.take (i := 19) (v := (.bool false)) rfl (by kernel_rfl) (by kernel_rfl) (by kernel_rfl) (fun _ _ _ h => h) (by first | (go_simp; done) | rfl) (by rintro w' ⟨s0, s1, s2, s3, s4, s5⟩; go_simp) hS ?_
                try simp only [Act.put, List.setIfInBounds_toArray, List.set_cons_zero, List.set_cons_succ]
                refine GR.done (by kernel_rfl) ?_
                go_wp2_with fail
                go_roundw
                case rel => exact ⟨j + 1, by omega, by first | go_num | (congr 1; omega), XD.out⟩
                case measure => simp [intOf]; omega
        · have hj8 : j = 7 := by omega
          subst hj8
          go_wp2_with fail
          refine (drCol_any a len cap _ (H.out.below X.out.below (Nat.le_refl _)) hbig).mono ?_
          rintro e w18 ⟨a16, c16, cs, nm, rfl, hT, hS, hl3', hnm, hb⟩
          have T16 := hide hT
          have hok := colOf_ok nm (cs := cs) (K := 41) (fun c hc => ⟨(hS c hc).2.1, fun x hx => by have := (hS c hc).2.2 x hx; exact ⟨by omega, by omega⟩⟩)
          have X := hide (X.out.up hb)
          clear hT hS hb
          have hb1 := below1 w18 (.cells #[.slice a16 cs.length c16] 26)
          replace X := hide (show Kn w _ [(b10, #[.int .i64 p, .int .i64 q], 32), (b10 + 1, #[.int .i64 r, .int .i64 u], 32), (b12, #[.int .i64 mf, .int .i64 mt], 32), (b13, #[.int .i64 f', .int .i64 t'], 32), (w18.heap.size, #[.slice a16 cs.length c16], 26)] from X.out.alloc #[.slice a16 cs.length c16] 26)
          replace T16 := hide (T16.out.up hb1)
          clear hb1
          obtain ⟨b16, hb16⟩ : ∃ Z, Z = w18.heap.size := ⟨_, rfl⟩
          obtain ⟨w19, hww19⟩ : ∃ Z, Z = w18.alloc (.cells #[.slice a16 cs.length c16] 26) := ⟨_, rfl⟩
          rw [← hb16] at X
          rw [← hww19] at X
          rw [← hww19] at T16
          go_wp2_with fail
          rw [← hb16]
          rw [← hww19]
          clear hb16 hww19
          have d16 := X.out.cell 4 0 rfl rfl
          obtain ⟨⟨ls, fo⟩, hp⟩ : ∃ Z, Z = colOf cs nm := ⟨_, rfl⟩
          obtain ⟨rc, hrc⟩ : ∃ Z, Z = rowsC cs := ⟨_, rfl⟩
          obtain ⟨fc, hfc⟩ : ∃ Z, Z = findC cs nm := ⟨_, rfl⟩
          obtain ⟨xi, hxi⟩ : ∃ Z, Z = inR f' t' n := ⟨_, rfl⟩
          rw [← hp] at hok
          obtain ⟨hok1, hok2⟩ := hok
          simp only at hok1 hok2
          have HW := hide hok2
          have HCI := hide (show ∀ W, Rt W (.slice a16 cs.length c16) cs → Calls Tryz.prog 20 #[.agg #[.slice a16 cs.length c16], .string nm] W (RetCo W (ls, fo)) from fun W h => by rw [hp]; exact iColOf_rt _ cs nm W h (by omega))
          have HCS := hide (show ∀ W, Rt W (.slice a16 cs.length c16) cs → Calls Tryz.prog 21 #[.agg #[.slice a16 cs.length c16], .string nm] W (RetCo W (ls, fo)) from fun W h => by rw [hp]; exact sColOf_rt _ cs nm W h (by omega))
          have HRI := hide (show ∀ W, Rt W (.slice a16 cs.length c16) cs → Calls Tryz.prog 24 #[.agg #[.slice a16 cs.length c16]] W (RetI1 W rc) from fun W h => by rw [hrc]; exact iRows_any _ cs W _ h.tbl (Nat.le_refl _))
          have HRS := hide (show ∀ W, Rt W (.slice a16 cs.length c16) cs → Calls Tryz.prog 25 #[.agg #[.slice a16 cs.length c16]] W (RetI1 W rc) from fun W h => by rw [hrc]; exact sRows_any _ cs W _ h.tbl (Nat.le_refl _))
          have HFI := hide (show ∀ W, Rt W (.slice a16 cs.length c16) cs → Calls Tryz.prog 26 #[.agg #[.slice a16 cs.length c16], .string nm] W (RetI1 W fc) from fun W h => by rw [hfc]; exact iFind_any _ cs nm W _ h.tbl (Nat.le_refl _) (by omega))
          have HFS := hide (show ∀ W, Rt W (.slice a16 cs.length c16) cs → Calls Tryz.prog 27 #[.agg #[.slice a16 cs.length c16], .string nm] W (RetI1 W fc) from fun W h => by rw [hfc]; exact sFind_any _ cs nm W _ h.tbl (Nat.le_refl _) (by omega))
          have HXI := hide (fun W => iInR_at hxi.symm W)
          have HXS := hide (fun W => sInR_at hxi.symm W)
          clear hp hrc hfc hxi hok2
          go_wp2_with fail
          refine (HCI.out _ T16.out).mono ?_
          rintro e w20 ⟨v18, rfl, O18, hb⟩
          have I18 := hide (show Ints w20 w20.heap.size v18 ls from O18.ints (Nat.le_refl _) (by show ls.length ≤ _; omega) HW.out)
          obtain ⟨a18, k18, hv18, -⟩ := I18.out
          subst hv18
          have X := hide (X.out.up hb)
          have T16 := hide (T16.out.up hb)
          have d16 := X.out.cell 4 0 rfl rfl
          clear hb O18
          go_wp2_with fail
          refine (HCS.out _ T16.out).mono ?_
          rintro e w21 ⟨v20, rfl, O20, hb⟩
          have I20 := hide (show Ints w21 w21.heap.size v20 ls from O20.ints (Nat.le_refl _) (by show ls.length ≤ _; omega) HW.out)
          obtain ⟨a20, k20, hv20, -⟩ := I20.out
          subst hv20
          have I18 := hide (I18.out.up hb)
          have X := hide (X.out.up hb)
          have T16 := hide (T16.out.up hb)
          clear hb O20
          have m1 : (mf == mf) = true := by simp
          have m2 : (mt == mt) = true := by simp
          have m3 : (xi == xi) = true := by simp
          have m4 : (fo == fo) = true := by simp
          have m5 : (rc == rc) = true := by simp
          have m6 : (fc == fc) = true := by simp
          go_wp2_with fail
          have XD := hide X.out.drew
          have TD := hide (T16.out.up (Below.refl _ _).drew)
          have J18 := hide (I18.out.up (Below.refl _ _).drew)
          have J20 := hide (I20.out.up (Below.refl _ _).drew)
          clear d16
          have d0 := X.out.cell 0 0 rfl rfl
          have d1 := X.out.cell 0 1 rfl rfl
          have d2 := X.out.cell 1 0 rfl rfl
          have d3 := X.out.cell 1 1 rfl rfl
          have d4 := X.out.cell 2 0 rfl rfl
          have d5 := X.out.cell 2 1 rfl rfl
          have d6 := X.out.cell 3 0 rfl rfl
          have d7 := X.out.cell 3 1 rfl rfl
          have d8 := X.out.cell 4 0 rfl rfl
          refine GR.region (S := (fun w' => w'.cell? ⟨b10, 0, none⟩ = some (.int .i64 p) ∧ w'.cell? ⟨b10, 1, none⟩ = some (.int .i64 q) ∧ w'.cell? ⟨b10 + 1, 0, none⟩ = some (.int .i64 r) ∧ w'.cell? ⟨b10 + 1, 1, none⟩ = some (.int .i64 u) ∧ w'.cell? ⟨b12, 0, none⟩ = some (.int .i64 mf) ∧ w'.cell? ⟨b12, 1, none⟩ = some (.int .i64 mt) ∧ w'.cell? ⟨b13, 0, none⟩ = some (.int .i64 f') ∧ w'.cell? ⟨b13, 1, none⟩ = some (.int .i64 t') ∧ w'.cell? ⟨b16, 0, none⟩ = some (.slice a16 cs.length c16))) (n := 41) (by kernel_rfl) rfl ⟨d0, d1, d2, d3, d4, d5, d6, d7, d8⟩ (fun hS => ?_)
          refine GR.take (i := 0) (v := (.agg #[.int .i64 mf, .int .i64 mt])) rfl (by kernel_rfl) (by kernel_rfl) (by kernel_rfl) (fun _ _ _ h => h) (by first | (go_simp; done) | rfl) (by rintro w' ⟨s0, s1, s2, s3, s4, s5, s6, s7, s8⟩; go_simp) hS ?_
          try simp only [Act.put, List.setIfInBounds_toArray, List.set_cons_zero, List.set_cons_succ]
          refine GR.take (i := 1) (v := (.agg #[.int .i64 p, .int .i64 q])) rfl (by kernel_rfl) (by kernel_rfl) (by kernel_rfl) (fun _ _ _ h => h) (by first | (go_simp; done) | rfl) (by rintro w' ⟨s0, s1, s2, s3, s4, s5, s6, s7, s8⟩; go_simp) hS ?_
          try simp only [Act.put, List.setIfInBounds_toArray, List.set_cons_zero, List.set_cons_succ]
          refine GR.take (i := 2) (v := (.agg #[.int .i64 r, .int .i64 u])) rfl (by kernel_rfl) (by kernel_rfl) (by kernel_rfl) (fun _ _ _ h => h) (by first | (go_simp; done) | rfl) (by rintro w' ⟨s0, s1, s2, s3, s4, s5, s6, s7, s8⟩; go_simp) hS ?_
          try simp only [Act.put, List.setIfInBounds_toArray, List.set_cons_zero, List.set_cons_succ]
          refine GR.one (i := 3) (by kernel_rfl) rfl (fun K hK => ?_)
          go_simp
          go_at_call 22
          refine (HMS.out _).mono ?_
          rintro e x1 ⟨rfl, hb⟩
          replace XD := hide (XD.out.up hb)
          replace TD := hide (TD.out.up hb)
          replace J18 := hide (J18.out.up hb)
          replace J20 := hide (J20.out.up hb)
          clear hb d0 d1 d2 d3 d4 d5 d6 d7 d8
          have d0 := XD.out.cell 0 0 rfl rfl
          have d1 := XD.out.cell 0 1 rfl rfl
          have d2 := XD.out.cell 1 0 rfl rfl
          have d3 := XD.out.cell 1 1 rfl rfl
          have d4 := XD.out.cell 2 0 rfl rfl
          have d5 := XD.out.cell 2 1 rfl rfl
          have d6 := XD.out.cell 3 0 rfl rfl
          have d7 := XD.out.cell 3 1 rfl rfl
          have d8 := XD.out.cell 4 0 rfl rfl
          clear hS
          have hS : ((fun w' => w'.cell? ⟨b10, 0, none⟩ = some (.int .i64 p) ∧ w'.cell? ⟨b10, 1, none⟩ = some (.int .i64 q) ∧ w'.cell? ⟨b10 + 1, 0, none⟩ = some (.int .i64 r) ∧ w'.cell? ⟨b10 + 1, 1, none⟩ = some (.int .i64 u) ∧ w'.cell? ⟨b12, 0, none⟩ = some (.int .i64 mf) ∧ w'.cell? ⟨b12, 1, none⟩ = some (.int .i64 mt) ∧ w'.cell? ⟨b13, 0, none⟩ = some (.int .i64 f') ∧ w'.cell? ⟨b13, 1, none⟩ = some (.int .i64 t') ∧ w'.cell? ⟨b16, 0, none⟩ = some (.slice a16 cs.length c16))) x1 := ⟨d0, d1, d2, d3, d4, d5, d6, d7, d8⟩
          refine hK.out _ _ hS ?_
          clear hK K
          try simp only [Act.put, List.setIfInBounds_toArray, List.set_cons_zero, List.set_cons_succ]
          refine GR.take (i := 4) (v := (.bool true)) rfl (by kernel_rfl) (by kernel_rfl) (by kernel_rfl) (fun _ _ _ h => h) (by first | (go_simp; done) | rfl) (by rintro w' ⟨s0, s1, s2, s3, s4, s5, s6, s7, s8⟩; go_simp) hS ?_
          try simp only [Act.put, List.setIfInBounds_toArray, List.set_cons_zero, List.set_cons_succ]
          refine GR.take (i := 5) (v := (.bool true)) rfl (by kernel_rfl) (by kernel_rfl) (by kernel_rfl) (fun _ _ _ h => h) (by first | (go_simp; done) | rfl) (by rintro w' ⟨s0, s1, s2, s3, s4, s5, s6, s7, s8⟩; go_simp) hS ?_
          try simp only [Act.put, List.setIfInBounds_toArray, List.set_cons_zero, List.set_cons_succ]
          refine GR.take (i := 6) (v := (.agg #[.int .i64 f', .int .i64 t'])) rfl (by kernel_rfl) (by kernel_rfl) (by kernel_rfl) (fun _ _ _ h => h) (by first | (go_simp; done) | rfl) (by rintro w' ⟨s0, s1, s2, s3, s4, s5, s6, s7, s8⟩; go_simp) hS ?_
          try simp only [Act.put, List.setIfInBounds_toArray, List.set_cons_zero, List.set_cons_succ]
          refine GR.take (i := 7) (v := (.int .i64 n)) rfl (by kernel_rfl) (by kernel_rfl) (by kernel_rfl) (fun _ _ _ h => h) (by first | (go_simp; done) | rfl) (by rintro w' ⟨s0, s1, s2, s3, s4, s5, s6, s7, s8⟩; go_simp) hS ?_
          try simp only [Act.put, List.setIfInBounds_toArray, List.set_cons_zero, List.set_cons_succ]
          refine GR.take (i := 9) (v := (.agg #[.int .i64 f', .int .i64 t'])) rfl (by kernel_rfl) (by kernel_rfl) (by kernel_rfl) (fun _ _ _ h => h) (by first | (go_simp; done) | rfl) (by rintro w' ⟨s0, s1, s2, s3, s4, s5, s6, s7, s8⟩; go_simp) hS ?_
          try simp only [Act.put, List.setIfInBounds_toArray, List.set_cons_zero, List.set_cons_succ]
          refine GR.take (i := 10) (v := (.int .i64 n)) rfl (by kernel_rfl) (by kernel_rfl) (by kernel_rfl) (fun _ _ _ h => h) (by first | (go_simp; done) | rfl) (by rintro w' ⟨s0, s1, s2, s3, s4, s5, s6, s7, s8⟩; go_simp) hS ?_
          try simp only [Act.put, List.setIfInBounds_toArray, List.set_cons_zero, List.set_cons_succ]
          refine GR.one (i := 8) (by kernel_rfl) rfl (fun K hK => ?_)
          go_simp
          go_at_call 17
          refine (HXI.out _).mono ?_
          rintro e x2 ⟨rfl, hb⟩
          replace XD := hide (XD.out.up hb)
          replace TD := hide (TD.out.up hb)
          replace J18 := hide (J18.out.up hb)
          replace J20 := hide (J20.out.up hb)
          clear hb d0 d1 d2 d3 d4 d5 d6 d7 d8
          have d0 := XD.out.cell 0 0 rfl rfl
          have d1 := XD.out.cell 0 1 rfl rfl
          have d2 := XD.out.cell 1 0 rfl rfl
          have d3 := XD.out.cell 1 1 rfl rfl
          have d4 := XD.out.cell 2 0 rfl rfl
          have d5 := XD.out.cell 2 1 rfl rfl
          have d6 := XD.out.cell 3 0 rfl rfl
          have d7 := XD.out.cell 3 1 rfl rfl
          have d8 := XD.out.cell 4 0 rfl rfl
          clear hS
          have hS : ((fun w' => w'.cell? ⟨b10, 0, none⟩ = some (.int .i64 p) ∧ w'.cell? ⟨b10, 1, none⟩ = some (.int .i64 q) ∧ w'.cell? ⟨b10 + 1, 0, none⟩ = some (.int .i64 r) ∧ w'.cell? ⟨b10 + 1, 1, none⟩ = some (.int .i64 u) ∧ w'.cell? ⟨b12, 0, none⟩ = some (.int .i64 mf) ∧ w'.cell? ⟨b12, 1, none⟩ = some (.int .i64 mt) ∧ w'.cell? ⟨b13, 0, none⟩ = some (.int .i64 f') ∧ w'.cell? ⟨b13, 1, none⟩ = some (.int .i64 t') ∧ w'.cell? ⟨b16, 0, none⟩ = some (.slice a16 cs.length c16))) x2 := ⟨d0, d1, d2, d3, d4, d5, d6, d7, d8⟩
          refine hK.out _ _ hS ?_
          clear hK K
          try simp only [Act.put, List.setIfInBounds_toArray, List.set_cons_zero, List.set_cons_succ]
          refine GR.one (i := 11) (by kernel_rfl) rfl (fun K hK => ?_)
          go_simp
          go_at_call 18
          refine (HXS.out _).mono ?_
          rintro e x3 ⟨rfl, hb⟩
          replace XD := hide (XD.out.up hb)
          replace TD := hide (TD.out.up hb)
          replace J18 := hide (J18.out.up hb)
          replace J20 := hide (J20.out.up hb)
          clear hb d0 d1 d2 d3 d4 d5 d6 d7 d8
          have d0 := XD.out.cell 0 0 rfl rfl
          have d1 := XD.out.cell 0 1 rfl rfl
          have d2 := XD.out.cell 1 0 rfl rfl
          have d3 := XD.out.cell 1 1 rfl rfl
          have d4 := XD.out.cell 2 0 rfl rfl
          have d5 := XD.out.cell 2 1 rfl rfl
          have d6 := XD.out.cell 3 0 rfl rfl
          have d7 := XD.out.cell 3 1 rfl rfl
          have d8 := XD.out.cell 4 0 rfl rfl
          clear hS
          have hS : ((fun w' => w'.cell? ⟨b10, 0, none⟩ = some (.int .i64 p) ∧ w'.cell? ⟨b10, 1, none⟩ = some (.int .i64 q) ∧ w'.cell? ⟨b10 + 1, 0, none⟩ = some (.int .i64 r) ∧ w'.cell? ⟨b10 + 1, 1, none⟩ = some (.int .i64 u) ∧ w'.cell? ⟨b12, 0, none⟩ = some (.int .i64 mf) ∧ w'.cell? ⟨b12, 1, none⟩ = some (.int .i64 mt) ∧ w'.cell? ⟨b13, 0, none⟩ = some (.int .i64 f') ∧ w'.cell? ⟨b13, 1, none⟩ = some (.int .i64 t') ∧ w'.cell? ⟨b16, 0, none⟩ = some (.slice a16 cs.length c16))) x3 := ⟨d0, d1, d2, d3, d4, d5, d6, d7, d8⟩
          refine hK.out _ _ hS ?_
          clear hK K
          try simp only [Act.put, List.setIfInBounds_toArray, List.set_cons_zero, List.set_cons_succ]
          refine GR.take (i := 12) (v := (.bool true)) rfl (by kernel_rfl) (by kernel_rfl) (by kernel_rfl) (fun _ _ _ h => h) (by first | (go_simp; done) | rfl) (by rintro w' ⟨s0, s1, s2, s3, s4, s5, s6, s7, s8⟩; go_simp) hS ?_
          try simp only [Act.put, List.setIfInBounds_toArray, List.set_cons_zero, List.set_cons_succ]
          refine GR.take (i := 13) (v := (.bool true)) rfl (by kernel_rfl) (by kernel_rfl) (by kernel_rfl) (fun _ _ _ h => h) (by first | (go_simp; done) | rfl) (by rintro w' ⟨s0, s1, s2, s3, s4, s5, s6, s7, s8⟩; go_simp) hS ?_
          try simp only [Act.put, List.setIfInBounds_toArray, List.set_cons_zero, List.set_cons_succ]
          refine GR.take (i := 14) (v := (.bool true)) rfl (by kernel_rfl) (by kernel_rfl) (by kernel_rfl) (fun _ _ _ h => h) (by first | (go_simp; done) | rfl) (by rintro w' ⟨s0, s1, s2, s3, s4, s5, s6, s7, s8⟩; go_simp) hS ?_
          try simp only [Act.put, List.setIfInBounds_toArray, List.set_cons_zero, List.set_cons_succ]
          refine GR.take (i := 15) (v := (.bool fo)) rfl (by kernel_rfl) (by kernel_rfl) (by kernel_rfl) (fun _ _ _ h => h) (by first | (go_simp; done) | rfl) (by rintro w' ⟨s0, s1, s2, s3, s4, s5, s6, s7, s8⟩; go_simp) hS ?_
          try simp only [Act.put, List.setIfInBounds_toArray, List.set_cons_zero, List.set_cons_succ]
          refine GR.take (i := 16) (v := (.bool fo)) rfl (by kernel_rfl) (by kernel_rfl) (by kernel_rfl) (fun _ _ _ h => h) (by first | (go_simp; done) | rfl) (by rintro w' ⟨s0, s1, s2, s3, s4, s5, s6, s7, s8⟩; go_simp) hS ?_
          try simp only [Act.put, List.setIfInBounds_toArray, List.set_cons_zero, List.set_cons_succ]
          refine GR.take (i := 17) (v := (.bool true)) rfl (by kernel_rfl) (by kernel_rfl) (by kernel_rfl) (fun _ _ _ h => h) (by first | (go_simp; done) | rfl) (by rintro w' ⟨s0, s1, s2, s3, s4, s5, s6, s7, s8⟩; go_simp) hS ?_
          try simp only [Act.put, List.setIfInBounds_toArray, List.set_cons_zero, List.set_cons_succ]
          refine GR.take (i := 18) (v := (.bool true)) rfl (by kernel_rfl) (by kernel_rfl) (by kernel_rfl) (fun _ _ _ h => h) (by first | (go_simp; done) | rfl) (by rintro w' ⟨s0, s1, s2, s3, s4, s5, s6, s7, s8⟩; go_simp) hS ?_
          try simp only [Act.put, List.setIfInBounds_toArray, List.set_cons_zero, List.set_cons_succ]
          refine GR.take (i := 19) (v := (.bool true)) rfl (by kernel_rfl) (by kernel_rfl) (by kernel_rfl) (fun _ _ _ h => h) (by first | (go_simp; done) | rfl) (by rintro w' ⟨s0, s1, s2, s3, s4, s5, s6, s7, s8⟩; go_simp) hS ?_
          try simp only [Act.put, List.setIfInBounds_toArray, List.set_cons_zero, List.set_cons_succ]
          refine GR.take (i := 20) (v := (.slice a18 ls.length k18)) rfl (by kernel_rfl) (by kernel_rfl) (by kernel_rfl) (fun _ _ _ h => h) (by first | (go_simp; done) | rfl) (by rintro w' ⟨s0, s1, s2, s3, s4, s5, s6, s7, s8⟩; go_simp) hS ?_
          try simp only [Act.put, List.setIfInBounds_toArray, List.set_cons_zero, List.set_cons_succ]
          refine GR.take (i := 21) (v := (.slice a20 ls.length k20)) rfl (by kernel_rfl) (by kernel_rfl) (by kernel_rfl) (fun _ _ _ h => h) (by first | (go_simp; done) | rfl) (by rintro w' ⟨s0, s1, s2, s3, s4, s5, s6, s7, s8⟩; go_simp) hS ?_
          try simp only [Act.put, List.setIfInBounds_toArray, List.set_cons_zero, List.set_cons_succ]
          refine GR.one (i := 22) (by kernel_rfl) rfl (fun K hK => ?_)
          go_simp
          go_at_call 23
          refine (sameInts_same _ _ ls _ _ J18.out J20.out).mono ?_
          rintro e x4 ⟨rfl, hb⟩
          replace XD := hide (XD.out.up hb)
          replace TD := hide (TD.out.up hb)
          replace J18 := hide (J18.out.up hb)
          replace J20 := hide (J20.out.up hb)
          clear hb d0 d1 d2 d3 d4 d5 d6 d7 d8
          have d0 := XD.out.cell 0 0 rfl rfl
          have d1 := XD.out.cell 0 1 rfl rfl
          have d2 := XD.out.cell 1 0 rfl rfl
          have d3 := XD.out.cell 1 1 rfl rfl
          have d4 := XD.out.cell 2 0 rfl rfl
          have d5 := XD.out.cell 2 1 rfl rfl
          have d6 := XD.out.cell 3 0 rfl rfl
          have d7 := XD.out.cell 3 1 rfl rfl
          have d8 := XD.out.cell 4 0 rfl rfl
          clear hS
          have hS : ((fun w' => w'.cell? ⟨b10, 0, none⟩ = some (.int .i64 p) ∧ w'.cell? ⟨b10, 1, none⟩ = some (.int .i64 q) ∧ w'.cell? ⟨b10 + 1, 0, none⟩ = some (.int .i64 r) ∧ w'.cell? ⟨b10 + 1, 1, none⟩ = some (.int .i64 u) ∧ w'.cell? ⟨b12, 0, none⟩ = some (.int .i64 mf) ∧ w'.cell? ⟨b12, 1, none⟩ = some (.int .i64 mt) ∧ w'.cell? ⟨b13, 0, none⟩ = some (.int .i64 f') ∧ w'.cell? ⟨b13, 1, none⟩ = some (.int .i64 t') ∧ w'.cell? ⟨b16, 0, none⟩ = some (.slice a16 cs.length c16))) x4 := ⟨d0, d1, d2, d3, d4, d5, d6, d7, d8⟩
          refine hK.out _ _ hS ?_
          clear hK K
          try simp only [Act.put, List.setIfInBounds_toArray, List.set_cons_zero, List.set_cons_succ]
          refine GR.take (i := 23) (v := (.bool true)) rfl (by kernel_rfl) (by kernel_rfl) (by kernel_rfl) (fun _ _ _ h => h) (by first | (go_simp; done) | rfl) (by rintro w' ⟨s0, s1, s2, s3, s4, s5, s6, s7, s8⟩; go_simp) hS ?_
          try simp only [Act.put, List.setIfInBounds_toArray, List.set_cons_zero, List.set_cons_succ]
          refine GR.take (i := 24) (v := (.bool true)) rfl (by kernel_rfl) (by kernel_rfl) (by kernel_rfl) (fun _ _ _ h => h) (by first | (go_simp; done) | rfl) (by rintro w' ⟨s0, s1, s2, s3, s4, s5, s6, s7, s8⟩; go_simp) hS ?_
          try simp only [Act.put, List.setIfInBounds_toArray, List.set_cons_zero, List.set_cons_succ]
          refine GR.take (i := 25) (v := (.agg #[.slice a16 cs.length c16])) rfl (by kernel_rfl) (by kernel_rfl) (by kernel_rfl) (fun _ _ _ h => h) (by first | (go_simp; done) | rfl) (by rintro w' ⟨s0, s1, s2, s3, s4, s5, s6, s7, s8⟩; go_simp) hS ?_
          try simp only [Act.put, List.setIfInBounds_toArray, List.set_cons_zero, List.set_cons_succ]
          refine GR.take (i := 27) (v := (.agg #[.slice a16 cs.length c16])) rfl (by kernel_rfl) (by kernel_rfl) (by kernel_rfl) (fun _ _ _ h => h) (by first | (go_simp; done) | rfl) (by rintro w' ⟨s0, s1, s2, s3, s4, s5, s6, s7, s8⟩; go_simp) hS ?_
          try simp only [Act.put, List.setIfInBounds_toArray, List.set_cons_zero, List.set_cons_succ]
          refine GR.one (i := 26) (by kernel_rfl) rfl (fun K hK => ?_)
          go_simp
          go_at_call 24
          refine (HRI.out _ TD.out).mono ?_
          rintro e x5 ⟨rfl, hb⟩
          replace XD := hide (XD.out.up hb)
          replace TD := hide (TD.out.up hb)
          replace J18 := hide (J18.out.up hb)
          replace J20 := hide (J20.out.up hb)
          clear hb d0 d1 d2 d3 d4 d5 d6 d7 d8
          have d0 := XD.out.cell 0 0 rfl rfl
          have d1 := XD.out.cell 0 1 rfl rfl
          have d2 := XD.out.cell 1 0 rfl rfl
          have d3 := XD.out.cell 1 1 rfl rfl
          have d4 := XD.out.cell 2 0 rfl rfl
          have d5 := XD.out.cell 2 1 rfl rfl
          have d6 := XD.out.cell 3 0 rfl rfl
          have d7 := XD.out.cell 3 1 rfl rfl
          have d8 := XD.out.cell 4 0 rfl rfl
          clear hS
          have hS : ((fun w' => w'.cell? ⟨b10, 0, none⟩ = some (.int .i64 p) ∧ w'.cell? ⟨b10, 1, none⟩ = some (.int .i64 q) ∧ w'.cell? ⟨b10 + 1, 0, none⟩ = some (.int .i64 r) ∧ w'.cell? ⟨b10 + 1, 1, none⟩ = some (.int .i64 u) ∧ w'.cell? ⟨b12, 0, none⟩ = some (.int .i64 mf) ∧ w'.cell? ⟨b12, 1, none⟩ = some (.int .i64 mt) ∧ w'.cell? ⟨b13, 0, none⟩ = some (.int .i64 f') ∧ w'.cell? ⟨b13, 1, none⟩ = some (.int .i64 t') ∧ w'.cell? ⟨b16, 0, none⟩ = some (.slice a16 cs.length c16))) x5 := ⟨d0, d1, d2, d3, d4, d5, d6, d7, d8⟩
          refine hK.out _ _ hS ?_
          clear hK K
          try simp only [Act.put, List.setIfInBounds_toArray, List.set_cons_zero, List.set_cons_succ]
          refine GR.one (i := 28) (by kernel_rfl) rfl (fun K hK => ?_)
          go_simp
          go_at_call 25
          refine (HRS.out _ TD.out).mono ?_
          rintro e x6 ⟨rfl, hb⟩
          replace XD := hide (XD.out.up hb)
          replace TD := hide (TD.out.up hb)
          replace J18 := hide (J18.out.up hb)
          replace J20 := hide (J20.out.up hb)
          clear hb d0 d1 d2 d3 d4 d5 d6 d7 d8
          have d0 := XD.out.cell 0 0 rfl rfl
          have d1 := XD.out.cell 0 1 rfl rfl
          have d2 := XD.out.cell 1 0 rfl rfl
          have d3 := XD.out.cell 1 1 rfl rfl
          have d4 := XD.out.cell 2 0 rfl rfl
          have d5 := XD.out.cell 2 1 rfl rfl
          have d6 := XD.out.cell 3 0 rfl rfl
          have d7 := XD.out.cell 3 1 rfl rfl
          have d8 := XD.out.cell 4 0 rfl rfl
          clear hS
          have hS : ((fun w' => w'.cell? ⟨b10, 0, none⟩ = some (.int .i64 p) ∧ w'.cell? ⟨b10, 1, none⟩ = some (.int .i64 q) ∧ w'.cell? ⟨b10 + 1, 0, none⟩ = some (.int .i64 r) ∧ w'.cell? ⟨b10 + 1, 1, none⟩ = some (.int .i64 u) ∧ w'.cell? ⟨b12, 0, none⟩ = some (.int .i64 mf) ∧ w'.cell? ⟨b12, 1, none⟩ = some (.int .i64 mt) ∧ w'.cell? ⟨b13, 0, none⟩ = some (.int .i64 f') ∧ w'.cell? ⟨b13, 1, none⟩ = some (.int .i64 t') ∧ w'.cell? ⟨b16, 0, none⟩ = some (.slice a16 cs.length c16))) x6 := ⟨d0, d1, d2, d3, d4, d5, d6, d7, d8⟩
          refine hK.out _ _ hS ?_
          clear hK K
          try simp only [Act.put, List.setIfInBounds_toArray, List.set_cons_zero, List.set_cons_succ]
          refine GR.take (i := 29) (v := (.bool true)) rfl (by kernel_rfl) (by kernel_rfl) (by kernel_rfl) (fun _ _ _ h => h) (by first | (go_simp; done) | rfl) (by rintro w' ⟨s0, s1, s2, s3, s4, s5, s6, s7, s8⟩; go_simp) hS ?_
          try simp only [Act.put, List.setIfInBounds_toArray, List.set_cons_zero, List.set_cons_succ]
          refine GR.take (i := 30) (v := (.bool true)) rfl (by kernel_rfl) (by kernel_rfl) (by kernel_rfl) (fun _ _ _ h => h) (by first | (go_simp; done) | rfl) (by rintro w' ⟨s0, s1, s2, s3, s4, s5, s6, s7, s8⟩; go_simp) hS ?_
          try simp only [Act.put, List.setIfInBounds_toArray, List.set_cons_zero, List.set_cons_succ]
          refine GR.take (i := 31) (v := (.bool true)) rfl (by kernel_rfl) (by kernel_rfl) (by kernel_rfl) (fun _ _ _ h => h) (by first | (go_simp; done) | rfl) (by rintro w' ⟨s0, s1, s2, s3, s4, s5, s6, s7, s8⟩; go_simp) hS ?_
          try simp only [Act.put, List.setIfInBounds_toArray, List.set_cons_zero, List.set_cons_succ]
          refine GR.take (i := 32) (v := (.agg #[.slice a16 cs.length c16])) rfl (by kernel_rfl) (by kernel_rfl) (by kernel_rfl) (fun _ _ _ h => h) (by first | (go_simp; done) | rfl) (by rintro w' ⟨s0, s1, s2, s3, s4, s5, s6, s7, s8⟩; go_simp) hS ?_
          try simp only [Act.put, List.setIfInBounds_toArray, List.set_cons_zero, List.set_cons_succ]
          refine GR.take (i := 33) (v := (.string nm)) rfl (by kernel_rfl) (by kernel_rfl) (by kernel_rfl) (fun _ _ _ h => h) (by first | (go_simp; done) | rfl) (by rintro w' ⟨s0, s1, s2, s3, s4, s5, s6, s7, s8⟩; go_simp) hS ?_
          try simp only [Act.put, List.setIfInBounds_toArray, List.set_cons_zero, List.set_cons_succ]
          refine GR.take (i := 35) (v := (.agg #[.slice a16 cs.length c16])) rfl (by kernel_rfl) (by kernel_rfl) (by kernel_rfl) (fun _ _ _ h => h) (by first | (go_simp; done) | rfl) (by rintro w' ⟨s0, s1, s2, s3, s4, s5, s6, s7, s8⟩; go_simp) hS ?_
          try simp only [Act.put, List.setIfInBounds_toArray, List.set_cons_zero, List.set_cons_succ]
          refine GR.take (i := 36) (v := (.string nm)) rfl (by kernel_rfl) (by kernel_rfl) (by kernel_rfl) (fun _ _ _ h => h) (by first | (go_simp; done) | rfl) (by rintro w' ⟨s0, s1, s2, s3, s4, s5, s6, s7, s8⟩; go_simp) hS ?_
          try simp only [Act.put, List.setIfInBounds_toArray, List.set_cons_zero, List.set_cons_succ]
          refine GR.one (i := 34) (by kernel_rfl) rfl (fun K hK => ?_)
          go_simp
          go_at_call 26
          refine (HFI.out _ TD.out).mono ?_
          rintro e x7 ⟨rfl, hb⟩
          replace XD := hide (XD.out.up hb)
          replace TD := hide (TD.out.up hb)
          replace J18 := hide (J18.out.up hb)
          replace J20 := hide (J20.out.up hb)
          clear hb d0 d1 d2 d3 d4 d5 d6 d7 d8
          have d0 := XD.out.cell 0 0 rfl rfl
          have d1 := XD.out.cell 0 1 rfl rfl
          have d2 := XD.out.cell 1 0 rfl rfl
          have d3 := XD.out.cell 1 1 rfl rfl
          have d4 := XD.out.cell 2 0 rfl rfl
          have d5 := XD.out.cell 2 1 rfl rfl
          have d6 := XD.out.cell 3 0 rfl rfl
          have d7 := XD.out.cell 3 1 rfl rfl
          have d8 := XD.out.cell 4 0 rfl rfl
          clear hS
          have hS : ((fun w' => w'.cell? ⟨b10, 0, none⟩ = some (.int .i64 p) ∧ w'.cell? ⟨b10, 1, none⟩ = some (.int .i64 q) ∧ w'.cell? ⟨b10 + 1, 0, none⟩ = some (.int .i64 r) ∧ w'.cell? ⟨b10 + 1, 1, none⟩ = some (.int .i64 u) ∧ w'.cell? ⟨b12, 0, none⟩ = some (.int .i64 mf) ∧ w'.cell? ⟨b12, 1, none⟩ = some (.int .i64 mt) ∧ w'.cell? ⟨b13, 0, none⟩ = some (.int .i64 f') ∧ w'.cell? ⟨b13, 1, none⟩ = some (.int .i64 t') ∧ w'.cell? ⟨b16, 0, none⟩ = some (.slice a16 cs.length c16))) x7 := ⟨d0, d1, d2, d3, d4, d5, d6, d7, d8⟩
          refine hK.out _ _ hS ?_
          clear hK K
          try simp only [Act.put, List.setIfInBounds_toArray, List.set_cons_zero, List.set_cons_succ]
          refine GR.one (i := 37) (by kernel_rfl) rfl (fun K hK => ?_)
          go_simp
          go_at_call 27
          refine (HFS.out _ TD.out).mono ?_
          rintro e x8 ⟨rfl, hb⟩
          replace XD := hide (XD.out.up hb)
          replace TD := hide (TD.out.up hb)
          replace J18 := hide (J18.out.up hb)
          replace J20 := hide (J20.out.up hb)
          clear hb d0 d1 d2 d3 d4 d5 d6 d7 d8
          have d0 := XD.out.cell 0 0 rfl rfl
          have d1 := XD.out.cell 0 1 rfl rfl
          have d2 := XD.out.cell 1 0 rfl rfl
          have d3 := XD.out.cell 1 1 rfl rfl
          have d4 := XD.out.cell 2 0 rfl rfl
          have d5 := XD.out.cell 2 1 rfl rfl
          have d6 := XD.out.cell 3 0 rfl rfl
          have d7 := XD.out.cell 3 1 rfl rfl
          have d8 := XD.out.cell 4 0 rfl rfl
          clear hS
          have hS : ((fun w' => w'.cell? ⟨b10, 0, none⟩ = some (.int .i64 p) ∧ w'.cell? ⟨b10, 1, none⟩ = some (.int .i64 q) ∧ w'.cell? ⟨b10 + 1, 0, none⟩ = some (.int .i64 r) ∧ w'.cell? ⟨b10 + 1, 1, none⟩ = some (.int .i64 u) ∧ w'.cell? ⟨b12, 0, none⟩ = some (.int .i64 mf) ∧ w'.cell? ⟨b12, 1, none⟩ = some (.int .i64 mt) ∧ w'.cell? ⟨b13, 0, none⟩ = some (.int .i64 f') ∧ w'.cell? ⟨b13, 1, none⟩ = some (.int .i64 t') ∧ w'.cell? ⟨b16, 0, none⟩ = some (.slice a16 cs.length c16))) x8 := ⟨d0, d1, d2, d3, d4, d5, d6, d7, d8⟩
          refine hK.out _ _ hS ?_
          clear hK K
          try simp only [Act.put, List.setIfInBounds_toArray, List.set_cons_zero, List.set_cons_succ]
          refine GR.take (i := 38) (v := (.bool true)) rfl (by kernel_rfl) (by kernel_rfl) (by kernel_rfl) (fun _ _ _ h => h) (by first | (go_simp; done) | rfl) (by rintro w' ⟨s0, s1, s2, s3, s4, s5, s6, s7, s8⟩; go_simp) hS ?_
          try simp only [Act.put, List.setIfInBounds_toArray, List.set_cons_zero, List.set_cons_succ]
          refine GR.take (i := 39) (v := (.bool true)) rfl (by kernel_rfl) (by kernel_rfl) (by kernel_rfl) (fun _ _ _ h => h) (by first | (go_simp; done) | rfl) (by rintro w' ⟨s0, s1, s2, s3, s4, s5, s6, s7, s8⟩; go_simp) hS ?_
          try simp only [Act.put, List.setIfInBounds_toArray, List.set_cons_zero, List.set_cons_succ]
          refine GR.take (i := 40) (v := (.bool true)) rfl (by kernel_rfl) (by kernel_rfl) (by kernel_rfl) (fun _ _ _ h => h) (by first | (go_simp; done) | rfl) (by rintro w' ⟨s0, s1, s2, s3, s4, s5, s6, s7, s8⟩; go_simp) hS ?_
          try simp only [Act.put, List.setIfInBounds_toArray, List.set_cons_zero, List.set_cons_succ]
          refine GR.done (by kernel_rfl) ?_
          go_wp2_with fail
          go_ret
          exact ⟨rfl, XD.out.below⟩
  · go_enter Tryz.func3, Tryz.ntmps3
    go_wp2_with fail
    refine (bigY a len cap _ (by omega)).mono ?_
    rintro e w1 ⟨rfl, rfl⟩
    go_wp2_with fail
    go_ret
    exact ⟨rfl, Below.refl _ _⟩

end Go.Proofs.YtgeegbbcjdlkbaaGreatDoor
