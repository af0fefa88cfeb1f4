/- What Levels and SwapBound return, of the reference and of the program (promise 5). -/
import Derived.Test.YtfldnjkojdnjcaaLvM
import Derived.Test.YtfldnjkojdnjcaaPlN
import Derived.Test.YtfldnjkojdnjcaaIn
namespace Go.Proofs.Ytfldnjkojdnjcaa
open Go.RowKit Go.ChangeShapes
set_option linter.unusedSimpArgs false
set_option linter.unusedVariables false
set_option maxRecDepth 100000

theorem hv_range {n : Int} (h : I64 n) (k : Nat) : -9223372036854775808 ≤ hv (min n 1000000) k ∧ hv (min n 1000000) k ≤ 1000000 :=
  ⟨hv_ge (by have := h.1; omega) (by omega) k, hv_le (by omega) (by omega) k⟩

theorem hv_tdiv {x t : Int} (ht : 0 < t) (h : t < x) : x.tdiv 2 = x / 2 := Int.tdiv_eq_ediv_of_nonneg (by omega)

set_option maxHeartbeats 1000000 in
theorem sLev_any (n t : Int) (w : World) (hn : I64 n) (ht : I64 t) :
    Calls Try.prog 20 #[.int .i64 n, .int .i64 t] w fun e w' => e = .returned (.int .i64 (lvF n t)) ∧ w = w' := by
  have HR := hide (fun k => hv_range hn k)
  have HE := hide (fun (k : Nat) (h1 : 0 < t) (h2 : k ≤ 20) h3 h4 => lvF_at (n := n) (k := k) h1 h2 h3 h4)
  have H0 := hide (fun (h : t ≤ 0) => show lvF n t = 0 by unfold lvF; rw [if_neg (by omega)])
  have HS := hide (fun k => hv_succ (min n 1000000) k)
  have HZ := hide (hv_zero (min n 1000000))
  have HX := hide (hv_end (n := min n 1000000) (by omega))
  obtain ⟨m, hm⟩ : ∃ m, m = min n 1000000 := ⟨_, rfl⟩
  obtain ⟨r, hr⟩ : ∃ r, r = lvF n t := ⟨_, rfl⟩
  rw [← hm] at HR HE HS HZ HX
  rw [← hr] at HE H0 ⊢
  have HM := hide hm
  clear hn hr hm
  go_enter Try.func20, Try.ntmps20
  go_wp2_with fail
  try rw [← HM.out]
  go_loopw [5, 6] (fun kk x wr => ∃ k : Nat, k ≤ 20 ∧ kk = .int .i64 (k : Int) ∧ x = .int .i64 (hv m k) ∧ (k = 0 ∨ 0 < t) ∧ (∀ j, j < k → t < hv m j) ∧ wr = w) (fun kk _ _ => 20 - (intOf kk).toNat)
  case atStart => exact ⟨0, by omega, rfl, by rw [HZ.out], .inl rfl, by intro j hj; omega, rfl⟩
  case round =>
    obtain ⟨k, hk, rfl, rfl, hz, hall, rfl⟩ := hrel
    have hall := hide hall
    have hs := HS.out k
    have hx := HX.out
    have hrr := HR.out k
    obtain ⟨x, hxx⟩ : ∃ x, x = hv m k := ⟨_, rfl⟩
    by_cases h1 : t < hv m k
    · by_cases h2 : 0 < t
      · have hk20 : k < 20 := by
          rcases Nat.lt_or_ge k 20 with h | h
          · exact h
          · have : k = 20 := by omega
            subst this
            omega
        rw [← hxx] at h1 hs hrr
        have t1 : decide (t < x) = true := decide_eq_true h1
        have t2 : decide (0 < t) = true := decide_eq_true h2
        have hd := hv_tdiv h2 h1
        have hw : wrap64 (x / 2) = x / 2 := IntWalk.wrap64_in _ (by omega)
        rw [← hxx]
        have hall2 := hide (show ∀ j, j < k + 1 → t < hv m j by
          intro j hj
          rcases Nat.lt_or_ge j k with h | h
          · exact hall.out j h
          · have : j = k := by omega
            subst this
            rw [← hxx]; exact h1)
        have hs := hide hs
        clear hall hrr hxx hx h1
        go_wp2_with fail
        exact ⟨⟨k + 1, by omega, by go_num, by rw [hs.out, hw], .inr h2, hall2.out, trivial⟩, by simp [intOf]; omega⟩
      · rw [← hxx] at h1
        rw [← hxx]
        have t1 : decide (t < x) = true := decide_eq_true h1
        have t2 : decide (0 < t) = false := decide_eq_false h2
        have hk0 : k = 0 := by omega
        have e := H0.out (by omega)
        clear hall hs hx hrr hxx
        subst hk0
        go_wp2_with fail
        go_ret
        exact ⟨rfl, rfl⟩
    · have hle : hv m k ≤ t := by omega
      rw [← hxx] at h1
      have t1 : decide (t < x) = false := decide_eq_false h1
      have e : r = (k : Int) := by
        rcases Int.lt_or_le 0 t with h | h
        · exact HE.out k h hk hall.out hle
        · have : k = 0 := by omega
          rw [this]
          exact H0.out h
      rw [← hxx]
      clear hall hs hx hrr hxx
      go_wp2_with fail
      go_ret
      exact ⟨rfl, rfl⟩

theorem shr_hv (m : Int) (k : Nat) : hv m k = m / 2 ^ k := by
  unfold hv
  simp

set_option maxHeartbeats 1000000 in
theorem iLev_any (n t : Int) (w : World) (hn : I64 n) (ht : I64 t) :
    Calls Try.prog 19 #[.int .i64 n, .int .i64 t] w fun e w' => e = .returned (.int .i64 (lvF n t)) ∧ w = w' := by
  by_cases h0 : t ≤ 0
  · have t1 : decide (t ≤ 0) = true := decide_eq_true h0
    have e : lvF n t = 0 := by unfold lvF; rw [if_neg (by omega)]
    rw [e]
    clear e
    go_enter Try.func19, Try.ntmps19
    go_wp2_with fail
    go_ret
    exact ⟨rfl, rfl⟩
  have t1 : decide (t ≤ 0) = false := decide_eq_false h0
  have HL := hide (fun k => lvC_le (min n 1000000) t k)
  have HC := hide (show ∀ k, lvC (min n 1000000) t (k + 1) = lvC (min n 1000000) t k + (if t < hv (min n 1000000) k then 1 else 0) from fun k => rfl)
  have HE := hide (show lvF n t = (lvC (min n 1000000) t 20 : Nat) by unfold lvF; rw [if_pos (by omega)])
  have HR := hide (fun k => hv_range hn k)
  obtain ⟨m, hm⟩ : ∃ m, m = min n 1000000 := ⟨_, rfl⟩
  obtain ⟨r, hr⟩ : ∃ r, r = lvF n t := ⟨_, rfl⟩
  rw [← hm] at HL HC HE HR
  rw [← hr] at HE ⊢
  have HM := hide hm
  clear hn hr hm h0
  go_enter Try.func19, Try.ntmps19
  go_wp2_with fail
  try rw [← HM.out]
  go_loopw [5, 11] (fun kk x wr => ∃ k : Nat, k ≤ 20 ∧ x = .int .i64 (k : Int) ∧ kk = .int .i64 ((lvC m t k : Nat) : Int) ∧ wr = w) (fun _ x _ => 20 - (intOf x).toNat)
  case atStart => exact ⟨0, by omega, rfl, rfl, rfl⟩
  case round =>
    obtain ⟨k, hk, rfl, rfl, rfl⟩ := hrel
    have hc := HC.out k
    have hl := HL.out k
    have hsh := shr_hv m k
    obtain ⟨c, hcc⟩ : ∃ c, c = lvC m t k := ⟨_, rfl⟩
    rw [← hcc] at hc hl ⊢
    by_cases hlt : k < 20
    · rw [hsh] at hc
      clear hsh hcc
      by_cases h1 : t < m / 2 ^ k
      · rw [if_pos h1] at hc
        have t2 : decide (t < m / 2 ^ k) = true := decide_eq_true h1
        have hc := hide hc
        clear h1
        go_wp2_with fail
        exact ⟨⟨k + 1, by omega, by go_num, by rw [hc.out]; go_num, trivial⟩, by simp [intOf]; omega⟩
      · rw [if_neg h1] at hc
        have t2 : decide (t < m / 2 ^ k) = false := decide_eq_false h1
        have hc := hide hc
        clear h1
        go_wp2_with fail
        exact ⟨⟨k + 1, by omega, by go_num, by rw [hc.out]; go_num, trivial⟩, by simp [intOf]; omega⟩
    · have hk20 : k = 20 := by omega
      subst hk20
      clear hc hl hsh
      have HE := HE.out
      rw [← hcc] at HE
      clear hcc
      go_wp2_with fail
      go_ret
      exact ⟨by rw [HE]; rfl, rfl⟩

theorem mulw {a b : Int} (ha : 0 ≤ a ∧ a ≤ 64) (hb : 0 ≤ b ∧ b ≤ 64) : 0 ≤ a * b ∧ a * b ≤ 4096 :=
  ⟨Int.mul_nonneg ha.1 hb.1, by have := Int.mul_le_mul ha.2 hb.2 hb.1 (by omega : (0:Int) ≤ 64); omega⟩

set_option maxHeartbeats 4000000 in
theorem sSb_any (n p t s q : Int) (w : World) (hn : I64 n) (ht : I64 t) :
    Calls Try.prog 34 #[.int .i64 n, .agg #[.int .i64 p, .int .i64 t, .int .i64 s], .int .i64 q] w (RetI1 w (sbF n p t s q)) := by
  obtain ⟨z, hz⟩ : ∃ z, z = isSet p t s := ⟨_, rfl⟩
  have CS := hide (fun (W : World) => show Calls Try.prog 49 #[.agg #[.int .i64 p, .int .i64 t, .int .i64 s]] W (RetB1 W z) by rw [hz]; exact sIsSet_any p t s W)
  have CL := hide (fun (W : World) => sLev_any n t W hn ht)
  have HLR := hide (lvF_range n t)
  obtain ⟨lv, hlv⟩ : ∃ z, z = lvF n t := ⟨_, rfl⟩
  obtain ⟨rs, hrs⟩ : ∃ z, z = sbF n p t s q := ⟨_, rfl⟩
  have NO := hide (fun (h : ¬((0 ≤ n ∧ n ≤ 64) ∧ (0 ≤ q ∧ q ≤ 30) ∧ z = true)) => show rs = 0 by
    rw [hrs]; unfold sbF sbOk
    rw [if_neg (by rw [← hz]; simp only [Bool.and_eq_true, decide_eq_true_eq]; intro h2; exact h ⟨h2.1.1, h2.1.2, h2.2⟩)])
  have YES := hide (fun (h : (0 ≤ n ∧ n ≤ 64) ∧ (0 ≤ q ∧ q ≤ 30) ∧ z = true) => show rs = (if p = 0 then n * q else if p = 1 then n * lv + t * q else n * n + t * q) by
    rw [hrs, hlv]; unfold sbF sbOk
    rw [if_pos (by rw [← hz]; simp only [Bool.and_eq_true, decide_eq_true_eq]; exact ⟨⟨h.1, h.2.1⟩, h.2.2⟩)])
  have HT := hide (fun (h : z = true) => show 0 ≤ p ∧ p ≤ 2 ∧ 1 ≤ t ∧ t ≤ 64 by
    have := of_decide_eq_true (hz.symm.trans h)
    exact ⟨this.1, this.2.1, this.2.2.1, this.2.2.2.1⟩)
  rw [← hlv] at CL HLR
  rw [← hrs]
  clear hz hlv hrs hn ht
  have X := hide (Kn.one w #[.int .i64 p, .int .i64 t, .int .i64 s] 32)
  obtain ⟨w1, hw1⟩ : ∃ w1, w1 = w.alloc (.cells #[.int .i64 p, .int .i64 t, .int .i64 s] 32) := ⟨_, rfl⟩
  rw [← hw1] at X
  have c0 : w1.cell? ⟨w.heap.size, 0, none⟩ = some (.int .i64 p) := X.out.cell 0 0 rfl rfl
  have c1 : w1.cell? ⟨w.heap.size, 1, none⟩ = some (.int .i64 t) := X.out.cell 0 1 rfl rfl
  have c2 : w1.cell? ⟨w.heap.size, 2, none⟩ = some (.int .i64 s) := X.out.cell 0 2 rfl rfl
  rw [hw1] at c0 c1 c2
  by_cases hn64 : 0 ≤ n ∧ n ≤ 64
  · have CB := hide (fun (W : World) => in_yes n 0 64 W hn64.1 hn64.2)
    go_enter Try.func34, Try.ntmps34
    go_wp2_with fail
    rw [← hw1]
    clear hw1 c0 c1 c2
    go_at_call 56
    refine (CB.out _).mono ?_
    rintro e wq ⟨rfl, rfl⟩
    have c0 : w1.cell? ⟨w.heap.size, 0, none⟩ = some (.int .i64 p) := X.out.cell 0 0 rfl rfl
    have c1 : w1.cell? ⟨w.heap.size, 1, none⟩ = some (.int .i64 t) := X.out.cell 0 1 rfl rfl
    have c2 : w1.cell? ⟨w.heap.size, 2, none⟩ = some (.int .i64 s) := X.out.cell 0 2 rfl rfl
    go_wp2_with fail
    clear c0 c1 c2
    go_at_call 49
    refine (CS.out _).mono ?_
    rintro e w2 ⟨rfl, hb⟩
    have X := hide (X.out.up hb)
    clear hb
    have c0 : w2.cell? ⟨w.heap.size, 0, none⟩ = some (.int .i64 p) := X.out.cell 0 0 rfl rfl
    have c1 : w2.cell? ⟨w.heap.size, 1, none⟩ = some (.int .i64 t) := X.out.cell 0 1 rfl rfl
    have c2 : w2.cell? ⟨w.heap.size, 2, none⟩ = some (.int .i64 s) := X.out.cell 0 2 rfl rfl
    cases z with
    | false =>
      obtain rfl : rs = 0 := NO.out (by simp)
      go_wp2_with fail
      go_ret
      exact ⟨rfl, X.out.below⟩
    | true =>
      by_cases hq30 : 0 ≤ q ∧ q ≤ 30
      · have CQ := hide (fun (W : World) => in_yes q 0 30 W hq30.1 hq30.2)
        go_wp2_with fail
        go_at_call 56
        refine (CQ.out _).mono ?_
        rintro e wq ⟨rfl, rfl⟩
        obtain ⟨pb1, pb2, tb1, tb2⟩ := HT.out (by simp)
        have hlr := HLR.out
        have e := YES.out ⟨hn64, hq30, by simp⟩
        have m1 := mulw (a := n) (b := q) (by omega) (by omega)
        have m2 := mulw (a := n) (b := lv) (by omega) (by omega)
        have m3 := mulw (a := t) (b := q) (by omega) (by omega)
        have m4 := mulw (a := n) (b := n) (by omega) (by omega)
        obtain ⟨n1, hn1⟩ : ∃ x, x = n * q := ⟨_, rfl⟩
        obtain ⟨n2, hn2⟩ : ∃ x, x = n * lv := ⟨_, rfl⟩
        obtain ⟨n3, hn3⟩ : ∃ x, x = t * q := ⟨_, rfl⟩
        obtain ⟨n4, hn4⟩ : ∃ x, x = n * n := ⟨_, rfl⟩
        rw [← hn1, ← hn2, ← hn3, ← hn4] at e
        rw [← hn1] at m1
        rw [← hn2] at m2
        rw [← hn3] at m3
        rw [← hn4] at m4
        have q1 : wrap64 n1 = n1 := IntWalk.wrap64_in _ (by omega)
        have q2 : wrap64 n2 = n2 := IntWalk.wrap64_in _ (by omega)
        have q3 : wrap64 n3 = n3 := IntWalk.wrap64_in _ (by omega)
        have q4 : wrap64 n4 = n4 := IntWalk.wrap64_in _ (by omega)
        have q5 : wrap64 (n2 + n3) = n2 + n3 := IntWalk.wrap64_in _ (by omega)
        have q6 : wrap64 (n4 + n3) = n4 + n3 := IntWalk.wrap64_in _ (by omega)
        have g1 : IntKind.i64.wrap (n1) = n1 := by rw [IntWalk.i64_left, q1]
        have g2 : IntKind.i64.wrap (n2) = n2 := by rw [IntWalk.i64_left, q2]
        have g3 : IntKind.i64.wrap (n3) = n3 := by rw [IntWalk.i64_left, q3]
        have g4 : IntKind.i64.wrap (n4) = n4 := by rw [IntWalk.i64_left, q4]
        have g5 : IntKind.i64.wrap (n2 + n3) = n2 + n3 := by rw [IntWalk.i64_left, q5]
        have g6 : IntKind.i64.wrap (n4 + n3) = n4 + n3 := by rw [IntWalk.i64_left, q6]
        have r1 := hn1.symm
        have r2 := hn2.symm
        have r3 := hn3.symm
        have r4 := hn4.symm
        clear hn1 hn2 hn3 hn4 m1 m2 m3 m4 NO YES HT HLR CS hlr
        by_cases p0 : p = 0
        · subst p0
          rw [if_pos rfl] at e
          subst e
          go_wp2_with fail
          try rw [r1]
          try rw [q1]
          go_ret
          exact ⟨rfl, X.out.below⟩
        by_cases p1 : p = 1
        · subst p1
          rw [if_neg p0, if_pos rfl] at e
          subst e
          go_upto_region 7 with fail
          go_region_with (first | (go_at_call 20; refine (CL.out _).mono ?_; rintro e wq ⟨rfl, rfl⟩))
          all_goals
            go_wp2_with fail
            exact bodyPost_ret (v := .int .i64 (n2 + n3)) (by simp [results, Try.results34, go_sem, g2, g3, g5]) rfl ⟨rfl, X.out.drew.below⟩
        · have p2 : p = 2 := by omega
          subst p2
          rw [if_neg p0, if_neg p1] at e
          subst e
          go_wp2_with fail
          try rw [r4, r3]
          try rw [q4, q3, q6]
          go_ret
          exact ⟨rfl, X.out.below⟩
      · have CQ := hide (fun (W : World) => in_no q 0 30 W (by omega))
        obtain rfl : rs = 0 := NO.out (by intro h; exact hq30 h.2.1)
        go_wp2_with fail
        go_at_call 56
        refine (CQ.out _).mono ?_
        rintro e wq ⟨rfl, rfl⟩
        go_wp2_with fail
        go_ret
        exact ⟨rfl, X.out.below⟩
  · have CB := hide (fun (W : World) => in_no n 0 64 W (by omega))
    obtain rfl : rs = 0 := NO.out (by intro h; exact hn64 h.1)
    go_enter Try.func34, Try.ntmps34
    go_wp2_with fail
    rw [← hw1]
    clear hw1 c0 c1 c2
    go_at_call 56
    refine (CB.out _).mono ?_
    rintro e wq ⟨rfl, rfl⟩
    go_wp2_with fail
    go_ret
    exact ⟨rfl, X.out.below⟩

set_option maxHeartbeats 4000000 in
theorem iSb_any (n p t s q : Int) (w : World) (hn : I64 n) (ht : I64 t) :
    Calls Try.prog 35 #[.int .i64 n, .agg #[.int .i64 p, .int .i64 t, .int .i64 s], .int .i64 q] w (RetI1 w (sbF n p t s q)) := by
  obtain ⟨z, hz⟩ : ∃ z, z = isSet p t s := ⟨_, rfl⟩
  have CS := hide (fun (W : World) => show Calls Try.prog 46 #[.agg #[.int .i64 p, .int .i64 t, .int .i64 s]] W (RetB1 W z) by rw [hz]; exact iIsSet_any p t s W)
  have CL := hide (fun (W : World) => iLev_any n t W hn ht)
  have HLR := hide (lvF_range n t)
  obtain ⟨lv, hlv⟩ : ∃ z, z = lvF n t := ⟨_, rfl⟩
  obtain ⟨rs, hrs⟩ : ∃ z, z = sbF n p t s q := ⟨_, rfl⟩
  have NO := hide (fun (h : ¬((0 ≤ n ∧ n ≤ 64) ∧ (0 ≤ q ∧ q ≤ 30) ∧ z = true)) => show rs = 0 by
    rw [hrs]; unfold sbF sbOk
    rw [if_neg (by rw [← hz]; simp only [Bool.and_eq_true, decide_eq_true_eq]; intro h2; exact h ⟨h2.1.1, h2.1.2, h2.2⟩)])
  have YES := hide (fun (h : (0 ≤ n ∧ n ≤ 64) ∧ (0 ≤ q ∧ q ≤ 30) ∧ z = true) => show rs = (if p = 0 then n * q else if p = 1 then n * lv + t * q else n * n + t * q) by
    rw [hrs, hlv]; unfold sbF sbOk
    rw [if_pos (by rw [← hz]; simp only [Bool.and_eq_true, decide_eq_true_eq]; exact ⟨⟨h.1, h.2.1⟩, h.2.2⟩)])
  have HT := hide (fun (h : z = true) => show 0 ≤ p ∧ p ≤ 2 ∧ 1 ≤ t ∧ t ≤ 64 by
    have := of_decide_eq_true (hz.symm.trans h)
    exact ⟨this.1, this.2.1, this.2.2.1, this.2.2.2.1⟩)
  rw [← hlv] at CL HLR
  rw [← hrs]
  clear hz hlv hrs hn ht
  have X := hide (Kn.one w #[.int .i64 p, .int .i64 t, .int .i64 s] 32)
  obtain ⟨w1, hw1⟩ : ∃ w1, w1 = w.alloc (.cells #[.int .i64 p, .int .i64 t, .int .i64 s] 32) := ⟨_, rfl⟩
  rw [← hw1] at X
  have c0 : w1.cell? ⟨w.heap.size, 0, none⟩ = some (.int .i64 p) := X.out.cell 0 0 rfl rfl
  have c1 : w1.cell? ⟨w.heap.size, 1, none⟩ = some (.int .i64 t) := X.out.cell 0 1 rfl rfl
  have c2 : w1.cell? ⟨w.heap.size, 2, none⟩ = some (.int .i64 s) := X.out.cell 0 2 rfl rfl
  rw [hw1] at c0 c1 c2
  by_cases h_t1 : n < 0
  · have t1 : decide (n < 0) = true := decide_eq_true h_t1
    obtain rfl : rs = 0 := NO.out (by omega)
    go_enter Try.func35, Try.ntmps35
    go_wp2_with fail
    try rw [← hw1]
    clear c0 c1 c2
    go_ret
    exact ⟨rfl, X.out.below⟩
  have t1 : decide (n < 0) = false := decide_eq_false h_t1
  by_cases h_t2 : 64 < n
  · have t2 : decide (64 < n) = true := decide_eq_true h_t2
    obtain rfl : rs = 0 := NO.out (by omega)
    go_enter Try.func35, Try.ntmps35
    go_wp2_with fail
    try rw [← hw1]
    clear c0 c1 c2
    go_ret
    exact ⟨rfl, X.out.below⟩
  have t2 : decide (64 < n) = false := decide_eq_false h_t2
  by_cases h_t3 : q < 0
  · have t3 : decide (q < 0) = true := decide_eq_true h_t3
    obtain rfl : rs = 0 := NO.out (by omega)
    go_enter Try.func35, Try.ntmps35
    go_wp2_with fail
    try rw [← hw1]
    clear c0 c1 c2
    go_ret
    exact ⟨rfl, X.out.below⟩
  have t3 : decide (q < 0) = false := decide_eq_false h_t3
  by_cases h_t4 : 30 < q
  · have t4 : decide (30 < q) = true := decide_eq_true h_t4
    obtain rfl : rs = 0 := NO.out (by omega)
    go_enter Try.func35, Try.ntmps35
    go_wp2_with fail
    try rw [← hw1]
    clear c0 c1 c2
    go_ret
    exact ⟨rfl, X.out.below⟩
  have t4 : decide (30 < q) = false := decide_eq_false h_t4
  have hn64 : 0 ≤ n ∧ n ≤ 64 := by omega
  have hq30 : 0 ≤ q ∧ q ≤ 30 := by omega
  go_enter Try.func35, Try.ntmps35
  go_wp2_with fail
  rw [← hw1]
  clear hw1 c0 c1 c2
  go_at_call 46
  refine (CS.out _).mono ?_
  rintro e w2 ⟨rfl, hb⟩
  have X := hide (X.out.up hb)
  clear hb
  have c0 : w2.cell? ⟨w.heap.size, 0, none⟩ = some (.int .i64 p) := X.out.cell 0 0 rfl rfl
  have c1 : w2.cell? ⟨w.heap.size, 1, none⟩ = some (.int .i64 t) := X.out.cell 0 1 rfl rfl
  have c2 : w2.cell? ⟨w.heap.size, 2, none⟩ = some (.int .i64 s) := X.out.cell 0 2 rfl rfl
  cases z with
  | false =>
    obtain rfl : rs = 0 := NO.out (by simp)
    go_wp2_with fail
    go_ret
    exact ⟨rfl, X.out.below⟩
  | true =>
    obtain ⟨pb1, pb2, tb1, tb2⟩ := HT.out (by simp)
    have hlr := HLR.out
    have e := YES.out ⟨hn64, hq30, by simp⟩
    have m1 := mulw (a := n) (b := q) (by omega) (by omega)
    have m2 := mulw (a := n) (b := lv) (by omega) (by omega)
    have m3 := mulw (a := t) (b := q) (by omega) (by omega)
    have m4 := mulw (a := n) (b := n) (by omega) (by omega)
    obtain ⟨n1, hn1⟩ : ∃ x, x = n * q := ⟨_, rfl⟩
    obtain ⟨n2, hn2⟩ : ∃ x, x = n * lv := ⟨_, rfl⟩
    obtain ⟨n3, hn3⟩ : ∃ x, x = t * q := ⟨_, rfl⟩
    obtain ⟨n4, hn4⟩ : ∃ x, x = n * n := ⟨_, rfl⟩
    rw [← hn1, ← hn2, ← hn3, ← hn4] at e
    rw [← hn1] at m1
    rw [← hn2] at m2
    rw [← hn3] at m3
    rw [← hn4] at m4
    have q1 : wrap64 n1 = n1 := IntWalk.wrap64_in _ (by omega)
    have q2 : wrap64 n2 = n2 := IntWalk.wrap64_in _ (by omega)
    have q3 : wrap64 n3 = n3 := IntWalk.wrap64_in _ (by omega)
    have q4 : wrap64 n4 = n4 := IntWalk.wrap64_in _ (by omega)
    have q5 : wrap64 (n2 + n3) = n2 + n3 := IntWalk.wrap64_in _ (by omega)
    have q6 : wrap64 (n4 + n3) = n4 + n3 := IntWalk.wrap64_in _ (by omega)
    have g1 : IntKind.i64.wrap (n1) = n1 := by rw [IntWalk.i64_left, q1]
    have g2 : IntKind.i64.wrap (n2) = n2 := by rw [IntWalk.i64_left, q2]
    have g3 : IntKind.i64.wrap (n3) = n3 := by rw [IntWalk.i64_left, q3]
    have g4 : IntKind.i64.wrap (n4) = n4 := by rw [IntWalk.i64_left, q4]
    have g5 : IntKind.i64.wrap (n2 + n3) = n2 + n3 := by rw [IntWalk.i64_left, q5]
    have g6 : IntKind.i64.wrap (n4 + n3) = n4 + n3 := by rw [IntWalk.i64_left, q6]
    have r1 := hn1.symm
    have r2 := hn2.symm
    have r3 := hn3.symm
    have r4 := hn4.symm
    clear hn1 hn2 hn3 hn4 m1 m2 m3 m4 NO YES HT HLR CS hlr
    by_cases p0 : p = 0
    · subst p0
      rw [if_pos rfl] at e
      subst e
      go_wp2_with fail
      try rw [r1]
      try rw [q1]
      go_ret
      exact ⟨rfl, X.out.below⟩
    by_cases p1 : p = 1
    · subst p1
      rw [if_neg p0, if_pos rfl] at e
      subst e
      go_upto_region 5 with fail
      go_region_with (first | (go_at_call 19; refine (CL.out _).mono ?_; rintro e wq ⟨rfl, rfl⟩))
      all_goals
        go_wp2_with fail
        exact bodyPost_ret (v := .int .i64 (n2 + n3)) (by simp [results, Try.results35, go_sem, g2, g3, g5]) rfl ⟨rfl, X.out.drew.below⟩
    · have p2 : p = 2 := by omega
      subst p2
      rw [if_neg p0, if_neg p1] at e
      subst e
      go_wp2_with fail
      try rw [r4, r3]
      try rw [q4, q3, q6]
      go_ret
      exact ⟨rfl, X.out.below⟩

end Go.Proofs.Ytfldnjkojdnjcaa
