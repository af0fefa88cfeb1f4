/- What FormatCharge returns, of the reference and of the program (promise 6). -/
import Derived.Test.YtdjhnamofmcmjaaDoorFmtR
import Derived.Test.YtdjhnamofmcmjaaDoorCg1
import Derived.Test.YtdjhnamofmcmjaaDoorIn
import Derived.Test.YtdjhnamofmcmjaaDoorGuard
import Derived.Test.YtdjhnamofmcmjaaDoorKn
import Derived.BigQuiet
namespace Go.Proofs.YtdjhnamofmcmjaaDoor
open Go.RowKit Go.ChangeShapes
set_option linter.unusedSimpArgs false
set_option linter.unusedVariables false
set_option maxRecDepth 100000

/-- A charge that can be written. -/
def cgOk (q v a b n : Int) : Prop := (0 ≤ q ∧ q ≤ 29) ∧ (-1000 ≤ v ∧ v ≤ 1000) ∧ (0 ≤ a ∧ a ≤ b) ∧ b ≤ 64 ∧ (0 ≤ n ∧ n ≤ 64)
instance (q v a b n : Int) : Decidable (cgOk q v a b n) := by unfold cgOk; infer_instance
/-- A charge's text. -/
def fmtC (q v a b n : Int) : List UInt8 := if cgOk q v a b n then Lib.itoa q ++ [32, 97, 116, 32] ++ Lib.itoa v ++ [32, 105, 110, 32] ++ (Lib.itoa a ++ [46, 46] ++ Lib.itoa b) ++ [32, 115, 119, 97, 112, 115, 32] ++ Lib.itoa n else []

theorem cg_str (q v a b n : List UInt8) : ByteArray.mk q.toArray ++ ByteArray.mk #[32, 97, 116, 32] ++ ByteArray.mk v.toArray ++ ByteArray.mk #[32, 105, 110, 32] ++ ByteArray.mk a.toArray ++ ByteArray.mk #[46, 46] ++ ByteArray.mk b.toArray ++ ByteArray.mk #[32, 115, 119, 97, 112, 115, 32] ++ ByteArray.mk n.toArray = ByteArray.mk (q ++ [32, 97, 116, 32] ++ v ++ [32, 105, 110, 32] ++ (a ++ [46, 46] ++ b) ++ [32, 115, 119, 97, 112, 115, 32] ++ n).toArray := by
  have e : ∀ x y : List UInt8, ByteArray.mk x.toArray ++ ByteArray.mk y.toArray = ByteArray.mk (x ++ y).toArray := fun x y => ByteArray.mk_append_mk x y
  show ByteArray.mk q.toArray ++ ByteArray.mk [32, 97, 116, 32].toArray ++ ByteArray.mk v.toArray ++ ByteArray.mk [32, 105, 110, 32].toArray ++ ByteArray.mk a.toArray ++ ByteArray.mk [46, 46].toArray ++ ByteArray.mk b.toArray ++ ByteArray.mk [32, 115, 119, 97, 112, 115, 32].toArray ++ ByteArray.mk n.toArray = _
  simp only [e]
  congr 2
  simp [List.append_assoc]
theorem cg_str2 (q v r n : List UInt8) : ByteArray.mk q.toArray ++ ByteArray.mk #[32, 97, 116, 32] ++ ByteArray.mk v.toArray ++ ByteArray.mk #[32, 105, 110, 32] ++ ByteArray.mk r.toArray ++ ByteArray.mk #[32, 115, 119, 97, 112, 115, 32] ++ ByteArray.mk n.toArray = ByteArray.mk (q ++ [32, 97, 116, 32] ++ v ++ [32, 105, 110, 32] ++ r ++ [32, 115, 119, 97, 112, 115, 32] ++ n).toArray := by
  have e : ∀ x y : List UInt8, ByteArray.mk x.toArray ++ ByteArray.mk y.toArray = ByteArray.mk (x ++ y).toArray := fun x y => ByteArray.mk_append_mk x y
  show ByteArray.mk q.toArray ++ ByteArray.mk [32, 97, 116, 32].toArray ++ ByteArray.mk v.toArray ++ ByteArray.mk [32, 105, 110, 32].toArray ++ ByteArray.mk r.toArray ++ ByteArray.mk [32, 115, 119, 97, 112, 115, 32].toArray ++ ByteArray.mk n.toArray = _
  simp only [e]

set_option maxHeartbeats 4000000 in
theorem sFmtC_no (q v a b n : Int) (w : World) (h : ¬ cgOk q v a b n) : Calls Tryd.prog 4 #[.agg #[.int .i64 q, .int .i64 v, .int .i64 a, .int .i64 b, .int .i64 n]] w (RetS w []) := by
  have X := hide (Kn.one w #[.int .i64 q, .int .i64 v, .int .i64 a, .int .i64 b, .int .i64 n] 25)
  obtain ⟨w1, hw1⟩ : ∃ w1, w1 = w.alloc (.cells #[.int .i64 q, .int .i64 v, .int .i64 a, .int .i64 b, .int .i64 n] 25) := ⟨_, rfl⟩
  rw [← hw1] at X
  have c0 : w1.cell? ⟨w.heap.size, 0, none⟩ = some (.int .i64 q) := X.out.cell 0 0 rfl rfl
  have c1 : w1.cell? ⟨w.heap.size, 1, none⟩ = some (.int .i64 v) := X.out.cell 0 1 rfl rfl
  have c2 : w1.cell? ⟨w.heap.size, 2, none⟩ = some (.int .i64 a) := X.out.cell 0 2 rfl rfl
  have c3 : w1.cell? ⟨w.heap.size, 3, none⟩ = some (.int .i64 b) := X.out.cell 0 3 rfl rfl
  have c4 : w1.cell? ⟨w.heap.size, 4, none⟩ = some (.int .i64 n) := X.out.cell 0 4 rfl rfl
  have H := hide h
  clear h
  rw [hw1] at c0 c1 c2 c3 c4
  go_enter Tryd.func4, Tryd.ntmps4
  go_wp2_with fail
  rw [← hw1]
  rw [← hw1] at c0 c1 c2 c3 c4
  clear hw1
  by_cases h1 : 0 ≤ q ∧ q ≤ 29
  · have C1 := hide (fun (W : World) => in_yes q 0 29 W h1.1 h1.2)
    go_at_call 7
    refine (C1.out _).mono ?_
    rintro e wq ⟨rfl, rfl⟩
    by_cases h2 : -1000 ≤ v ∧ v ≤ 1000
    · have C2 := hide (fun (W : World) => in_yes v (-1000) 1000 W h2.1 h2.2)
      go_wp2_with fail
      go_at_call 7
      refine (C2.out _).mono ?_
      rintro e wq ⟨rfl, rfl⟩
      by_cases h3 : 0 ≤ a ∧ a ≤ b
      · have C3 := hide (fun (W : World) => in_yes a 0 b W h3.1 h3.2)
        go_wp2_with fail
        go_at_call 7
        refine (C3.out _).mono ?_
        rintro e wq ⟨rfl, rfl⟩
        by_cases h4 : 64 < b
        · have t4 : decide ((64 : Int) < b) = true := decide_eq_true h4
          go_wp2_with fail
          go_ret
          exact ⟨rfl, X.out.below⟩
        · have t4 : decide ((64 : Int) < b) = false := decide_eq_false h4
          have h6 : ¬(0 ≤ n ∧ n ≤ 64) := fun h5 => H.out ⟨h1, h2, h3, by omega, h5⟩
          have C5 := hide (fun (W : World) => in_no n 0 64 W (by omega))
          clear h6
          go_wp2_with fail
          go_at_call 7
          refine (C5.out _).mono ?_
          rintro e wq ⟨rfl, rfl⟩
          go_wp2_with fail
          go_ret
          exact ⟨rfl, X.out.below⟩
      · have C3 := hide (fun (W : World) => in_no a 0 b W (by omega))
        go_wp2_with fail
        go_at_call 7
        refine (C3.out _).mono ?_
        rintro e wq ⟨rfl, rfl⟩
        go_wp2_with fail
        go_ret
        exact ⟨rfl, X.out.below⟩
    · have C2 := hide (fun (W : World) => in_no v (-1000) 1000 W (by omega))
      go_wp2_with fail
      go_at_call 7
      refine (C2.out _).mono ?_
      rintro e wq ⟨rfl, rfl⟩
      go_wp2_with fail
      go_ret
      exact ⟨rfl, X.out.below⟩
  · have C1 := hide (fun (W : World) => in_no q 0 29 W (by omega))
    go_at_call 7
    refine (C1.out _).mono ?_
    rintro e wq ⟨rfl, rfl⟩
    go_wp2_with fail
    go_ret
    exact ⟨rfl, X.out.below⟩

set_option maxHeartbeats 8000000 in
theorem sFmtC_yes (q v a b n : Int) (w : World) (h : cgOk q v a b n) : Calls Tryd.prog 4 #[.agg #[.int .i64 q, .int .i64 v, .int .i64 a, .int .i64 b, .int .i64 n]] w (RetS w (fmtC q v a b n)) := by
  have hv := hide (show fmtC q v a b n = _ from if_pos h)
  obtain ⟨h1, h2, h3, h4, h5⟩ := h
  have X := hide (Kn.one w #[.int .i64 q, .int .i64 v, .int .i64 a, .int .i64 b, .int .i64 n] 25)
  obtain ⟨w1, hw1⟩ : ∃ w1, w1 = w.alloc (.cells #[.int .i64 q, .int .i64 v, .int .i64 a, .int .i64 b, .int .i64 n] 25) := ⟨_, rfl⟩
  rw [← hw1] at X
  have c0 : w1.cell? ⟨w.heap.size, 0, none⟩ = some (.int .i64 q) := X.out.cell 0 0 rfl rfl
  have c1 : w1.cell? ⟨w.heap.size, 1, none⟩ = some (.int .i64 v) := X.out.cell 0 1 rfl rfl
  have c2 : w1.cell? ⟨w.heap.size, 2, none⟩ = some (.int .i64 a) := X.out.cell 0 2 rfl rfl
  have c3 : w1.cell? ⟨w.heap.size, 3, none⟩ = some (.int .i64 b) := X.out.cell 0 3 rfl rfl
  have c4 : w1.cell? ⟨w.heap.size, 4, none⟩ = some (.int .i64 n) := X.out.cell 0 4 rfl rfl
  have C1 := hide (fun (W : World) => in_yes q 0 29 W h1.1 h1.2)
  have C2 := hide (fun (W : World) => in_yes v (-1000) 1000 W h2.1 h2.2)
  have C3 := hide (fun (W : World) => in_yes a 0 b W h3.1 h3.2)
  have C5 := hide (fun (W : World) => in_yes n 0 64 W h5.1 h5.2)
  have t4 : decide ((64 : Int) < b) = false := decide_eq_false (by omega)
  have l0 := itoa_len q (by omega) (by omega)
  have l1 := itoa_len v (by omega) (by omega)
  have l2 := itoa_len a (by omega) (by omega)
  have l3 := itoa_len b (by omega) (by omega)
  have l4 := itoa_len n (by omega) (by omega)
  have D0 := hide (fun (W : World) => sFI_any q W (by omega) (by omega))
  have D1 := hide (fun (W : World) => sFI_any v W (by omega) (by omega))
  have D2 := hide (fun (W : World) => sFI_any a W (by omega) (by omega))
  have D3 := hide (fun (W : World) => sFI_any b W (by omega) (by omega))
  have D4 := hide (fun (W : World) => sFI_any n W (by omega) (by omega))
  clear h1 h2 h3 h4 h5
  rw [hw1] at c0 c1 c2 c3 c4
  go_enter Tryd.func4, Tryd.ntmps4
  go_wp2_with fail
  rw [← hw1]
  rw [← hw1] at c0 c1 c2 c3 c4
  clear hw1
  go_at_call 7
  refine (C1.out _).mono ?_
  rintro e wq ⟨rfl, rfl⟩
  go_wp2_with fail
  go_at_call 7
  refine (C2.out _).mono ?_
  rintro e wq ⟨rfl, rfl⟩
  go_wp2_with fail
  go_at_call 7
  refine (C3.out _).mono ?_
  rintro e wq ⟨rfl, rfl⟩
  go_wp2_with fail
  go_at_call 7
  refine (C5.out _).mono ?_
  rintro e wq ⟨rfl, rfl⟩
  go_wp2_with fail
  have XD := hide X.out.drew
  have KS := hide (fun (W : World) (h : Kn w W [(w.heap.size, #[.int .i64 q, .int .i64 v, .int .i64 a, .int .i64 b, .int .i64 n], 25)]) => show W.cell? ⟨w.heap.size, 0, none⟩ = some (.int .i64 q) ∧ W.cell? ⟨w.heap.size, 1, none⟩ = some (.int .i64 v) ∧ W.cell? ⟨w.heap.size, 2, none⟩ = some (.int .i64 a) ∧ W.cell? ⟨w.heap.size, 3, none⟩ = some (.int .i64 b) ∧ W.cell? ⟨w.heap.size, 4, none⟩ = some (.int .i64 n) from ⟨h.cell 0 0 rfl rfl, h.cell 0 1 rfl rfl, h.cell 0 2 rfl rfl, h.cell 0 3 rfl rfl, h.cell 0 4 rfl rfl⟩)
  clear c0 c1 c2 c3 c4 X
  obtain ⟨c0, c1, c2, c3, c4⟩ := KS.out _ XD.out
  refine GR.region (S := (fun w' => w'.cell? ⟨w.heap.size, 0, none⟩ = some (.int .i64 q) ∧ w'.cell? ⟨w.heap.size, 1, none⟩ = some (.int .i64 v) ∧ w'.cell? ⟨w.heap.size, 2, none⟩ = some (.int .i64 a) ∧ w'.cell? ⟨w.heap.size, 3, none⟩ = some (.int .i64 b) ∧ w'.cell? ⟨w.heap.size, 4, none⟩ = some (.int .i64 n))) (n := 24) (by kernel_rfl) rfl ⟨c0, c1, c2, c3, c4⟩ (fun hS => ?_)
  refine GR.take (i := 0) (v := (.pointer (some ⟨w.heap.size, 0, none⟩))) rfl (by kernel_rfl) (by kernel_rfl) (by kernel_rfl) (fun _ _ _ h => h) (by first | (go_simp; done) | rfl) (by rintro w' ⟨s0, s1, s2, s3, s4⟩; go_simp) hS ?_
  try simp only [Act.put, List.setIfInBounds_toArray, List.set_cons_zero, List.set_cons_succ]
  refine GR.take (i := 1) (v := (.int .i64 q)) rfl (by kernel_rfl) (by kernel_rfl) (by kernel_rfl) (fun _ _ _ h => h) (by first | (go_simp; done) | rfl) (by rintro w' ⟨s0, s1, s2, s3, s4⟩; go_simp) hS ?_
  try simp only [Act.put, List.setIfInBounds_toArray, List.set_cons_zero, List.set_cons_succ]
  refine GR.take (i := 4) (v := (.pointer (some ⟨w.heap.size, 1, none⟩))) rfl (by kernel_rfl) (by kernel_rfl) (by kernel_rfl) (fun _ _ _ h => h) (by first | (go_simp; done) | rfl) (by rintro w' ⟨s0, s1, s2, s3, s4⟩; go_simp) hS ?_
  try simp only [Act.put, List.setIfInBounds_toArray, List.set_cons_zero, List.set_cons_succ]
  refine GR.take (i := 5) (v := (.int .i64 v)) rfl (by kernel_rfl) (by kernel_rfl) (by kernel_rfl) (fun _ _ _ h => h) (by first | (go_simp; done) | rfl) (by rintro w' ⟨s0, s1, s2, s3, s4⟩; go_simp) hS ?_
  try simp only [Act.put, List.setIfInBounds_toArray, List.set_cons_zero, List.set_cons_succ]
  refine GR.take (i := 9) (v := (.pointer (some ⟨w.heap.size, 2, none⟩))) rfl (by kernel_rfl) (by kernel_rfl) (by kernel_rfl) (fun _ _ _ h => h) (by first | (go_simp; done) | rfl) (by rintro w' ⟨s0, s1, s2, s3, s4⟩; go_simp) hS ?_
  try simp only [Act.put, List.setIfInBounds_toArray, List.set_cons_zero, List.set_cons_succ]
  refine GR.take (i := 10) (v := (.int .i64 a)) rfl (by kernel_rfl) (by kernel_rfl) (by kernel_rfl) (fun _ _ _ h => h) (by first | (go_simp; done) | rfl) (by rintro w' ⟨s0, s1, s2, s3, s4⟩; go_simp) hS ?_
  try simp only [Act.put, List.setIfInBounds_toArray, List.set_cons_zero, List.set_cons_succ]
  refine GR.take (i := 14) (v := (.pointer (some ⟨w.heap.size, 3, none⟩))) rfl (by kernel_rfl) (by kernel_rfl) (by kernel_rfl) (fun _ _ _ h => h) (by first | (go_simp; done) | rfl) (by rintro w' ⟨s0, s1, s2, s3, s4⟩; go_simp) hS ?_
  try simp only [Act.put, List.setIfInBounds_toArray, List.set_cons_zero, List.set_cons_succ]
  refine GR.take (i := 15) (v := (.int .i64 b)) rfl (by kernel_rfl) (by kernel_rfl) (by kernel_rfl) (fun _ _ _ h => h) (by first | (go_simp; done) | rfl) (by rintro w' ⟨s0, s1, s2, s3, s4⟩; go_simp) hS ?_
  try simp only [Act.put, List.setIfInBounds_toArray, List.set_cons_zero, List.set_cons_succ]
  refine GR.take (i := 19) (v := (.pointer (some ⟨w.heap.size, 4, none⟩))) rfl (by kernel_rfl) (by kernel_rfl) (by kernel_rfl) (fun _ _ _ h => h) (by first | (go_simp; done) | rfl) (by rintro w' ⟨s0, s1, s2, s3, s4⟩; go_simp) hS ?_
  try simp only [Act.put, List.setIfInBounds_toArray, List.set_cons_zero, List.set_cons_succ]
  refine GR.take (i := 20) (v := (.int .i64 n)) rfl (by kernel_rfl) (by kernel_rfl) (by kernel_rfl) (fun _ _ _ h => h) (by first | (go_simp; done) | rfl) (by rintro w' ⟨s0, s1, s2, s3, s4⟩; go_simp) hS ?_
  try simp only [Act.put, List.setIfInBounds_toArray, List.set_cons_zero, List.set_cons_succ]
  refine GR.one (i := 2) (by kernel_rfl) rfl (fun K hK => ?_)
  go_simp
  go_at_call 8
  refine (D0.out _).mono ?_
  rintro e x0 ⟨rfl, hb⟩
  replace XD := hide (XD.out.up hb)
  clear hb c0 c1 c2 c3 c4
  obtain ⟨c0, c1, c2, c3, c4⟩ := KS.out _ XD.out
  clear hS
  have hS : ((fun w' => w'.cell? ⟨w.heap.size, 0, none⟩ = some (.int .i64 q) ∧ w'.cell? ⟨w.heap.size, 1, none⟩ = some (.int .i64 v) ∧ w'.cell? ⟨w.heap.size, 2, none⟩ = some (.int .i64 a) ∧ w'.cell? ⟨w.heap.size, 3, none⟩ = some (.int .i64 b) ∧ w'.cell? ⟨w.heap.size, 4, none⟩ = some (.int .i64 n))) x0 := ⟨c0, c1, c2, c3, c4⟩
  refine hK.out _ _ hS ?_
  clear hK K
  try simp only [Act.put, List.setIfInBounds_toArray, List.set_cons_zero, List.set_cons_succ]
  refine GR.take (i := 3) (v := (.string (ByteArray.mk (Lib.itoa q).toArray ++ ByteArray.mk #[32, 97, 116, 32]))) rfl (by kernel_rfl) (by kernel_rfl) (by kernel_rfl) (fun _ _ _ h => h) (by first | (go_simp; done) | rfl) (by rintro w' ⟨s0, s1, s2, s3, s4⟩; go_simp; (try omega)) hS ?_
  try simp only [Act.put, List.setIfInBounds_toArray, List.set_cons_zero, List.set_cons_succ]
  refine GR.one (i := 6) (by kernel_rfl) rfl (fun K hK => ?_)
  go_simp
  go_at_call 8
  refine (D1.out _).mono ?_
  rintro e x1 ⟨rfl, hb⟩
  replace XD := hide (XD.out.up hb)
  clear hb c0 c1 c2 c3 c4
  obtain ⟨c0, c1, c2, c3, c4⟩ := KS.out _ XD.out
  clear hS
  have hS : ((fun w' => w'.cell? ⟨w.heap.size, 0, none⟩ = some (.int .i64 q) ∧ w'.cell? ⟨w.heap.size, 1, none⟩ = some (.int .i64 v) ∧ w'.cell? ⟨w.heap.size, 2, none⟩ = some (.int .i64 a) ∧ w'.cell? ⟨w.heap.size, 3, none⟩ = some (.int .i64 b) ∧ w'.cell? ⟨w.heap.size, 4, none⟩ = some (.int .i64 n))) x1 := ⟨c0, c1, c2, c3, c4⟩
  refine hK.out _ _ hS ?_
  clear hK K
  try simp only [Act.put, List.setIfInBounds_toArray, List.set_cons_zero, List.set_cons_succ]
  refine GR.take (i := 7) (v := (.string (ByteArray.mk (Lib.itoa q).toArray ++ ByteArray.mk #[32, 97, 116, 32] ++ ByteArray.mk (Lib.itoa v).toArray))) rfl (by kernel_rfl) (by kernel_rfl) (by kernel_rfl) (fun _ _ _ h => h) (by first | (go_simp; done) | rfl) (by rintro w' ⟨s0, s1, s2, s3, s4⟩; go_simp; (try omega)) hS ?_
  try simp only [Act.put, List.setIfInBounds_toArray, List.set_cons_zero, List.set_cons_succ]
  refine GR.take (i := 8) (v := (.string (ByteArray.mk (Lib.itoa q).toArray ++ ByteArray.mk #[32, 97, 116, 32] ++ ByteArray.mk (Lib.itoa v).toArray ++ ByteArray.mk #[32, 105, 110, 32]))) rfl (by kernel_rfl) (by kernel_rfl) (by kernel_rfl) (fun _ _ _ h => h) (by first | (go_simp; done) | rfl) (by rintro w' ⟨s0, s1, s2, s3, s4⟩; go_simp; (try omega)) hS ?_
  try simp only [Act.put, List.setIfInBounds_toArray, List.set_cons_zero, List.set_cons_succ]
  refine GR.one (i := 11) (by kernel_rfl) rfl (fun K hK => ?_)
  go_simp
  go_at_call 8
  refine (D2.out _).mono ?_
  rintro e x2 ⟨rfl, hb⟩
  replace XD := hide (XD.out.up hb)
  clear hb c0 c1 c2 c3 c4
  obtain ⟨c0, c1, c2, c3, c4⟩ := KS.out _ XD.out
  clear hS
  have hS : ((fun w' => w'.cell? ⟨w.heap.size, 0, none⟩ = some (.int .i64 q) ∧ w'.cell? ⟨w.heap.size, 1, none⟩ = some (.int .i64 v) ∧ w'.cell? ⟨w.heap.size, 2, none⟩ = some (.int .i64 a) ∧ w'.cell? ⟨w.heap.size, 3, none⟩ = some (.int .i64 b) ∧ w'.cell? ⟨w.heap.size, 4, none⟩ = some (.int .i64 n))) x2 := ⟨c0, c1, c2, c3, c4⟩
  refine hK.out _ _ hS ?_
  clear hK K
  try simp only [Act.put, List.setIfInBounds_toArray, List.set_cons_zero, List.set_cons_succ]
  refine GR.take (i := 12) (v := (.string (ByteArray.mk (Lib.itoa q).toArray ++ ByteArray.mk #[32, 97, 116, 32] ++ ByteArray.mk (Lib.itoa v).toArray ++ ByteArray.mk #[32, 105, 110, 32] ++ ByteArray.mk (Lib.itoa a).toArray))) rfl (by kernel_rfl) (by kernel_rfl) (by kernel_rfl) (fun _ _ _ h => h) (by first | (go_simp; done) | rfl) (by rintro w' ⟨s0, s1, s2, s3, s4⟩; go_simp; (try omega)) hS ?_
  try simp only [Act.put, List.setIfInBounds_toArray, List.set_cons_zero, List.set_cons_succ]
  refine GR.take (i := 13) (v := (.string (ByteArray.mk (Lib.itoa q).toArray ++ ByteArray.mk #[32, 97, 116, 32] ++ ByteArray.mk (Lib.itoa v).toArray ++ ByteArray.mk #[32, 105, 110, 32] ++ ByteArray.mk (Lib.itoa a).toArray ++ ByteArray.mk #[46, 46]))) rfl (by kernel_rfl) (by kernel_rfl) (by kernel_rfl) (fun _ _ _ h => h) (by first | (go_simp; done) | rfl) (by rintro w' ⟨s0, s1, s2, s3, s4⟩; go_simp; (try omega)) hS ?_
  try simp only [Act.put, List.setIfInBounds_toArray, List.set_cons_zero, List.set_cons_succ]
  refine GR.one (i := 16) (by kernel_rfl) rfl (fun K hK => ?_)
  go_simp
  go_at_call 8
  refine (D3.out _).mono ?_
  rintro e x3 ⟨rfl, hb⟩
  replace XD := hide (XD.out.up hb)
  clear hb c0 c1 c2 c3 c4
  obtain ⟨c0, c1, c2, c3, c4⟩ := KS.out _ XD.out
  clear hS
  have hS : ((fun w' => w'.cell? ⟨w.heap.size, 0, none⟩ = some (.int .i64 q) ∧ w'.cell? ⟨w.heap.size, 1, none⟩ = some (.int .i64 v) ∧ w'.cell? ⟨w.heap.size, 2, none⟩ = some (.int .i64 a) ∧ w'.cell? ⟨w.heap.size, 3, none⟩ = some (.int .i64 b) ∧ w'.cell? ⟨w.heap.size, 4, none⟩ = some (.int .i64 n))) x3 := ⟨c0, c1, c2, c3, c4⟩
  refine hK.out _ _ hS ?_
  clear hK K
  try simp only [Act.put, List.setIfInBounds_toArray, List.set_cons_zero, List.set_cons_succ]
  refine GR.take (i := 17) (v := (.string (ByteArray.mk (Lib.itoa q).toArray ++ ByteArray.mk #[32, 97, 116, 32] ++ ByteArray.mk (Lib.itoa v).toArray ++ ByteArray.mk #[32, 105, 110, 32] ++ ByteArray.mk (Lib.itoa a).toArray ++ ByteArray.mk #[46, 46] ++ ByteArray.mk (Lib.itoa b).toArray))) rfl (by kernel_rfl) (by kernel_rfl) (by kernel_rfl) (fun _ _ _ h => h) (by first | (go_simp; done) | rfl) (by rintro w' ⟨s0, s1, s2, s3, s4⟩; go_simp; (try omega)) hS ?_
  try simp only [Act.put, List.setIfInBounds_toArray, List.set_cons_zero, List.set_cons_succ]
  refine GR.take (i := 18) (v := (.string (ByteArray.mk (Lib.itoa q).toArray ++ ByteArray.mk #[32, 97, 116, 32] ++ ByteArray.mk (Lib.itoa v).toArray ++ ByteArray.mk #[32, 105, 110, 32] ++ ByteArray.mk (Lib.itoa a).toArray ++ ByteArray.mk #[46, 46] ++ ByteArray.mk (Lib.itoa b).toArray ++ ByteArray.mk #[32, 115, 119, 97, 112, 115, 32]))) rfl (by kernel_rfl) (by kernel_rfl) (by kernel_rfl) (fun _ _ _ h => h) (by first | (go_simp; done) | rfl) (by rintro w' ⟨s0, s1, s2, s3, s4⟩; go_simp; (try omega)) hS ?_
  try simp only [Act.put, List.setIfInBounds_toArray, List.set_cons_zero, List.set_cons_succ]
  refine GR.one (i := 21) (by kernel_rfl) rfl (fun K hK => ?_)
  go_simp
  go_at_call 8
  refine (D4.out _).mono ?_
  rintro e x4 ⟨rfl, hb⟩
  replace XD := hide (XD.out.up hb)
  clear hb c0 c1 c2 c3 c4
  obtain ⟨c0, c1, c2, c3, c4⟩ := KS.out _ XD.out
  clear hS
  have hS : ((fun w' => w'.cell? ⟨w.heap.size, 0, none⟩ = some (.int .i64 q) ∧ w'.cell? ⟨w.heap.size, 1, none⟩ = some (.int .i64 v) ∧ w'.cell? ⟨w.heap.size, 2, none⟩ = some (.int .i64 a) ∧ w'.cell? ⟨w.heap.size, 3, none⟩ = some (.int .i64 b) ∧ w'.cell? ⟨w.heap.size, 4, none⟩ = some (.int .i64 n))) x4 := ⟨c0, c1, c2, c3, c4⟩
  refine hK.out _ _ hS ?_
  clear hK K
  try simp only [Act.put, List.setIfInBounds_toArray, List.set_cons_zero, List.set_cons_succ]
  refine GR.take (i := 22) (v := (.string (ByteArray.mk (Lib.itoa q).toArray ++ ByteArray.mk #[32, 97, 116, 32] ++ ByteArray.mk (Lib.itoa v).toArray ++ ByteArray.mk #[32, 105, 110, 32] ++ ByteArray.mk (Lib.itoa a).toArray ++ ByteArray.mk #[46, 46] ++ ByteArray.mk (Lib.itoa b).toArray ++ ByteArray.mk #[32, 115, 119, 97, 112, 115, 32] ++ ByteArray.mk (Lib.itoa n).toArray))) rfl (by kernel_rfl) (by kernel_rfl) (by kernel_rfl) (fun _ _ _ h => h) (by first | (go_simp; done) | rfl) (by rintro w' ⟨s0, s1, s2, s3, s4⟩; go_simp; (try omega)) hS ?_
  try simp only [Act.put, List.setIfInBounds_toArray, List.set_cons_zero, List.set_cons_succ]
  refine GR.one (i := 23) (by kernel_rfl) rfl (fun K hK => ?_)
  go_simp
  refine hK.out _ _ hS ?_
  clear hK K
  try simp only [Act.put, List.setIfInBounds_toArray, List.set_cons_zero, List.set_cons_succ]
  refine GR.done (by kernel_rfl) ?_
  go_wp2_with fail
  go_ret
  exact ⟨by rw [hv.out, ← cg_str]; rfl, XD.out.below⟩

theorem boundC_yes (v : Int) (w : World) (h1 : -1000 ≤ v) (h2 : v ≤ 1000) : Calls Tryd.prog 9 #[.int .i64 v] w fun e w' => e = .returned (.bool true) ∧ w = w' := by
  go_enter Tryd.func9, Tryd.ntmps9
  go_wp2
  go_ret
  exact ⟨rfl, rfl⟩

theorem boundC_no (v : Int) (w : World) (h : v < -1000 ∨ 1000 < v) : Calls Tryd.prog 9 #[.int .i64 v] w fun e w' => e = .returned (.bool false) ∧ w = w' := by
  by_cases h1 : -1000 ≤ v
  · have h2 : decide (v ≤ 1000) = false := by simp; omega
    go_enter Tryd.func9, Tryd.ntmps9
    go_wp2
    go_ret
    exact ⟨rfl, rfl⟩
  · go_enter Tryd.func9, Tryd.ntmps9
    go_wp2
    go_ret
    exact ⟨rfl, rfl⟩

set_option maxHeartbeats 4000000 in
theorem iFmtC_out (q v a b n : Int) (w : World) (h : ¬((0 ≤ q ∧ q ≤ 29) ∧ (0 ≤ a ∧ a ≤ b ∧ b ≤ 64))) : Calls Tryd.prog 6 #[.agg #[.int .i64 q, .int .i64 v, .int .i64 a, .int .i64 b, .int .i64 n]] w (RetS w []) := by
  have X := hide (Kn.one w #[.int .i64 q, .int .i64 v, .int .i64 a, .int .i64 b, .int .i64 n] 25)
  obtain ⟨w1, hw1⟩ : ∃ w1, w1 = w.alloc (.cells #[.int .i64 q, .int .i64 v, .int .i64 a, .int .i64 b, .int .i64 n] 25) := ⟨_, rfl⟩
  rw [← hw1] at X
  have c0 : w1.cell? ⟨w.heap.size, 0, none⟩ = some (.int .i64 q) := X.out.cell 0 0 rfl rfl
  have c1 : w1.cell? ⟨w.heap.size, 1, none⟩ = some (.int .i64 v) := X.out.cell 0 1 rfl rfl
  have c2 : w1.cell? ⟨w.heap.size, 2, none⟩ = some (.int .i64 a) := X.out.cell 0 2 rfl rfl
  have c3 : w1.cell? ⟨w.heap.size, 3, none⟩ = some (.int .i64 b) := X.out.cell 0 3 rfl rfl
  have c4 : w1.cell? ⟨w.heap.size, 4, none⟩ = some (.int .i64 n) := X.out.cell 0 4 rfl rfl
  rw [hw1] at c0 c1 c2 c3 c4
  by_cases h1 : 0 ≤ q <;> by_cases h2 : q < 30 <;> by_cases h3 : 0 ≤ a <;> by_cases h4 : a ≤ b <;> by_cases h5 : b ≤ 64
  all_goals first
    | (exfalso; omega)
    | skip
  all_goals
    clear h
    first | (have t1 : decide (0 ≤ q) = true := decide_eq_true h1) | (have t1 : decide (0 ≤ q) = false := decide_eq_false h1)
    clear h1
    first | (have t2 : decide (q < 30) = true := decide_eq_true h2) | (have t2 : decide (q < 30) = false := decide_eq_false h2)
    clear h2
    first | (have t3 : decide (0 ≤ a) = true := decide_eq_true h3) | (have t3 : decide (0 ≤ a) = false := decide_eq_false h3)
    clear h3
    first | (have t4 : decide (a ≤ b) = true := decide_eq_true h4) | (have t4 : decide (a ≤ b) = false := decide_eq_false h4)
    clear h4
    first | (have t5 : decide (b ≤ 64) = true := decide_eq_true h5) | (have t5 : decide (b ≤ 64) = false := decide_eq_false h5)
    clear h5
    go_enter Tryd.func6, Tryd.ntmps6
    go_wp2_with fail
    go_ret
    exact ⟨rfl, by rw [← hw1]; exact X.out.below⟩

set_option maxHeartbeats 8000000 in
theorem iFmtC_any (q v a b n : Int) (w : World) (ht : Tab w) : Calls Tryd.prog 6 #[.agg #[.int .i64 q, .int .i64 v, .int .i64 a, .int .i64 b, .int .i64 n]] w (RetS w (fmtC q v a b n)) := by
  by_cases h : ¬((0 ≤ q ∧ q ≤ 29) ∧ (0 ≤ a ∧ a ≤ b ∧ b ≤ 64))
  · have e : fmtC q v a b n = [] := if_neg (fun h2 => h ⟨h2.1, h2.2.2.1.1, h2.2.2.1.2, h2.2.2.2.1⟩)
    rw [e]
    exact iFmtC_out q v a b n w h
  have h : (0 ≤ q ∧ q ≤ 29) ∧ (0 ≤ a ∧ a ≤ b ∧ b ≤ 64) := Classical.not_not.1 h
  obtain ⟨⟨h1, h2⟩, h3, h4, h5⟩ := h
  have HT := hide ht
  clear ht
  have t1 : decide (0 ≤ q) = true := decide_eq_true h1
  have t2 : decide (q < 30) = true := decide_eq_true (by omega)
  have t3 : decide (0 ≤ a) = true := decide_eq_true h3
  have t4 : decide (a ≤ b) = true := decide_eq_true h4
  have t5 : decide (b ≤ 64) = true := decide_eq_true h5
  have X := hide (Kn.one w #[.int .i64 q, .int .i64 v, .int .i64 a, .int .i64 b, .int .i64 n] 25)
  obtain ⟨w1, hw1⟩ : ∃ w1, w1 = w.alloc (.cells #[.int .i64 q, .int .i64 v, .int .i64 a, .int .i64 b, .int .i64 n] 25) := ⟨_, rfl⟩
  rw [← hw1] at X
  have c0 : w1.cell? ⟨w.heap.size, 0, none⟩ = some (.int .i64 q) := X.out.cell 0 0 rfl rfl
  have c1 : w1.cell? ⟨w.heap.size, 1, none⟩ = some (.int .i64 v) := X.out.cell 0 1 rfl rfl
  have c2 : w1.cell? ⟨w.heap.size, 2, none⟩ = some (.int .i64 a) := X.out.cell 0 2 rfl rfl
  have c3 : w1.cell? ⟨w.heap.size, 3, none⟩ = some (.int .i64 b) := X.out.cell 0 3 rfl rfl
  have c4 : w1.cell? ⟨w.heap.size, 4, none⟩ = some (.int .i64 n) := X.out.cell 0 4 rfl rfl
  rw [hw1] at c0 c1 c2 c3 c4
  go_enter Tryd.func6, Tryd.ntmps6
  go_wp2_with fail
  rw [← hw1]
  rw [← hw1] at c0 c1 c2 c3 c4
  clear hw1
  by_cases hv : ¬(-1000 ≤ v ∧ v ≤ 1000)
  · have e := hide (show fmtC q v a b n = [] from if_neg (fun h2 => hv h2.2.1))
    have CB := hide (fun (W : World) => boundC_no v W (by omega))
    go_at_call 9
    refine (CB.out _).mono ?_
    rintro e wq ⟨rfl, rfl⟩
    go_wp2_with fail
    go_ret
    exact ⟨by rw [e.out]; rfl, X.out.below⟩
  have hv : -1000 ≤ v ∧ v ≤ 1000 := Classical.not_not.1 hv
  have CB := hide (fun (W : World) => boundC_yes v W hv.1 hv.2)
  go_at_call 9
  refine (CB.out _).mono ?_
  rintro e wq ⟨rfl, rfl⟩
  by_cases h6 : n < 0
  · have e := hide (show fmtC q v a b n = [] from if_neg (fun h2 => by have := h2.2.2.2.2.1; omega))
    have t6 : decide (n < 0) = true := decide_eq_true h6
    go_wp2_with fail
    go_ret
    exact ⟨by rw [e.out]; rfl, X.out.below⟩
  have t6 : decide (n < 0) = false := decide_eq_false h6
  by_cases h7 : 64 < n
  · have e := hide (show fmtC q v a b n = [] from if_neg (fun h2 => by have := h2.2.2.2.2.2; omega))
    have t7 : decide (64 < n) = true := decide_eq_true h7
    go_wp2_with fail
    go_ret
    exact ⟨by rw [e.out]; rfl, X.out.below⟩
  have t7 : decide (64 < n) = false := decide_eq_false h7
  have hv0 := hide (show fmtC q v a b n = _ from if_pos ⟨⟨h1, h2⟩, hv, ⟨h3, h4⟩, h5, by omega, by omega⟩)
  have l0 := itoa_len q (by omega) (by omega)
  have l1 := itoa_len v (by omega) (by omega)
  have l2 := itoa_len a (by omega) (by omega)
  have l3 := itoa_len b (by omega) (by omega)
  have l4 := itoa_len n (by omega) (by omega)
  have hr : fmtR a b = Lib.itoa a ++ [46, 46] ++ Lib.itoa b := if_pos (isR_yes ⟨by omega, by omega, by omega, by omega⟩)
  have CR := hide (fun (W : World) (ht : Tab W) => iFmtR_any a b W ht)
  rw [hr] at CR
  have lr : (Lib.itoa a ++ [46, 46] ++ Lib.itoa b).length ≤ 44 := by simp; omega
  have D0 := hide (fun (W : World) (ht : Tab W) => iFI_any q W (by omega) (by omega) ht)
  have D1 := hide (fun (W : World) (ht : Tab W) => iFI_any v W (by omega) (by omega) ht)
  have D4 := hide (fun (W : World) (ht : Tab W) => iFI_any n W (by omega) (by omega) ht)
  obtain ⟨rr, hrr⟩ : ∃ x, x = Lib.itoa a ++ [46, 46] ++ Lib.itoa b := ⟨_, rfl⟩
  rw [← hrr] at CR lr
  have HRR := hide hrr
  clear hrr hr h1 h2 h3 h4 h5 h6 h7 hv l2 l3
  go_wp2_with fail
  go_at_call 10
  refine (CR.out _ (HT.out.stays X.out.below (Nat.le_refl _))).mono ?_
  rintro e wr ⟨rfl, hb⟩
  have XD := hide (X.out.up hb)
  have KS := hide (fun (W : World) (h : Kn w W [(w.heap.size, #[.int .i64 q, .int .i64 v, .int .i64 a, .int .i64 b, .int .i64 n], 25)]) => show W.cell? ⟨w.heap.size, 0, none⟩ = some (.int .i64 q) ∧ W.cell? ⟨w.heap.size, 1, none⟩ = some (.int .i64 v) ∧ W.cell? ⟨w.heap.size, 2, none⟩ = some (.int .i64 a) ∧ W.cell? ⟨w.heap.size, 3, none⟩ = some (.int .i64 b) ∧ W.cell? ⟨w.heap.size, 4, none⟩ = some (.int .i64 n) from ⟨h.cell 0 0 rfl rfl, h.cell 0 1 rfl rfl, h.cell 0 2 rfl rfl, h.cell 0 3 rfl rfl, h.cell 0 4 rfl rfl⟩)
  clear c0 c1 c2 c3 c4 X hb
  obtain ⟨c0, c1, c2, c3, c4⟩ := KS.out _ XD.out
  go_wp2_with fail
  replace XD := hide XD.out.drew
  clear c0 c1 c2 c3 c4
  obtain ⟨c0, c1, c2, c3, c4⟩ := KS.out _ XD.out
  refine GR.region (S := (fun w' => w'.cell? ⟨w.heap.size, 0, none⟩ = some (.int .i64 q) ∧ w'.cell? ⟨w.heap.size, 1, none⟩ = some (.int .i64 v) ∧ w'.cell? ⟨w.heap.size, 2, none⟩ = some (.int .i64 a) ∧ w'.cell? ⟨w.heap.size, 3, none⟩ = some (.int .i64 b) ∧ w'.cell? ⟨w.heap.size, 4, none⟩ = some (.int .i64 n))) (n := 17) (by kernel_rfl) rfl ⟨c0, c1, c2, c3, c4⟩ (fun hS => ?_)
  refine GR.take (i := 0) (v := (.pointer (some ⟨w.heap.size, 0, none⟩))) rfl (by kernel_rfl) (by kernel_rfl) (by kernel_rfl) (fun _ _ _ h => h) (by first | (go_simp; done) | rfl) (by rintro w' ⟨s0, s1, s2, s3, s4⟩; go_simp) hS ?_
  try simp only [Act.put, List.setIfInBounds_toArray, List.set_cons_zero, List.set_cons_succ]
  refine GR.take (i := 1) (v := (.int .i64 q)) rfl (by kernel_rfl) (by kernel_rfl) (by kernel_rfl) (fun _ _ _ h => h) (by first | (go_simp; done) | rfl) (by rintro w' ⟨s0, s1, s2, s3, s4⟩; go_simp) hS ?_
  try simp only [Act.put, List.setIfInBounds_toArray, List.set_cons_zero, List.set_cons_succ]
  refine GR.take (i := 4) (v := (.pointer (some ⟨w.heap.size, 1, none⟩))) rfl (by kernel_rfl) (by kernel_rfl) (by kernel_rfl) (fun _ _ _ h => h) (by first | (go_simp; done) | rfl) (by rintro w' ⟨s0, s1, s2, s3, s4⟩; go_simp) hS ?_
  try simp only [Act.put, List.setIfInBounds_toArray, List.set_cons_zero, List.set_cons_succ]
  refine GR.take (i := 5) (v := (.int .i64 v)) rfl (by kernel_rfl) (by kernel_rfl) (by kernel_rfl) (fun _ _ _ h => h) (by first | (go_simp; done) | rfl) (by rintro w' ⟨s0, s1, s2, s3, s4⟩; go_simp) hS ?_
  try simp only [Act.put, List.setIfInBounds_toArray, List.set_cons_zero, List.set_cons_succ]
  refine GR.take (i := 12) (v := (.pointer (some ⟨w.heap.size, 4, none⟩))) rfl (by kernel_rfl) (by kernel_rfl) (by kernel_rfl) (fun _ _ _ h => h) (by first | (go_simp; done) | rfl) (by rintro w' ⟨s0, s1, s2, s3, s4⟩; go_simp) hS ?_
  try simp only [Act.put, List.setIfInBounds_toArray, List.set_cons_zero, List.set_cons_succ]
  refine GR.take (i := 13) (v := (.int .i64 n)) rfl (by kernel_rfl) (by kernel_rfl) (by kernel_rfl) (fun _ _ _ h => h) (by first | (go_simp; done) | rfl) (by rintro w' ⟨s0, s1, s2, s3, s4⟩; go_simp) hS ?_
  try simp only [Act.put, List.setIfInBounds_toArray, List.set_cons_zero, List.set_cons_succ]
  refine GR.take (i := 9) (v := (.string (ByteArray.mk rr.toArray))) rfl (by kernel_rfl) (by kernel_rfl) (by kernel_rfl) (fun _ _ _ h => h) (by first | (go_simp; done) | rfl) (by rintro w' ⟨s0, s1, s2, s3, s4⟩; go_simp; (try omega)) hS ?_
  try simp only [Act.put, List.setIfInBounds_toArray, List.set_cons_zero, List.set_cons_succ]
  refine GR.one (i := 2) (by kernel_rfl) rfl (fun K hK => ?_)
  go_simp
  go_at_call 11
  refine (D0.out _ (HT.out.stays XD.out.below (Nat.le_refl _))).mono ?_
  rintro e x0 ⟨rfl, hb⟩
  replace XD := hide (XD.out.up hb)
  clear hb c0 c1 c2 c3 c4
  obtain ⟨c0, c1, c2, c3, c4⟩ := KS.out _ XD.out
  clear hS
  have hS : ((fun w' => w'.cell? ⟨w.heap.size, 0, none⟩ = some (.int .i64 q) ∧ w'.cell? ⟨w.heap.size, 1, none⟩ = some (.int .i64 v) ∧ w'.cell? ⟨w.heap.size, 2, none⟩ = some (.int .i64 a) ∧ w'.cell? ⟨w.heap.size, 3, none⟩ = some (.int .i64 b) ∧ w'.cell? ⟨w.heap.size, 4, none⟩ = some (.int .i64 n))) x0 := ⟨c0, c1, c2, c3, c4⟩
  refine hK.out _ _ hS ?_
  clear hK K
  try simp only [Act.put, List.setIfInBounds_toArray, List.set_cons_zero, List.set_cons_succ]
  refine GR.take (i := 3) (v := (.string (ByteArray.mk (Lib.itoa q).toArray ++ ByteArray.mk #[32, 97, 116, 32]))) rfl (by kernel_rfl) (by kernel_rfl) (by kernel_rfl) (fun _ _ _ h => h) (by first | (go_simp; done) | rfl) (by rintro w' ⟨s0, s1, s2, s3, s4⟩; go_simp; (try omega)) hS ?_
  try simp only [Act.put, List.setIfInBounds_toArray, List.set_cons_zero, List.set_cons_succ]
  refine GR.one (i := 6) (by kernel_rfl) rfl (fun K hK => ?_)
  go_simp
  go_at_call 11
  refine (D1.out _ (HT.out.stays XD.out.below (Nat.le_refl _))).mono ?_
  rintro e x1 ⟨rfl, hb⟩
  replace XD := hide (XD.out.up hb)
  clear hb c0 c1 c2 c3 c4
  obtain ⟨c0, c1, c2, c3, c4⟩ := KS.out _ XD.out
  clear hS
  have hS : ((fun w' => w'.cell? ⟨w.heap.size, 0, none⟩ = some (.int .i64 q) ∧ w'.cell? ⟨w.heap.size, 1, none⟩ = some (.int .i64 v) ∧ w'.cell? ⟨w.heap.size, 2, none⟩ = some (.int .i64 a) ∧ w'.cell? ⟨w.heap.size, 3, none⟩ = some (.int .i64 b) ∧ w'.cell? ⟨w.heap.size, 4, none⟩ = some (.int .i64 n))) x1 := ⟨c0, c1, c2, c3, c4⟩
  refine hK.out _ _ hS ?_
  clear hK K
  try simp only [Act.put, List.setIfInBounds_toArray, List.set_cons_zero, List.set_cons_succ]
  refine GR.take (i := 7) (v := (.string (ByteArray.mk (Lib.itoa q).toArray ++ ByteArray.mk #[32, 97, 116, 32] ++ ByteArray.mk (Lib.itoa v).toArray))) rfl (by kernel_rfl) (by kernel_rfl) (by kernel_rfl) (fun _ _ _ h => h) (by first | (go_simp; done) | rfl) (by rintro w' ⟨s0, s1, s2, s3, s4⟩; go_simp; (try omega)) hS ?_
  try simp only [Act.put, List.setIfInBounds_toArray, List.set_cons_zero, List.set_cons_succ]
  refine GR.take (i := 8) (v := (.string (ByteArray.mk (Lib.itoa q).toArray ++ ByteArray.mk #[32, 97, 116, 32] ++ ByteArray.mk (Lib.itoa v).toArray ++ ByteArray.mk #[32, 105, 110, 32]))) rfl (by kernel_rfl) (by kernel_rfl) (by kernel_rfl) (fun _ _ _ h => h) (by first | (go_simp; done) | rfl) (by rintro w' ⟨s0, s1, s2, s3, s4⟩; go_simp; (try omega)) hS ?_
  try simp only [Act.put, List.setIfInBounds_toArray, List.set_cons_zero, List.set_cons_succ]
  refine GR.take (i := 10) (v := (.string (ByteArray.mk (Lib.itoa q).toArray ++ ByteArray.mk #[32, 97, 116, 32] ++ ByteArray.mk (Lib.itoa v).toArray ++ ByteArray.mk #[32, 105, 110, 32] ++ ByteArray.mk rr.toArray))) rfl (by kernel_rfl) (by kernel_rfl) (by kernel_rfl) (fun _ _ _ h => h) (by first | (go_simp; done) | rfl) (by rintro w' ⟨s0, s1, s2, s3, s4⟩; go_simp; (try omega)) hS ?_
  try simp only [Act.put, List.setIfInBounds_toArray, List.set_cons_zero, List.set_cons_succ]
  refine GR.take (i := 11) (v := (.string (ByteArray.mk (Lib.itoa q).toArray ++ ByteArray.mk #[32, 97, 116, 32] ++ ByteArray.mk (Lib.itoa v).toArray ++ ByteArray.mk #[32, 105, 110, 32] ++ ByteArray.mk rr.toArray ++ ByteArray.mk #[32, 115, 119, 97, 112, 115, 32]))) rfl (by kernel_rfl) (by kernel_rfl) (by kernel_rfl) (fun _ _ _ h => h) (by first | (go_simp; done) | rfl) (by rintro w' ⟨s0, s1, s2, s3, s4⟩; go_simp; (try omega)) hS ?_
  try simp only [Act.put, List.setIfInBounds_toArray, List.set_cons_zero, List.set_cons_succ]
  refine GR.one (i := 14) (by kernel_rfl) rfl (fun K hK => ?_)
  go_simp
  go_at_call 11
  refine (D4.out _ (HT.out.stays XD.out.below (Nat.le_refl _))).mono ?_
  rintro e x4 ⟨rfl, hb⟩
  replace XD := hide (XD.out.up hb)
  clear hb c0 c1 c2 c3 c4
  obtain ⟨c0, c1, c2, c3, c4⟩ := KS.out _ XD.out
  clear hS
  have hS : ((fun w' => w'.cell? ⟨w.heap.size, 0, none⟩ = some (.int .i64 q) ∧ w'.cell? ⟨w.heap.size, 1, none⟩ = some (.int .i64 v) ∧ w'.cell? ⟨w.heap.size, 2, none⟩ = some (.int .i64 a) ∧ w'.cell? ⟨w.heap.size, 3, none⟩ = some (.int .i64 b) ∧ w'.cell? ⟨w.heap.size, 4, none⟩ = some (.int .i64 n))) x4 := ⟨c0, c1, c2, c3, c4⟩
  refine hK.out _ _ hS ?_
  clear hK K
  try simp only [Act.put, List.setIfInBounds_toArray, List.set_cons_zero, List.set_cons_succ]
  refine GR.take (i := 15) (v := (.string (ByteArray.mk (Lib.itoa q).toArray ++ ByteArray.mk #[32, 97, 116, 32] ++ ByteArray.mk (Lib.itoa v).toArray ++ ByteArray.mk #[32, 105, 110, 32] ++ ByteArray.mk rr.toArray ++ ByteArray.mk #[32, 115, 119, 97, 112, 115, 32] ++ ByteArray.mk (Lib.itoa n).toArray))) rfl (by kernel_rfl) (by kernel_rfl) (by kernel_rfl) (fun _ _ _ h => h) (by first | (go_simp; done) | rfl) (by rintro w' ⟨s0, s1, s2, s3, s4⟩; go_simp; (try omega)) hS ?_
  try simp only [Act.put, List.setIfInBounds_toArray, List.set_cons_zero, List.set_cons_succ]
  refine GR.one (i := 16) (by kernel_rfl) rfl (fun K hK => ?_)
  go_simp
  refine hK.out _ _ hS ?_
  clear hK K
  try simp only [Act.put, List.setIfInBounds_toArray, List.set_cons_zero, List.set_cons_succ]
  refine GR.done (by kernel_rfl) ?_
  go_wp2_with fail
  go_ret
  exact ⟨by rw [hv0.out, ← HRR.out, ← cg_str2]; rfl, XD.out.below⟩

theorem sFmtC_any (q v a b n : Int) (w : World) : Calls Tryd.prog 4 #[.agg #[.int .i64 q, .int .i64 v, .int .i64 a, .int .i64 b, .int .i64 n]] w (RetS w (fmtC q v a b n)) := by
  by_cases h : cgOk q v a b n
  · exact sFmtC_yes q v a b n w h
  · have e : fmtC q v a b n = [] := if_neg h
    rw [e]
    exact sFmtC_no q v a b n w h

end Go.Proofs.YtdjhnamofmcmjaaDoor
