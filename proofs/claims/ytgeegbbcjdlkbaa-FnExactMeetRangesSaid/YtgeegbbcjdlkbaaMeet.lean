/- Ranges: what MeetRanges returns, of the reference and of the program (promise 2). -/
import Derived.Test.YtgeegbbcjdlkbaaRng2
import Derived.Test.YtgeegbbcjdlkbaaBx
namespace Go.Proofs.Ytgeegbbcjdlkbaa
open Go.RowKit Go.ChangeShapes
set_option linter.unusedSimpArgs false
set_option linter.unusedVariables false
set_option maxRecDepth 100000

/-- What two ranges have in common. -/
def meF (a b c d : Int) : Int := if isR a b = true ∧ isR c d = true then max a c else 0
def meT (a b c d : Int) : Int := if isR a b = true ∧ isR c d = true then max (max a c) (min b d) else 0

theorem meet_no {a b c d : Int} (h : isR a b = false ∨ isR c d = false) : meF a b c d = 0 ∧ meT a b c d = 0 := by
  unfold meF meT
  rcases h with h | h <;> simp [h]

theorem meet_yes {a b c d x y : Int} (h : isR a b = true) (k : isR c d = true) (hx : x = max a c) (hy : y = max x (min b d)) : meF a b c d = x ∧ meT a b c d = y := by
  subst hx; subst hy
  unfold meF meT
  simp [h, k]

/-- The result's variable, written, is what is returned. -/
theorem rg_end {w W : World} {os : List (Array Value × TypeId)} {p q : Value} {t : TypeId} (X : Bx w W os) (i : Nat) (h : os[i]? = some (#[p, q], t)) :
    Below w.heap.size w W ∧ W.cell? ⟨w.heap.size + i, 0, none⟩ = some p ∧ W.cell? ⟨w.heap.size + i, 1, none⟩ = some q := ⟨X.below, X.cell i 0 h rfl, X.cell i 1 h rfl⟩

section
variable (a b c d : Int) (w : World)
/-- The blocks that MeetRanges makes at once. -/
def meB (r s : Int) : List (Array Value × TypeId) := [(#[.int .i64 a, .int .i64 b], 25), (#[.int .i64 c, .int .i64 d], 25), (#[.int .i64 r, .int .i64 s], 25)]
end

/-- MeetRanges' frame, once its blocks are made. -/
theorem me_facts {a b c d r s : Int} {w W : World} (X : Bx w W (meB a b c d r s)) :
    W.cell? ⟨w.heap.size, 0, none⟩ = some (.int .i64 a) ∧ W.cell? ⟨w.heap.size, 1, none⟩ = some (.int .i64 b) ∧ W.cell? ⟨w.heap.size + 1, 0, none⟩ = some (.int .i64 c) ∧ W.cell? ⟨w.heap.size + 1, 1, none⟩ = some (.int .i64 d) ∧
    W.cell? ⟨w.heap.size + 1 + 1, 0, none⟩ = some (.int .i64 r) ∧ W.cell? ⟨w.heap.size + 1 + 1, 1, none⟩ = some (.int .i64 s) ∧ W.frozen? ⟨w.heap.size + 1 + 1, 0, none⟩ = false ∧ W.frozen? ⟨w.heap.size + 1 + 1, 1, none⟩ = false ∧ w.heap.size + 1 + 1 < W.heap.size :=
  ⟨X.cell 0 0 rfl rfl, X.cell 0 1 rfl rfl, X.cell 1 0 rfl rfl, X.cell 1 1 rfl rfl, X.cell 2 0 rfl rfl, X.cell 2 1 rfl rfl, X.free 2 0 rfl, X.free 2 1 rfl, by have := X.size; simp [meB] at this; omega⟩

theorem me_set {a b c d : Int} {w W : World} (X : Bx w W (meB a b c d 0 0)) (r s : Int) : Bx w ((W.setCell ⟨w.heap.size + 1 + 1, 0, none⟩ (.int .i64 r)).setCell ⟨w.heap.size + 1 + 1, 1, none⟩ (.int .i64 s)) (meB a b c d r s) :=
  (X.set 2 0 rfl (.int .i64 r)).set 2 1 rfl (.int .i64 s)

theorem me_out {a b c d : Int} {w W : World} (X : Bx w W (meB a b c d 0 0)) (r s : Int) (o : Obj) : Bx w (((W.setCell ⟨w.heap.size + 1 + 1, 0, none⟩ (.int .i64 r)).setCell ⟨w.heap.size + 1 + 1, 1, none⟩ (.int .i64 s)).alloc o) (meB a b c d r s) :=
  (me_set X r s).up (below1 _ _)

set_option maxHeartbeats 1000000 in
theorem sMeet_no1 (a b c d : Int) (w : World) (hr : isR a b = false) : Calls Try.prog 12 #[.agg #[.int .i64 a, .int .i64 b], .agg #[.int .i64 c, .int .i64 d]] w (RetRg w 0 0) := by
  have X1 := hide (Bx.three w #[.int .i64 a, .int .i64 b] #[.int .i64 c, .int .i64 d] #[.int .i64 0, .int .i64 0] 25 25 25)
  obtain ⟨w1, hw1⟩ : ∃ w1, w1 = ((w.alloc (.cells #[.int .i64 a, .int .i64 b] 25)).alloc (.cells #[.int .i64 c, .int .i64 d] 25)).alloc (.cells #[.int .i64 0, .int .i64 0] 25) := ⟨_, rfl⟩
  rw [← hw1] at X1
  obtain ⟨c0, c1, -⟩ := me_facts (X1.out)
  have HR := hide hr
  clear hr
  go_enter Try.func12, Try.ntmps12
  go_wp2_with fail
  rw [← hw1]
  clear hw1
  go_wp2_with fail
  refine (sIsR_at HR.out _).mono ?_
  rintro e wa ⟨rfl, hb⟩
  have X2 := hide (X1.out.up hb)
  obtain ⟨-, -, -, -, r0, r1, f0, f1, hz⟩ := me_facts X2.out
  clear hb
  go_wp2_with fail
  have X3 := me_set X2.out 0 0
  obtain ⟨W', hW'⟩ : ∃ W', W' = (wa.setCell ⟨w.heap.size + 1 + 1, 0, none⟩ (.int .i64 0)).setCell ⟨w.heap.size + 1 + 1, 1, none⟩ (.int .i64 0) := ⟨_, rfl⟩
  rw [← hW'] at X3 ⊢
  obtain ⟨-, -, -, -, q0, q1, -⟩ := me_facts X3
  exact bodyPost_ret (v := .agg #[.int .i64 0, .int .i64 0]) (by simp [results, Try.results12, go_sem, q0, q1]) rfl ⟨rfl, X3.below⟩

set_option maxHeartbeats 1000000 in
theorem iMeet_no1 (a b c d : Int) (w : World) (hr : isR a b = false) : Calls Try.prog 13 #[.agg #[.int .i64 a, .int .i64 b], .agg #[.int .i64 c, .int .i64 d]] w (RetRg w 0 0) := by
  have X1 := hide (Bx.three w #[.int .i64 a, .int .i64 b] #[.int .i64 c, .int .i64 d] #[.int .i64 0, .int .i64 0] 25 25 25)
  obtain ⟨w1, hw1⟩ : ∃ w1, w1 = ((w.alloc (.cells #[.int .i64 a, .int .i64 b] 25)).alloc (.cells #[.int .i64 c, .int .i64 d] 25)).alloc (.cells #[.int .i64 0, .int .i64 0] 25) := ⟨_, rfl⟩
  rw [← hw1] at X1
  obtain ⟨c0, c1, -⟩ := me_facts (X1.out)
  have HR := hide hr
  clear hr
  go_enter Try.func13, Try.ntmps13
  go_wp2_with fail
  rw [← hw1]
  clear hw1
  go_wp2_with fail
  refine (iIsR_is HR.out _).mono ?_
  rintro e wa ⟨rfl, hb⟩
  have X2 := hide (X1.out.up hb)
  obtain ⟨-, -, -, -, r0, r1, f0, f1, hz⟩ := me_facts X2.out
  clear hb
  go_wp2_with fail
  have X3 := me_set X2.out 0 0
  obtain ⟨W', hW'⟩ : ∃ W', W' = (wa.setCell ⟨w.heap.size + 1 + 1, 0, none⟩ (.int .i64 0)).setCell ⟨w.heap.size + 1 + 1, 1, none⟩ (.int .i64 0) := ⟨_, rfl⟩
  rw [← hW'] at X3 ⊢
  obtain ⟨-, -, -, -, q0, q1, -⟩ := me_facts X3
  exact bodyPost_ret (v := .agg #[.int .i64 0, .int .i64 0]) (by simp [results, Try.results13, go_sem, q0, q1]) rfl ⟨rfl, X3.below⟩

set_option maxHeartbeats 1000000 in
theorem sMeet_no2 (a b c d : Int) (w : World) (hr : isR a b = true) (hr2 : isR c d = false) : Calls Try.prog 12 #[.agg #[.int .i64 a, .int .i64 b], .agg #[.int .i64 c, .int .i64 d]] w (RetRg w 0 0) := by
  have X1 := hide (Bx.three w #[.int .i64 a, .int .i64 b] #[.int .i64 c, .int .i64 d] #[.int .i64 0, .int .i64 0] 25 25 25)
  obtain ⟨w1, hw1⟩ : ∃ w1, w1 = ((w.alloc (.cells #[.int .i64 a, .int .i64 b] 25)).alloc (.cells #[.int .i64 c, .int .i64 d] 25)).alloc (.cells #[.int .i64 0, .int .i64 0] 25) := ⟨_, rfl⟩
  rw [← hw1] at X1
  obtain ⟨c0, c1, -⟩ := me_facts (X1.out)
  have HR := hide hr
  have HR2 := hide hr2
  clear hr hr2
  go_enter Try.func12, Try.ntmps12
  go_wp2_with fail
  rw [← hw1]
  clear hw1
  go_wp2_with fail
  refine (sIsR_at HR.out _).mono ?_
  rintro e wa ⟨rfl, hb⟩
  have X2 := hide (X1.out.up hb)
  obtain ⟨-, -, d0, d1, -⟩ := me_facts X2.out
  clear hb c0 c1
  go_wp2_with fail
  refine (sIsR_at HR2.out _).mono ?_
  rintro e wb ⟨rfl, hb⟩
  have X3 := hide (X2.out.up hb)
  obtain ⟨-, -, -, -, r0, r1, f0, f1, hz⟩ := me_facts X3.out
  clear hb d0 d1
  go_wp2_with fail
  have X4 := me_set X3.out 0 0
  obtain ⟨W', hW'⟩ : ∃ W', W' = (wb.setCell ⟨w.heap.size + 1 + 1, 0, none⟩ (.int .i64 0)).setCell ⟨w.heap.size + 1 + 1, 1, none⟩ (.int .i64 0) := ⟨_, rfl⟩
  rw [← hW'] at X4 ⊢
  obtain ⟨-, -, -, -, q0, q1, -⟩ := me_facts X4
  exact bodyPost_ret (v := .agg #[.int .i64 0, .int .i64 0]) (by simp [results, Try.results12, go_sem, q0, q1]) rfl ⟨rfl, X4.below⟩

set_option maxHeartbeats 1000000 in
theorem iMeet_no2 (a b c d : Int) (w : World) (hr : isR a b = true) (hr2 : isR c d = false) : Calls Try.prog 13 #[.agg #[.int .i64 a, .int .i64 b], .agg #[.int .i64 c, .int .i64 d]] w (RetRg w 0 0) := by
  have X1 := hide (Bx.three w #[.int .i64 a, .int .i64 b] #[.int .i64 c, .int .i64 d] #[.int .i64 0, .int .i64 0] 25 25 25)
  obtain ⟨w1, hw1⟩ : ∃ w1, w1 = ((w.alloc (.cells #[.int .i64 a, .int .i64 b] 25)).alloc (.cells #[.int .i64 c, .int .i64 d] 25)).alloc (.cells #[.int .i64 0, .int .i64 0] 25) := ⟨_, rfl⟩
  rw [← hw1] at X1
  obtain ⟨c0, c1, -⟩ := me_facts (X1.out)
  have HR := hide hr
  have HR2 := hide hr2
  clear hr hr2
  go_enter Try.func13, Try.ntmps13
  go_wp2_with fail
  rw [← hw1]
  clear hw1
  go_wp2_with fail
  refine (iIsR_is HR.out _).mono ?_
  rintro e wa ⟨rfl, hb⟩
  have X2 := hide (X1.out.up hb)
  obtain ⟨-, -, d0, d1, -⟩ := me_facts X2.out
  clear hb c0 c1
  go_wp2_with fail
  refine (iIsR_is HR2.out _).mono ?_
  rintro e wb ⟨rfl, hb⟩
  have X3 := hide (X2.out.up hb)
  obtain ⟨-, -, -, -, r0, r1, f0, f1, hz⟩ := me_facts X3.out
  clear hb d0 d1
  go_wp2_with fail
  have X4 := me_set X3.out 0 0
  obtain ⟨W', hW'⟩ : ∃ W', W' = (wb.setCell ⟨w.heap.size + 1 + 1, 0, none⟩ (.int .i64 0)).setCell ⟨w.heap.size + 1 + 1, 1, none⟩ (.int .i64 0) := ⟨_, rfl⟩
  rw [← hW'] at X4 ⊢
  obtain ⟨-, -, -, -, q0, q1, -⟩ := me_facts X4
  exact bodyPost_ret (v := .agg #[.int .i64 0, .int .i64 0]) (by simp [results, Try.results13, go_sem, q0, q1]) rfl ⟨rfl, X4.below⟩

set_option maxHeartbeats 4000000 in
theorem sMeet_yes (a b c d x m y : Int) (w : World) (hr : isR a b = true) (hr2 : isR c d = true) (hx : a < c ∧ x = c ∨ c ≤ a ∧ x = a) (hm : b ≤ d ∧ m = b ∨ d < b ∧ m = d) (hy : x < m ∧ y = m ∨ m ≤ x ∧ y = x) :
    Calls Try.prog 12 #[.agg #[.int .i64 a, .int .i64 b], .agg #[.int .i64 c, .int .i64 d]] w (RetRg w x y) := by
  have X1 := hide (Bx.three w #[.int .i64 a, .int .i64 b] #[.int .i64 c, .int .i64 d] #[.int .i64 0, .int .i64 0] 25 25 25)
  obtain ⟨w1, hw1⟩ : ∃ w1, w1 = ((w.alloc (.cells #[.int .i64 a, .int .i64 b] 25)).alloc (.cells #[.int .i64 c, .int .i64 d] 25)).alloc (.cells #[.int .i64 0, .int .i64 0] 25) := ⟨_, rfl⟩
  rw [← hw1] at X1
  obtain ⟨c0, c1, -⟩ := me_facts (X1.out)
  have HR := hide hr
  have HR2 := hide hr2
  obtain ⟨l1, l2, l3, l4⟩ := isR_true hr
  obtain ⟨l5, l6, l7, l8⟩ := isR_true hr2
  clear hr hr2
  go_enter Try.func12, Try.ntmps12
  go_wp2_with fail
  rw [← hw1]
  clear hw1
  go_wp2_with fail
  refine (sIsR_at HR.out _).mono ?_
  rintro e wa ⟨rfl, hb⟩
  have X2 := hide (X1.out.up hb)
  obtain ⟨-, -, d0, d1, -⟩ := me_facts X2.out
  clear hb c0 c1
  go_wp2_with fail
  refine (sIsR_at HR2.out _).mono ?_
  rintro e wb ⟨rfl, hb⟩
  have X3 := hide (X2.out.up hb)
  obtain ⟨s0, s1, s2, s3, r0, r1, f0, f1, hz⟩ := me_facts X3.out
  clear hb d0 d1
  have Q0 := hide (fun r s o => (me_facts (me_out X3.out r s o)).2.2.2.2.1)
  have Q1 := hide (fun r s o => (me_facts (me_out X3.out r s o)).2.2.2.2.2.1)
  rcases hx with ⟨hx, rfl⟩ | ⟨hx, rfl⟩
  all_goals
    rcases hm with ⟨hm, rfl⟩ | ⟨hm, rfl⟩
    all_goals
      rcases hy with ⟨hy, rfl⟩ | ⟨hy, rfl⟩
      all_goals first
      | (exfalso; omega)
      | skip
      all_goals
        go_wp2_with fail
        have q0 := Q0.out
        have q1 := Q1.out
        exact bodyPost_ret (v := .agg #[.int .i64 _, .int .i64 _]) (by simp [results, Try.results12, go_sem, q0, q1]) rfl ⟨rfl, (me_out X3.out _ _ _).below⟩

set_option maxHeartbeats 4000000 in
theorem iMeet_yes (a b c d x m y : Int) (w : World) (hr : isR a b = true) (hr2 : isR c d = true) (hx : a < c ∧ x = c ∨ c ≤ a ∧ x = a) (hm : b ≤ d ∧ m = b ∨ d < b ∧ m = d) (hy : x < m ∧ y = m ∨ m ≤ x ∧ y = x) :
    Calls Try.prog 13 #[.agg #[.int .i64 a, .int .i64 b], .agg #[.int .i64 c, .int .i64 d]] w (RetRg w x y) := by
  have X1 := hide (Bx.three w #[.int .i64 a, .int .i64 b] #[.int .i64 c, .int .i64 d] #[.int .i64 0, .int .i64 0] 25 25 25)
  obtain ⟨w1, hw1⟩ : ∃ w1, w1 = ((w.alloc (.cells #[.int .i64 a, .int .i64 b] 25)).alloc (.cells #[.int .i64 c, .int .i64 d] 25)).alloc (.cells #[.int .i64 0, .int .i64 0] 25) := ⟨_, rfl⟩
  rw [← hw1] at X1
  obtain ⟨c0, c1, -⟩ := me_facts (X1.out)
  have HR := hide hr
  have HR2 := hide hr2
  obtain ⟨l1, l2, l3, l4⟩ := isR_true hr
  obtain ⟨l5, l6, l7, l8⟩ := isR_true hr2
  clear hr hr2
  go_enter Try.func13, Try.ntmps13
  go_wp2_with fail
  rw [← hw1]
  clear hw1
  go_wp2_with fail
  refine (iIsR_is HR.out _).mono ?_
  rintro e wa ⟨rfl, hb⟩
  have X2 := hide (X1.out.up hb)
  obtain ⟨-, -, d0, d1, -⟩ := me_facts X2.out
  clear hb c0 c1
  go_wp2_with fail
  refine (iIsR_is HR2.out _).mono ?_
  rintro e wb ⟨rfl, hb⟩
  have X3 := hide (X2.out.up hb)
  obtain ⟨s0, s1, s2, s3, r0, r1, f0, f1, hz⟩ := me_facts X3.out
  clear hb d0 d1
  rcases hx with ⟨hx, rfl⟩ | ⟨hx, rfl⟩
  all_goals
    rcases hm with ⟨hm, rfl⟩ | ⟨hm, rfl⟩
    all_goals
      go_wp2_with fail
      refine (lim_at _ _ _ y _ (.inr (.inr ⟨by omega, by omega, rfl⟩)) (by omega)).mono ?_
      rintro e wc ⟨rfl, hb⟩
      have X4 := hide (X3.out.up hb)
      clear hb s0 s1 s2 s3 r0 r1 f0 f1 hz
      obtain ⟨-, -, -, -, r0, r1, f0, f1, hz⟩ := me_facts X4.out
      go_wp2_with fail
      have q0 := fun r s => (me_facts (me_set X4.out r s)).2.2.2.2.1
      have q1 := fun r s => (me_facts (me_set X4.out r s)).2.2.2.2.2.1
      exact bodyPost_ret (v := .agg #[.int .i64 _, .int .i64 y]) (by simp [results, Try.results13, go_sem, q0, q1]) rfl ⟨rfl, (me_set X4.out _ _).below⟩

theorem sMeet_any (a b c d : Int) (w : World) : Calls Try.prog 12 #[.agg #[.int .i64 a, .int .i64 b], .agg #[.int .i64 c, .int .i64 d]] w (RetRg w (meF a b c d) (meT a b c d)) := by
  cases hr : isR a b
  · obtain ⟨e1, e2⟩ := meet_no (d := d) (c := c) (.inl hr)
    rw [e1, e2]; exact sMeet_no1 a b c d w hr
  · cases hr2 : isR c d
    · obtain ⟨e1, e2⟩ := meet_no (a := a) (b := b) (.inr hr2)
      rw [e1, e2]; exact sMeet_no2 a b c d w hr hr2
    · obtain ⟨e1, e2⟩ := meet_yes hr hr2 rfl rfl
      rw [e1, e2]; exact sMeet_yes a b c d _ (min b d) _ w hr hr2 (by omega) (by omega) (by omega)

theorem iMeet_any (a b c d : Int) (w : World) : Calls Try.prog 13 #[.agg #[.int .i64 a, .int .i64 b], .agg #[.int .i64 c, .int .i64 d]] w (RetRg w (meF a b c d) (meT a b c d)) := by
  cases hr : isR a b
  · obtain ⟨e1, e2⟩ := meet_no (d := d) (c := c) (.inl hr)
    rw [e1, e2]; exact iMeet_no1 a b c d w hr
  · cases hr2 : isR c d
    · obtain ⟨e1, e2⟩ := meet_no (a := a) (b := b) (.inr hr2)
      rw [e1, e2]; exact iMeet_no2 a b c d w hr hr2
    · obtain ⟨e1, e2⟩ := meet_yes hr hr2 rfl rfl
      rw [e1, e2]; exact iMeet_yes a b c d _ (min b d) _ w hr hr2 (by omega) (by omega) (by omega)

end Go.Proofs.Ytgeegbbcjdlkbaa
