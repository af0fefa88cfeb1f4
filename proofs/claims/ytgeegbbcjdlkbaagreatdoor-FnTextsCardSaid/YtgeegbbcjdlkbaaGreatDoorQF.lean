/- Several texts in one: Bx, Meet, Guard. -/
import Derived.Test.YtgeegbbcjdlkbaaGreatDoorKit
import Derived.Test.YtgeegbbcjdlkbaaGreatDoorRng2
import Derived.Deep.RegionHeld3
/- The blocks that a call makes at its beginning (its boxed parameters, its results' variables), kept in view while callees make memory; any program. -/
namespace Go.Proofs.YtgeegbbcjdlkbaaGreatDoor
open Go.RowKit
set_option linter.unusedSimpArgs false
set_option linter.unusedVariables false

/-- Since the call began (world w) nothing old has turned, and the first blocks that it made hold os. -/
structure Bx (w W : World) (os : List (Array Value × TypeId)) : Prop where
  below : Below w.heap.size w W
  size : w.heap.size + os.length ≤ W.heap.size
  at' : ∀ (i : Nat) (o : Array Value × TypeId), os[i]? = some o → W.heap[w.heap.size + i]? = some (.cells o.1 o.2 (0, 0))

theorem Bx.new (w : World) : Bx w w [] := ⟨Below.refl _ _, by simp, fun i o h => by simp at h⟩

theorem Bx.alloc {w W : World} {os : List (Array Value × TypeId)} (h : Bx w W os) (hs : W.heap.size = w.heap.size + os.length) (c : Array Value) (t : TypeId) : Bx w (W.alloc (.cells c t)) (os ++ [(c, t)]) := by
  refine ⟨h.below.alloc (by omega) _, by simp; omega, fun i o ho => ?_⟩
  by_cases hi : i < os.length
  · rw [List.getElem?_append_left hi] at ho
    rw [Below.heap_alloc _ _ _ (by omega)]
    exact h.at' i o ho
  · rw [List.getElem?_append_right (by omega)] at ho
    have hio : i = os.length := by
      by_cases e : i - os.length = 0
      · omega
      · rw [List.getElem?_eq_none (by simp; omega)] at ho
        cases ho
    subst hio
    simp at ho
    subst ho
    rw [← hs]
    exact heap_alloc_new W _

theorem Bx.one (w : World) (c : Array Value) (t : TypeId) : Bx w (w.alloc (.cells c t)) [(c, t)] := (Bx.new w).alloc (by simp) c t
theorem Bx.two (w : World) (c d : Array Value) (t u : TypeId) : Bx w ((w.alloc (.cells c t)).alloc (.cells d u)) [(c, t), (d, u)] := (Bx.one w c t).alloc (by simp) d u
theorem Bx.three (w : World) (c d e : Array Value) (t u v : TypeId) : Bx w (((w.alloc (.cells c t)).alloc (.cells d u)).alloc (.cells e v)) [(c, t), (d, u), (e, v)] := (Bx.two w c d t u).alloc (by simp) e v
theorem Bx.four (w : World) (c d e f : Array Value) (t u v x : TypeId) : Bx w ((((w.alloc (.cells c t)).alloc (.cells d u)).alloc (.cells e v)).alloc (.cells f x)) [(c, t), (d, u), (e, v), (f, x)] := (Bx.three w c d e t u v).alloc (by simp) f x

theorem Bx.up {w W W' : World} {os : List (Array Value × TypeId)} (h : Bx w W os) (hb : Below W.heap.size W W') : Bx w W' os :=
  ⟨h.below.trans (hb.mono h.below.size), Nat.le_trans h.size hb.size, fun i o ho => by
    have hi : i < os.length := (List.getElem?_eq_some_iff.1 ho).1
    rw [hb.block _ (by have := h.size; omega)]
    exact h.at' i o ho⟩

theorem Bx.drew {w W : World} {os : List (Array Value × TypeId)} (h : Bx w W os) : Bx w W.drew os := ⟨h.below.drew, h.size, h.at'⟩
theorem Bx.drewN {w W : World} {os : List (Array Value × TypeId)} (h : Bx w W os) (n : Nat) : Bx w (W.drewN n) os := ⟨below_drewN h.below n, h.size, h.at'⟩

theorem Bx.cell {w W : World} {os : List (Array Value × TypeId)} (h : Bx w W os) (i j : Nat) {c : Array Value} {t : TypeId} {x : Value} (ho : os[i]? = some (c, t)) (hx : c[j]? = some x) : W.cell? ⟨w.heap.size + i, j, none⟩ = some x := by
  rw [cell_of_row W (w.heap.size + i) j c t (0, 0) (h.at' i _ ho)]
  exact hx

theorem Bx.free {w W : World} {os : List (Array Value × TypeId)} (h : Bx w W os) (i j : Nat) {c : Array Value} {t : TypeId} (ho : os[i]? = some (c, t)) : W.frozen? ⟨w.heap.size + i, j, none⟩ = false :=
  frozen_of_row W (w.heap.size + i) j c t (h.at' i _ ho)

/-- A store into one of them. -/
theorem Bx.set {w W : World} {os : List (Array Value × TypeId)} (h : Bx w W os) (i j : Nat) {c : Array Value} {t : TypeId} (ho : os[i]? = some (c, t)) (u : Value) : Bx w (W.setCell ⟨w.heap.size + i, j, none⟩ u) (os.set i (c.setIfInBounds j u, t)) := by
  have hi : i < os.length := (List.getElem?_eq_some_iff.1 ho).1
  refine ⟨h.below.setCell (Nat.le_add_right _ _) u, by simpa using h.size, fun k o hk => ?_⟩
  by_cases hki : k = i
  · subst hki
    rw [List.getElem?_set_self hi] at hk
    obtain rfl := Option.some.inj hk
    exact heap_setCell_same W (w.heap.size + k) j c t u (h.at' k _ ho)
  · rw [List.getElem?_set_ne (fun e => hki e.symm)] at hk
    rw [heap_setCell_other W ⟨w.heap.size + i, j, none⟩ (w.heap.size + k) u (fun e => hki (by simpa using e))]
    exact h.at' k o hk

end Go.Proofs.YtgeegbbcjdlkbaaGreatDoor

/- Ranges: what MeetRanges returns, of the reference and of the program (promise 2). -/
namespace Go.Proofs.YtgeegbbcjdlkbaaGreatDoor
open Go.RowKit Go.ChangeShapes
set_option linter.unusedSimpArgs false
set_option linter.unusedVariables false
set_option maxRecDepth 100000

/-- What two ranges have in common. -/
def meF (a b c d : Int) : Int := if isR a b = true ∧ isR c d = true then max a c else 0
def meT (a b c d : Int) : Int := if isR a b = true ∧ isR c d = true then max (max a c) (min b d) else 0

theorem meet_no {a b c d : Int} (h : isR a b = false ∨ isR c d = false) : meF a b c d = 0 ∧ meT a b c d = 0 := by
  unfold meF meT
  rcases h with h | h <;> simp [h]

theorem meet_yes {a b c d x y : Int} (h : isR a b = true) (k : isR c d = true) (hx : x = max a c) (hy : y = max x (min b d)) : meF a b c d = x ∧ meT a b c d = y := by
  subst hx; subst hy
  unfold meF meT
  simp [h, k]

/-- The result's variable, written, is what is returned. -/
theorem rg_end {w W : World} {os : List (Array Value × TypeId)} {p q : Value} {t : TypeId} (X : Bx w W os) (i : Nat) (h : os[i]? = some (#[p, q], t)) :
    Below w.heap.size w W ∧ W.cell? ⟨w.heap.size + i, 0, none⟩ = some p ∧ W.cell? ⟨w.heap.size + i, 1, none⟩ = some q := ⟨X.below, X.cell i 0 h rfl, X.cell i 1 h rfl⟩

section
variable (a b c d : Int) (w : World)
/-- The blocks that MeetRanges makes at once. -/
def meB (r s : Int) : List (Array Value × TypeId) := [(#[.int .i64 a, .int .i64 b], 32), (#[.int .i64 c, .int .i64 d], 32), (#[.int .i64 r, .int .i64 s], 32)]
end

/-- MeetRanges' frame, once its blocks are made. -/
theorem me_facts {a b c d r s : Int} {w W : World} (X : Bx w W (meB a b c d r s)) :
    W.cell? ⟨w.heap.size, 0, none⟩ = some (.int .i64 a) ∧ W.cell? ⟨w.heap.size, 1, none⟩ = some (.int .i64 b) ∧ W.cell? ⟨w.heap.size + 1, 0, none⟩ = some (.int .i64 c) ∧ W.cell? ⟨w.heap.size + 1, 1, none⟩ = some (.int .i64 d) ∧
    W.cell? ⟨w.heap.size + 1 + 1, 0, none⟩ = some (.int .i64 r) ∧ W.cell? ⟨w.heap.size + 1 + 1, 1, none⟩ = some (.int .i64 s) ∧ W.frozen? ⟨w.heap.size + 1 + 1, 0, none⟩ = false ∧ W.frozen? ⟨w.heap.size + 1 + 1, 1, none⟩ = false ∧ w.heap.size + 1 + 1 < W.heap.size :=
  ⟨X.cell 0 0 rfl rfl, X.cell 0 1 rfl rfl, X.cell 1 0 rfl rfl, X.cell 1 1 rfl rfl, X.cell 2 0 rfl rfl, X.cell 2 1 rfl rfl, X.free 2 0 rfl, X.free 2 1 rfl, by have := X.size; simp [meB] at this; omega⟩

theorem me_set {a b c d : Int} {w W : World} (X : Bx w W (meB a b c d 0 0)) (r s : Int) : Bx w ((W.setCell ⟨w.heap.size + 1 + 1, 0, none⟩ (.int .i64 r)).setCell ⟨w.heap.size + 1 + 1, 1, none⟩ (.int .i64 s)) (meB a b c d r s) :=
  (X.set 2 0 rfl (.int .i64 r)).set 2 1 rfl (.int .i64 s)

theorem me_out {a b c d : Int} {w W : World} (X : Bx w W (meB a b c d 0 0)) (r s : Int) (o : Obj) : Bx w (((W.setCell ⟨w.heap.size + 1 + 1, 0, none⟩ (.int .i64 r)).setCell ⟨w.heap.size + 1 + 1, 1, none⟩ (.int .i64 s)).alloc o) (meB a b c d r s) :=
  (me_set X r s).up (below1 _ _)

set_option maxHeartbeats 1000000 in
theorem sMeet_no1 (a b c d : Int) (w : World) (hr : isR a b = false) : Calls Tryz.prog 22 #[.agg #[.int .i64 a, .int .i64 b], .agg #[.int .i64 c, .int .i64 d]] w (RetRg w 0 0) := by
  have X1 := hide (Bx.three w #[.int .i64 a, .int .i64 b] #[.int .i64 c, .int .i64 d] #[.int .i64 0, .int .i64 0] 32 32 32)
  obtain ⟨w1, hw1⟩ : ∃ w1, w1 = ((w.alloc (.cells #[.int .i64 a, .int .i64 b] 32)).alloc (.cells #[.int .i64 c, .int .i64 d] 32)).alloc (.cells #[.int .i64 0, .int .i64 0] 32) := ⟨_, rfl⟩
  rw [← hw1] at X1
  obtain ⟨c0, c1, -⟩ := me_facts (X1.out)
  have HR := hide hr
  clear hr
  go_enter Tryz.func22, Tryz.ntmps22
  go_wp2_with fail
  rw [← hw1]
  clear hw1
  go_wp2_with fail
  refine (sIsR_at HR.out _).mono ?_
  rintro e wa ⟨rfl, hb⟩
  have X2 := hide (X1.out.up hb)
  obtain ⟨-, -, -, -, r0, r1, f0, f1, hz⟩ := me_facts X2.out
  clear hb
  go_wp2_with fail
  have X3 := me_set X2.out 0 0
  obtain ⟨W', hW'⟩ : ∃ W', W' = (wa.setCell ⟨w.heap.size + 1 + 1, 0, none⟩ (.int .i64 0)).setCell ⟨w.heap.size + 1 + 1, 1, none⟩ (.int .i64 0) := ⟨_, rfl⟩
  rw [← hW'] at X3 ⊢
  obtain ⟨-, -, -, -, q0, q1, -⟩ := me_facts X3
  exact bodyPost_ret (v := .agg #[.int .i64 0, .int .i64 0]) (by simp [results, Tryz.results22, go_sem, q0, q1]) rfl ⟨rfl, X3.below⟩

set_option maxHeartbeats 1000000 in
theorem iMeet_no1 (a b c d : Int) (w : World) (hr : isR a b = false) : Calls Tryz.prog 15 #[.agg #[.int .i64 a, .int .i64 b], .agg #[.int .i64 c, .int .i64 d]] w (RetRg w 0 0) := by
  have X1 := hide (Bx.three w #[.int .i64 a, .int .i64 b] #[.int .i64 c, .int .i64 d] #[.int .i64 0, .int .i64 0] 32 32 32)
  obtain ⟨w1, hw1⟩ : ∃ w1, w1 = ((w.alloc (.cells #[.int .i64 a, .int .i64 b] 32)).alloc (.cells #[.int .i64 c, .int .i64 d] 32)).alloc (.cells #[.int .i64 0, .int .i64 0] 32) := ⟨_, rfl⟩
  rw [← hw1] at X1
  obtain ⟨c0, c1, -⟩ := me_facts (X1.out)
  have HR := hide hr
  clear hr
  go_enter Tryz.func15, Tryz.ntmps15
  go_wp2_with fail
  rw [← hw1]
  clear hw1
  go_wp2_with fail
  refine (iIsR_is HR.out _).mono ?_
  rintro e wa ⟨rfl, hb⟩
  have X2 := hide (X1.out.up hb)
  obtain ⟨-, -, -, -, r0, r1, f0, f1, hz⟩ := me_facts X2.out
  clear hb
  go_wp2_with fail
  have X3 := me_set X2.out 0 0
  obtain ⟨W', hW'⟩ : ∃ W', W' = (wa.setCell ⟨w.heap.size + 1 + 1, 0, none⟩ (.int .i64 0)).setCell ⟨w.heap.size + 1 + 1, 1, none⟩ (.int .i64 0) := ⟨_, rfl⟩
  rw [← hW'] at X3 ⊢
  obtain ⟨-, -, -, -, q0, q1, -⟩ := me_facts X3
  exact bodyPost_ret (v := .agg #[.int .i64 0, .int .i64 0]) (by simp [results, Tryz.results15, go_sem, q0, q1]) rfl ⟨rfl, X3.below⟩

set_option maxHeartbeats 1000000 in
theorem sMeet_no2 (a b c d : Int) (w : World) (hr : isR a b = true) (hr2 : isR c d = false) : Calls Tryz.prog 22 #[.agg #[.int .i64 a, .int .i64 b], .agg #[.int .i64 c, .int .i64 d]] w (RetRg w 0 0) := by
  have X1 := hide (Bx.three w #[.int .i64 a, .int .i64 b] #[.int .i64 c, .int .i64 d] #[.int .i64 0, .int .i64 0] 32 32 32)
  obtain ⟨w1, hw1⟩ : ∃ w1, w1 = ((w.alloc (.cells #[.int .i64 a, .int .i64 b] 32)).alloc (.cells #[.int .i64 c, .int .i64 d] 32)).alloc (.cells #[.int .i64 0, .int .i64 0] 32) := ⟨_, rfl⟩
  rw [← hw1] at X1
  obtain ⟨c0, c1, -⟩ := me_facts (X1.out)
  have HR := hide hr
  have HR2 := hide hr2
  clear hr hr2
  go_enter Tryz.func22, Tryz.ntmps22
  go_wp2_with fail
  rw [← hw1]
  clear hw1
  go_wp2_with fail
  refine (sIsR_at HR.out _).mono ?_
  rintro e wa ⟨rfl, hb⟩
  have X2 := hide (X1.out.up hb)
  obtain ⟨-, -, d0, d1, -⟩ := me_facts X2.out
  clear hb c0 c1
  go_wp2_with fail
  refine (sIsR_at HR2.out _).mono ?_
  rintro e wb ⟨rfl, hb⟩
  have X3 := hide (X2.out.up hb)
  obtain ⟨-, -, -, -, r0, r1, f0, f1, hz⟩ := me_facts X3.out
  clear hb d0 d1
  go_wp2_with fail
  have X4 := me_set X3.out 0 0
  obtain ⟨W', hW'⟩ : ∃ W', W' = (wb.setCell ⟨w.heap.size + 1 + 1, 0, none⟩ (.int .i64 0)).setCell ⟨w.heap.size + 1 + 1, 1, none⟩ (.int .i64 0) := ⟨_, rfl⟩
  rw [← hW'] at X4 ⊢
  obtain ⟨-, -, -, -, q0, q1, -⟩ := me_facts X4
  exact bodyPost_ret (v := .agg #[.int .i64 0, .int .i64 0]) (by simp [results, Tryz.results22, go_sem, q0, q1]) rfl ⟨rfl, X4.below⟩

set_option maxHeartbeats 1000000 in
theorem iMeet_no2 (a b c d : Int) (w : World) (hr : isR a b = true) (hr2 : isR c d = false) : Calls Tryz.prog 15 #[.agg #[.int .i64 a, .int .i64 b], .agg #[.int .i64 c, .int .i64 d]] w (RetRg w 0 0) := by
  have X1 := hide (Bx.three w #[.int .i64 a, .int .i64 b] #[.int .i64 c, .int .i64 d] #[.int .i64 0, .int .i64 0] 32 32 32)
  obtain ⟨w1, hw1⟩ : ∃ w1, w1 = ((w.alloc (.cells #[.int .i64 a, .int .i64 b] 32)).alloc (.cells #[.int .i64 c, .int .i64 d] 32)).alloc (.cells #[.int .i64 0, .int .i64 0] 32) := ⟨_, rfl⟩
  rw [← hw1] at X1
  obtain ⟨c0, c1, -⟩ := me_facts (X1.out)
  have HR := hide hr
  have HR2 := hide hr2
  clear hr hr2
  go_enter Tryz.func15, Tryz.ntmps15
  go_wp2_with fail
  rw [← hw1]
  clear hw1
  go_wp2_with fail
  refine (iIsR_is HR.out _).mono ?_
  rintro e wa ⟨rfl, hb⟩
  have X2 := hide (X1.out.up hb)
  obtain ⟨-, -, d0, d1, -⟩ := me_facts X2.out
  clear hb c0 c1
  go_wp2_with fail
  refine (iIsR_is HR2.out _).mono ?_
  rintro e wb ⟨rfl, hb⟩
  have X3 := hide (X2.out.up hb)
  obtain ⟨-, -, -, -, r0, r1, f0, f1, hz⟩ := me_facts X3.out
  clear hb d0 d1
  go_wp2_with fail
  have X4 := me_set X3.out 0 0
  obtain ⟨W', hW'⟩ : ∃ W', W' = (wb.setCell ⟨w.heap.size + 1 + 1, 0, none⟩ (.int .i64 0)).setCell ⟨w.heap.size + 1 + 1, 1, none⟩ (.int .i64 0) := ⟨_, rfl⟩
  rw [← hW'] at X4 ⊢
  obtain ⟨-, -, -, -, q0, q1, -⟩ := me_facts X4
  exact bodyPost_ret (v := .agg #[.int .i64 0, .int .i64 0]) (by simp [results, Tryz.results15, go_sem, q0, q1]) rfl ⟨rfl, X4.below⟩

set_option maxHeartbeats 4000000 in
theorem sMeet_yes (a b c d x m y : Int) (w : World) (hr : isR a b = true) (hr2 : isR c d = true) (hx : a < c ∧ x = c ∨ c ≤ a ∧ x = a) (hm : b ≤ d ∧ m = b ∨ d < b ∧ m = d) (hy : x < m ∧ y = m ∨ m ≤ x ∧ y = x) :
    Calls Tryz.prog 22 #[.agg #[.int .i64 a, .int .i64 b], .agg #[.int .i64 c, .int .i64 d]] w (RetRg w x y) := by
  have X1 := hide (Bx.three w #[.int .i64 a, .int .i64 b] #[.int .i64 c, .int .i64 d] #[.int .i64 0, .int .i64 0] 32 32 32)
  obtain ⟨w1, hw1⟩ : ∃ w1, w1 = ((w.alloc (.cells #[.int .i64 a, .int .i64 b] 32)).alloc (.cells #[.int .i64 c, .int .i64 d] 32)).alloc (.cells #[.int .i64 0, .int .i64 0] 32) := ⟨_, rfl⟩
  rw [← hw1] at X1
  obtain ⟨c0, c1, -⟩ := me_facts (X1.out)
  have HR := hide hr
  have HR2 := hide hr2
  obtain ⟨l1, l2, l3, l4⟩ := isR_true hr
  obtain ⟨l5, l6, l7, l8⟩ := isR_true hr2
  clear hr hr2
  go_enter Tryz.func22, Tryz.ntmps22
  go_wp2_with fail
  rw [← hw1]
  clear hw1
  go_wp2_with fail
  refine (sIsR_at HR.out _).mono ?_
  rintro e wa ⟨rfl, hb⟩
  have X2 := hide (X1.out.up hb)
  obtain ⟨-, -, d0, d1, -⟩ := me_facts X2.out
  clear hb c0 c1
  go_wp2_with fail
  refine (sIsR_at HR2.out _).mono ?_
  rintro e wb ⟨rfl, hb⟩
  have X3 := hide (X2.out.up hb)
  obtain ⟨s0, s1, s2, s3, r0, r1, f0, f1, hz⟩ := me_facts X3.out
  clear hb d0 d1
  have Q0 := hide (fun r s o => (me_facts (me_out X3.out r s o)).2.2.2.2.1)
  have Q1 := hide (fun r s o => (me_facts (me_out X3.out r s o)).2.2.2.2.2.1)
  rcases hx with ⟨hx, rfl⟩ | ⟨hx, rfl⟩
  all_goals
    rcases hm with ⟨hm, rfl⟩ | ⟨hm, rfl⟩
    all_goals
      rcases hy with ⟨hy, rfl⟩ | ⟨hy, rfl⟩
      all_goals first
      | (exfalso; omega)
      | skip
      all_goals
        go_wp2_with fail
        have q0 := Q0.out
        have q1 := Q1.out
        exact bodyPost_ret (v := .agg #[.int .i64 _, .int .i64 _]) (by simp [results, Tryz.results22, go_sem, q0, q1]) rfl ⟨rfl, (me_out X3.out _ _ _).below⟩

set_option maxHeartbeats 4000000 in
theorem iMeet_yes (a b c d x m y : Int) (w : World) (hr : isR a b = true) (hr2 : isR c d = true) (hx : a < c ∧ x = c ∨ c ≤ a ∧ x = a) (hm : b ≤ d ∧ m = b ∨ d < b ∧ m = d) (hy : x < m ∧ y = m ∨ m ≤ x ∧ y = x) :
    Calls Tryz.prog 15 #[.agg #[.int .i64 a, .int .i64 b], .agg #[.int .i64 c, .int .i64 d]] w (RetRg w x y) := by
  have X1 := hide (Bx.three w #[.int .i64 a, .int .i64 b] #[.int .i64 c, .int .i64 d] #[.int .i64 0, .int .i64 0] 32 32 32)
  obtain ⟨w1, hw1⟩ : ∃ w1, w1 = ((w.alloc (.cells #[.int .i64 a, .int .i64 b] 32)).alloc (.cells #[.int .i64 c, .int .i64 d] 32)).alloc (.cells #[.int .i64 0, .int .i64 0] 32) := ⟨_, rfl⟩
  rw [← hw1] at X1
  obtain ⟨c0, c1, -⟩ := me_facts (X1.out)
  have HR := hide hr
  have HR2 := hide hr2
  obtain ⟨l1, l2, l3, l4⟩ := isR_true hr
  obtain ⟨l5, l6, l7, l8⟩ := isR_true hr2
  clear hr hr2
  go_enter Tryz.func15, Tryz.ntmps15
  go_wp2_with fail
  rw [← hw1]
  clear hw1
  go_wp2_with fail
  refine (iIsR_is HR.out _).mono ?_
  rintro e wa ⟨rfl, hb⟩
  have X2 := hide (X1.out.up hb)
  obtain ⟨-, -, d0, d1, -⟩ := me_facts X2.out
  clear hb c0 c1
  go_wp2_with fail
  refine (iIsR_is HR2.out _).mono ?_
  rintro e wb ⟨rfl, hb⟩
  have X3 := hide (X2.out.up hb)
  obtain ⟨s0, s1, s2, s3, r0, r1, f0, f1, hz⟩ := me_facts X3.out
  clear hb d0 d1
  rcases hx with ⟨hx, rfl⟩ | ⟨hx, rfl⟩
  all_goals
    rcases hm with ⟨hm, rfl⟩ | ⟨hm, rfl⟩
    all_goals
      go_wp2_with fail
      refine (lim_at _ _ _ y _ (.inr (.inr ⟨by omega, by omega, rfl⟩)) (by omega)).mono ?_
      rintro e wc ⟨rfl, hb⟩
      have X4 := hide (X3.out.up hb)
      clear hb s0 s1 s2 s3 r0 r1 f0 f1 hz
      obtain ⟨-, -, -, -, r0, r1, f0, f1, hz⟩ := me_facts X4.out
      go_wp2_with fail
      have q0 := fun r s => (me_facts (me_set X4.out r s)).2.2.2.2.1
      have q1 := fun r s => (me_facts (me_set X4.out r s)).2.2.2.2.2.1
      exact bodyPost_ret (v := .agg #[.int .i64 _, .int .i64 y]) (by simp [results, Tryz.results15, go_sem, q0, q1]) rfl ⟨rfl, (me_set X4.out _ _).below⟩

theorem sMeet_any (a b c d : Int) (w : World) : Calls Tryz.prog 22 #[.agg #[.int .i64 a, .int .i64 b], .agg #[.int .i64 c, .int .i64 d]] w (RetRg w (meF a b c d) (meT a b c d)) := by
  cases hr : isR a b
  · obtain ⟨e1, e2⟩ := meet_no (d := d) (c := c) (.inl hr)
    rw [e1, e2]; exact sMeet_no1 a b c d w hr
  · cases hr2 : isR c d
    · obtain ⟨e1, e2⟩ := meet_no (a := a) (b := b) (.inr hr2)
      rw [e1, e2]; exact sMeet_no2 a b c d w hr hr2
    · obtain ⟨e1, e2⟩ := meet_yes hr hr2 rfl rfl
      rw [e1, e2]; exact sMeet_yes a b c d _ (min b d) _ w hr hr2 (by omega) (by omega) (by omega)

theorem iMeet_any (a b c d : Int) (w : World) : Calls Tryz.prog 15 #[.agg #[.int .i64 a, .int .i64 b], .agg #[.int .i64 c, .int .i64 d]] w (RetRg w (meF a b c d) (meT a b c d)) := by
  cases hr : isR a b
  · obtain ⟨e1, e2⟩ := meet_no (d := d) (c := c) (.inl hr)
    rw [e1, e2]; exact iMeet_no1 a b c d w hr
  · cases hr2 : isR c d
    · obtain ⟨e1, e2⟩ := meet_no (a := a) (b := b) (.inr hr2)
      rw [e1, e2]; exact iMeet_no2 a b c d w hr hr2
    · obtain ⟨e1, e2⟩ := meet_yes hr hr2 rfl rfl
      rw [e1, e2]; exact iMeet_yes a b c d _ (min b d) _ w hr hr2 (by omega) (by omega) (by omega)

end Go.Proofs.YtgeegbbcjdlkbaaGreatDoor

/- A region that draws its order, with guards and calls: walked in the text's order, operation by operation; its loads are taken under S. Any program. -/
namespace Go.Proofs.YtgeegbbcjdlkbaaGreatDoor
open Go.RowKit

section
variable {P : Program} {ops : Array Oper} {Q : Exit → Act → World → Prop} {md : Region.Mode} {S : World → Prop}

/-- Number i is taken. -/
theorem GR.take {i : Nat} {oi : Oper} {v : Value} {f : Nat} {listed : Array Bool} {a : Act} {w : World} (hi : ops[i]? = some oi)
    (hs : Region.noSelect ops = true) (hf : Region.free md ops listed i = true) (hr : (Region.ready md ops listed).contains i = true)
    (hQ : ∀ c a w, Q (.panic c) (a.put oi.dst v) w → Q (.panic c) a w) (hwant : Region.wanted oi (yielded ops a.tmps) = true) (hy : ∀ w, S w → (execOp a.eval oi).run P w = .ok (.value v) w) (hS : S w)
    (h : wpAnyH P md ops Q S f (listed.setIfInBounds i true) (a.put oi.dst v) w) : wpAnyH P md ops Q S (f + 1) listed a w :=
  wpAnyH_take hi hs hf hr hQ (.inl ⟨hwant, hy⟩) hS h

/-- Number i is passed over: its guard is false. -/
theorem GR.skip {i : Nat} {oi : Oper} {f : Nat} {listed : Array Bool} {a : Act} {w : World} (hi : ops[i]? = some oi)
    (hs : Region.noSelect ops = true) (hf : Region.free md ops listed i = true) (hr : (Region.ready md ops listed).contains i = true)
    (hQ : ∀ c a w, Q (.panic c) (a.put oi.dst undef) w → Q (.panic c) a w) (hwant : Region.wanted oi (yielded ops a.tmps) = false) (hS : S w)
    (h : wpAnyH P md ops Q S f (listed.setIfInBounds i true) (a.put oi.dst undef) w) : wpAnyH P md ops Q S (f + 1) listed a w :=
  wpAnyH_take hi hs hf hr hQ (.inr ⟨hwant, rfl⟩) hS h

/-- One alone may come up: it does; S behind it. -/
theorem GR.one {i : Nat} {o : Oper} {f : Nat} {listed : Array Bool} {a : Act} {w : World} (hr : Region.ready md ops listed = [i]) (ho : ops[i]? = some o)
    (h : ∀ K' : Act → World → Prop, Shut (∀ a w, S w → wpAnyH P md ops Q S f (listed.setIfInBounds i true) a w → K' a w) → if Region.wanted o (yielded ops a.tmps) = true then Oper.wp P o a w K' Q else K' (a.put o.dst undef) w) :
    wpAnyH P md ops Q S (f + 1) listed a w := by
  refine wpAnyH_all hr (by simp) (fun j hj => ?_)
  obtain rfl : j = i := by simpa using hj
  exact wpOp_step ho fun K' hK => h K' fun a w hS hH => hK a w ⟨hS, hH⟩

theorem GR.done {listed : Array Bool} {a : Act} {w : World} {f : Nat} (hr : Region.ready md ops listed = []) (h : Q .normal a w) : wpAnyH P md ops Q S f listed a w := wpAnyH_done hr h f

theorem GR.region {id n : Nat} {a : Act} {w : World} (hm : P.follows .mixedOrders = true) (hn : ops.size = n) (hS : S w.drew)
    (h : S w.drew → wpAnyH P .any ops Q S n (Array.replicate n false) a w.drew) : (Code.region id ops true).wp P Q a w := by
  subst hn
  exact wp_region_held hm (h hS)

end

end Go.Proofs.YtgeegbbcjdlkbaaGreatDoor
