/- What IsMap, EqualMaps and AreAligned return (promise 8). Written by gen_mp.py. -/
import Derived.Test.YtepkkeclkdlheaaMp
import Derived.Test.YtepkkeclkdlheaaMpM
import Derived.Test.YtepkkeclkdlheaaCkX
import Derived.Test.YtepkkeclkdlheaaCkT
import Derived.Test.YtepkkeclkdlheaaCkQ
import Derived.Test.YtepkkeclkdlheaaNameI
namespace Go.Proofs.Ytepkkeclkdlheaa
open Go.RowKit Go.ChangeShapes
set_option linter.unusedSimpArgs false
set_option linter.unusedVariables false
set_option maxRecDepth 100000

/-- Two maps are aligned; two maps are equal. -/
noncomputable def alG (l r : List Int) (ps : List Pv) (t : List Int) (a : Int) (l' r' : List Int) (ps' : List Pv) (t' : List Int) (a' : Int) : Bool := isMp l r ps t a && isMp l' r' ps' t' a' && decide (a = a') && eqC l r ps l' r' ps'
def eqM (l r : List Int) (ps : List Pv) (t : List Int) (a : Int) (l' r' : List Int) (ps' : List Pv) (t' : List Int) (a' : Int) : Bool := eqC l r ps l' r' ps' && decide (t = t') && decide (a = a')

theorem int_beq (x y : Int) : (x == y) = decide (x = y) := by by_cases h : x = y <;> simp [h]
theorem int_len_beq (x y : Nat) : ((x : Int) == (y : Int)) = decide (x = y) := by
  by_cases h : x = y
  · simp [h]
  · have h' : ¬ (x : Int) = (y : Int) := by omega
    simp [h, h']
theorem int_len_dec (x y : Nat) : decide ((x : Int) = (y : Int)) = decide (x = y) := by
  by_cases h : x = y
  · simp [h]
  · have h' : ¬ (x : Int) = (y : Int) := by omega
    simp [h, h']

theorem in_any (x lo hi : Int) (w : World) : Calls Try.prog 81 #[.int .i64 x, .int .i64 lo, .int .i64 hi] w (RetB1 w (decide (lo ≤ x ∧ x ≤ hi))) := by
  by_cases h : lo ≤ x ∧ x ≤ hi
  · rw [decide_eq_true h]
    refine (in_yes x lo hi w h.1 h.2).mono ?_
    rintro e w' ⟨rfl, rfl⟩
    exact ⟨rfl, Below.refl _ _⟩
  · rw [decide_eq_false h]
    refine (in_no x lo hi w (by omega)).mono ?_
    rintro e w' ⟨rfl, rfl⟩
    exact ⟨rfl, Below.refl _ _⟩

set_option maxHeartbeats 4000000 in
theorem sIsMp_any (v : Value) (l : List Int) (r : List Int) (t : List Int) (ps : List Pv) (a : Int) (w : World) (B : Nat) (hv : Mp w B v l r ps t a) (hB : B ≤ w.heap.size) :
    Calls Try.prog 24 #[v] w (RetB1 w (isMp l r ps t a)) := by
  obtain ⟨a1, c1, a2, c2, a3, c3, a4, c4, rfl, i1, i4⟩ := hv.form
  have Vv := hide (fun (W : World) (h : Below w.heap.size w W) => hv.below h hB)
  have iC := hide (fun (W : World) (h : Below w.heap.size w W) => i1.below h hB)
  have iT := hide (fun (W : World) (h : Below w.heap.size w W) => i4.below h hB)
  clear i1 i4 hv
  have X := hide (Kn.one w #[.slice a1 l.length c1, .slice a2 r.length c2, .slice a3 ps.length c3, .slice a4 t.length c4, .int .i64 a] 27)
  obtain ⟨u0, hu0⟩ : ∃ q, q = w.alloc (.cells #[.slice a1 l.length c1, .slice a2 r.length c2, .slice a3 ps.length c3, .slice a4 t.length c4, .int .i64 a] 27) := ⟨_, rfl⟩
  rw [← hu0] at X
  obtain ⟨res, hres⟩ : ∃ q, q = isMp l r ps t a := ⟨_, rfl⟩
  rw [← hres]
  obtain ⟨t1, ht1⟩ : ∃ q, q = isCk l r ps := ⟨_, rfl⟩
  obtain ⟨t2, ht2⟩ : ∃ q, q = areVals t := ⟨_, rfl⟩
  obtain ⟨t3, ht3⟩ : ∃ q, q = decide (t.length = l.length) := ⟨_, rfl⟩
  obtain ⟨t4, ht4⟩ : ∃ q, q = decide (0 ≤ a ∧ a ≤ 60) := ⟨_, rfl⟩
  have HR := hide (show res = (t1 && t2 && t3 && t4) by rw [hres, ht1, ht2, ht3, ht4]; rfl)
  clear hres
  have Ht1 := hide ht1
  clear ht1
  have Ht2 := hide ht2
  clear ht2
  have Et3 : ((t.length : Int) == (l.length : Int)) = t3 := by rw [ht3]; exact int_len_beq _ _
  have Dt3 : decide ((t.length : Int) = (l.length : Int)) = t3 := by rw [ht3]; exact int_len_dec _ _
  clear ht3
  have Ht4 := hide ht4
  clear ht4
  have c0_0 : u0.cell? ⟨w.heap.size, 0, none⟩ = some (.slice a1 l.length c1) := X.out.cell 0 0 rfl rfl
  have c0_1 : u0.cell? ⟨w.heap.size, 1, none⟩ = some (.slice a2 r.length c2) := X.out.cell 0 1 rfl rfl
  have c0_2 : u0.cell? ⟨w.heap.size, 2, none⟩ = some (.slice a3 ps.length c3) := X.out.cell 0 2 rfl rfl
  have c0_3 : u0.cell? ⟨w.heap.size, 3, none⟩ = some (.slice a4 t.length c4) := X.out.cell 0 3 rfl rfl
  have c0_4 : u0.cell? ⟨w.heap.size, 4, none⟩ = some (.int .i64 a) := X.out.cell 0 4 rfl rfl
  go_enter Try.func24, Try.ntmps24
  go_wp2_with fail
  rw [← hu0]
  clear hu0 c0_0 c0_1 c0_2 c0_3 c0_4
  go_at_call 80
  refine (sIsCk_any _ l r ps _ B (iC.out _ X.out.below) (Nat.le_trans hB X.out.below.size)).mono ?_
  rintro e u1 ⟨rfl, hb⟩
  rw [← Ht1.out]
  have X := hide (X.out.up hb)
  clear hb
  have c0_0 : u1.cell? ⟨w.heap.size, 0, none⟩ = some (.slice a1 l.length c1) := X.out.cell 0 0 rfl rfl
  have c0_1 : u1.cell? ⟨w.heap.size, 1, none⟩ = some (.slice a2 r.length c2) := X.out.cell 0 1 rfl rfl
  have c0_2 : u1.cell? ⟨w.heap.size, 2, none⟩ = some (.slice a3 ps.length c3) := X.out.cell 0 2 rfl rfl
  have c0_3 : u1.cell? ⟨w.heap.size, 3, none⟩ = some (.slice a4 t.length c4) := X.out.cell 0 3 rfl rfl
  have c0_4 : u1.cell? ⟨w.heap.size, 4, none⟩ = some (.int .i64 a) := X.out.cell 0 4 rfl rfl
  cases t1
  · skip
    go_wp2_with fail
    go_ret
    exact ⟨by rw [show res = false by rw [HR.out]; simp]; rfl, X.out.below⟩
  · skip
    go_wp2_with fail
    clear c0_0 c0_1 c0_2 c0_3 c0_4
    go_at_call 74
    refine (sVals_any _ t _ B (iT.out _ X.out.below)).mono ?_
    rintro e u2 ⟨rfl, hb⟩
    rw [← Ht2.out]
    have X := hide (X.out.up hb)
    clear hb
    have c0_0 : u2.cell? ⟨w.heap.size, 0, none⟩ = some (.slice a1 l.length c1) := X.out.cell 0 0 rfl rfl
    have c0_1 : u2.cell? ⟨w.heap.size, 1, none⟩ = some (.slice a2 r.length c2) := X.out.cell 0 1 rfl rfl
    have c0_2 : u2.cell? ⟨w.heap.size, 2, none⟩ = some (.slice a3 ps.length c3) := X.out.cell 0 2 rfl rfl
    have c0_3 : u2.cell? ⟨w.heap.size, 3, none⟩ = some (.slice a4 t.length c4) := X.out.cell 0 3 rfl rfl
    have c0_4 : u2.cell? ⟨w.heap.size, 4, none⟩ = some (.int .i64 a) := X.out.cell 0 4 rfl rfl
    cases t2
    · skip
      go_wp2_with fail
      go_ret
      exact ⟨by rw [show res = false by rw [HR.out]; simp]; rfl, X.out.below⟩
    · skip
      cases t3
      · skip
        go_wp2_with fail
        go_ret
        exact ⟨by rw [show res = false by rw [HR.out]; simp]; rfl, X.out.below⟩
      · skip
        go_wp2_with fail
        clear c0_0 c0_1 c0_2 c0_3 c0_4
        go_at_call 81
        refine (in_any a 0 60 _).mono ?_
        rintro e u3 ⟨rfl, hb⟩
        rw [← Ht4.out]
        have X := hide (X.out.up hb)
        clear hb
        have c0_0 : u3.cell? ⟨w.heap.size, 0, none⟩ = some (.slice a1 l.length c1) := X.out.cell 0 0 rfl rfl
        have c0_1 : u3.cell? ⟨w.heap.size, 1, none⟩ = some (.slice a2 r.length c2) := X.out.cell 0 1 rfl rfl
        have c0_2 : u3.cell? ⟨w.heap.size, 2, none⟩ = some (.slice a3 ps.length c3) := X.out.cell 0 2 rfl rfl
        have c0_3 : u3.cell? ⟨w.heap.size, 3, none⟩ = some (.slice a4 t.length c4) := X.out.cell 0 3 rfl rfl
        have c0_4 : u3.cell? ⟨w.heap.size, 4, none⟩ = some (.int .i64 a) := X.out.cell 0 4 rfl rfl
        cases t4
        · skip
          go_wp2_with fail
          go_ret
          exact ⟨by rw [show res = false by rw [HR.out]; simp]; rfl, X.out.below⟩
        · skip
          go_wp2_with fail
          go_ret
          exact ⟨by rw [show res = true by rw [HR.out]; simp]; rfl, X.out.below⟩

set_option maxHeartbeats 4000000 in
theorem iIsMp_any (v : Value) (l : List Int) (r : List Int) (t : List Int) (ps : List Pv) (a : Int) (w : World) (B : Nat) (hv : Mp w B v l r ps t a) (hB : B ≤ w.heap.size) :
    Calls Try.prog 26 #[v] w (RetB1 w (isMp l r ps t a)) := by
  obtain ⟨a1, c1, a2, c2, a3, c3, a4, c4, rfl, i1, i4⟩ := hv.form
  have Vv := hide (fun (W : World) (h : Below w.heap.size w W) => hv.below h hB)
  have iC := hide (fun (W : World) (h : Below w.heap.size w W) => i1.below h hB)
  have iT := hide (fun (W : World) (h : Below w.heap.size w W) => i4.below h hB)
  clear i1 i4 hv
  have X := hide (Kn.one w #[.slice a1 l.length c1, .slice a2 r.length c2, .slice a3 ps.length c3, .slice a4 t.length c4, .int .i64 a] 27)
  obtain ⟨u0, hu0⟩ : ∃ q, q = w.alloc (.cells #[.slice a1 l.length c1, .slice a2 r.length c2, .slice a3 ps.length c3, .slice a4 t.length c4, .int .i64 a] 27) := ⟨_, rfl⟩
  rw [← hu0] at X
  obtain ⟨res, hres⟩ : ∃ q, q = isMp l r ps t a := ⟨_, rfl⟩
  rw [← hres]
  obtain ⟨t1, ht1⟩ : ∃ q, q = isCk l r ps := ⟨_, rfl⟩
  obtain ⟨t2, ht2⟩ : ∃ q, q = areVals t := ⟨_, rfl⟩
  obtain ⟨t3, ht3⟩ : ∃ q, q = decide (t.length = l.length) := ⟨_, rfl⟩
  obtain ⟨t4, ht4⟩ : ∃ q, q = decide (0 ≤ a) := ⟨_, rfl⟩
  obtain ⟨t5, ht5⟩ : ∃ q, q = decide (a ≤ 60) := ⟨_, rfl⟩
  have HR := hide (show res = (t1 && t2 && t3 && t4 && t5) by rw [hres, ht1, ht2, ht3, ht4, ht5]; unfold isMp; simp only [Bool.decide_and, Bool.and_assoc])
  clear hres
  have Ht1 := hide ht1
  clear ht1
  have Ht2 := hide ht2
  clear ht2
  have Et3 : ((t.length : Int) == (l.length : Int)) = t3 := by rw [ht3]; exact int_len_beq _ _
  have Dt3 : decide ((t.length : Int) = (l.length : Int)) = t3 := by rw [ht3]; exact int_len_dec _ _
  clear ht3
  have Dt4 : decide (0 ≤ a) = t4 := ht4.symm
  clear ht4
  have Dt5 : decide (a ≤ 60) = t5 := ht5.symm
  clear ht5
  have c0_0 : u0.cell? ⟨w.heap.size, 0, none⟩ = some (.slice a1 l.length c1) := X.out.cell 0 0 rfl rfl
  have c0_1 : u0.cell? ⟨w.heap.size, 1, none⟩ = some (.slice a2 r.length c2) := X.out.cell 0 1 rfl rfl
  have c0_2 : u0.cell? ⟨w.heap.size, 2, none⟩ = some (.slice a3 ps.length c3) := X.out.cell 0 2 rfl rfl
  have c0_3 : u0.cell? ⟨w.heap.size, 3, none⟩ = some (.slice a4 t.length c4) := X.out.cell 0 3 rfl rfl
  have c0_4 : u0.cell? ⟨w.heap.size, 4, none⟩ = some (.int .i64 a) := X.out.cell 0 4 rfl rfl
  go_enter Try.func26, Try.ntmps26
  cases t4
  · skip
    go_wp2_with fail
    rw [← hu0]
    go_ret
    exact ⟨by rw [show res = false by rw [HR.out]; simp]; rfl, X.out.below⟩
  · skip
    cases t5
    · skip
      go_wp2_with fail
      rw [← hu0]
      go_ret
      exact ⟨by rw [show res = false by rw [HR.out]; simp]; rfl, X.out.below⟩
    · skip
      go_wp2_with fail
      rw [← hu0]
      clear hu0 c0_0 c0_1 c0_2 c0_3 c0_4
      go_at_call 82
      refine (iIsCk_any _ l r ps _ B (iC.out _ X.out.below) (Nat.le_trans hB X.out.below.size)).mono ?_
      rintro e u1 ⟨rfl, hb⟩
      rw [← Ht1.out]
      have X := hide (X.out.up hb)
      clear hb
      have c0_0 : u1.cell? ⟨w.heap.size, 0, none⟩ = some (.slice a1 l.length c1) := X.out.cell 0 0 rfl rfl
      have c0_1 : u1.cell? ⟨w.heap.size, 1, none⟩ = some (.slice a2 r.length c2) := X.out.cell 0 1 rfl rfl
      have c0_2 : u1.cell? ⟨w.heap.size, 2, none⟩ = some (.slice a3 ps.length c3) := X.out.cell 0 2 rfl rfl
      have c0_3 : u1.cell? ⟨w.heap.size, 3, none⟩ = some (.slice a4 t.length c4) := X.out.cell 0 3 rfl rfl
      have c0_4 : u1.cell? ⟨w.heap.size, 4, none⟩ = some (.int .i64 a) := X.out.cell 0 4 rfl rfl
      cases t1
      · skip
        go_wp2_with fail
        go_ret
        exact ⟨by rw [show res = false by rw [HR.out]; simp]; rfl, X.out.below⟩
      · skip
        go_wp2_with fail
        clear c0_0 c0_1 c0_2 c0_3 c0_4
        go_at_call 76
        refine (iVals_any _ t _ B (iT.out _ X.out.below)).mono ?_
        rintro e u2 ⟨rfl, hb⟩
        rw [← Ht2.out]
        have X := hide (X.out.up hb)
        clear hb
        have c0_0 : u2.cell? ⟨w.heap.size, 0, none⟩ = some (.slice a1 l.length c1) := X.out.cell 0 0 rfl rfl
        have c0_1 : u2.cell? ⟨w.heap.size, 1, none⟩ = some (.slice a2 r.length c2) := X.out.cell 0 1 rfl rfl
        have c0_2 : u2.cell? ⟨w.heap.size, 2, none⟩ = some (.slice a3 ps.length c3) := X.out.cell 0 2 rfl rfl
        have c0_3 : u2.cell? ⟨w.heap.size, 3, none⟩ = some (.slice a4 t.length c4) := X.out.cell 0 3 rfl rfl
        have c0_4 : u2.cell? ⟨w.heap.size, 4, none⟩ = some (.int .i64 a) := X.out.cell 0 4 rfl rfl
        cases t2
        · skip
          go_wp2_with fail
          go_ret
          exact ⟨by rw [show res = false by rw [HR.out]; simp]; rfl, X.out.below⟩
        · skip
          cases t3
          · skip
            go_wp2_with fail
            go_ret
            exact ⟨by rw [show res = false by rw [HR.out]; simp]; rfl, X.out.below⟩
          · skip
            go_wp2_with fail
            go_ret
            exact ⟨by rw [show res = true by rw [HR.out]; simp]; rfl, X.out.below⟩

set_option maxHeartbeats 4000000 in
theorem sEqMp_any (v u : Value) (l : List Int) (r : List Int) (t : List Int) (l' : List Int) (r' : List Int) (t' : List Int) (ps : List Pv) (ps' : List Pv) (a : Int) (a' : Int) (w : World) (B : Nat) (hv : Mp w B v l r ps t a) (hu : Mp w B u l' r' ps' t' a') (hB : B ≤ w.heap.size) :
    Calls Try.prog 33 #[v, u] w (RetB1 w (eqM l r ps t a l' r' ps' t' a')) := by
  obtain ⟨a1, c1, a2, c2, a3, c3, a4, c4, rfl, i1, i4⟩ := hv.form
  have Vv := hide (fun (W : World) (h : Below w.heap.size w W) => hv.below h hB)
  have iC := hide (fun (W : World) (h : Below w.heap.size w W) => i1.below h hB)
  have iT := hide (fun (W : World) (h : Below w.heap.size w W) => i4.below h hB)
  clear i1 i4 hv
  obtain ⟨b1, k1, b2, k2, b3, k3, b4, k4, rfl, j1, j4⟩ := hu.form
  have Vu := hide (fun (W : World) (h : Below w.heap.size w W) => hu.below h hB)
  have jC := hide (fun (W : World) (h : Below w.heap.size w W) => j1.below h hB)
  have jT := hide (fun (W : World) (h : Below w.heap.size w W) => j4.below h hB)
  clear j1 j4 hu
  have X := hide (Kn.two w #[.slice a1 l.length c1, .slice a2 r.length c2, .slice a3 ps.length c3, .slice a4 t.length c4, .int .i64 a] #[.slice b1 l'.length k1, .slice b2 r'.length k2, .slice b3 ps'.length k3, .slice b4 t'.length k4, .int .i64 a'] 27 27)
  obtain ⟨u0, hu0⟩ : ∃ q, q = (w.alloc (.cells #[.slice a1 l.length c1, .slice a2 r.length c2, .slice a3 ps.length c3, .slice a4 t.length c4, .int .i64 a] 27)).alloc (.cells #[.slice b1 l'.length k1, .slice b2 r'.length k2, .slice b3 ps'.length k3, .slice b4 t'.length k4, .int .i64 a'] 27) := ⟨_, rfl⟩
  rw [← hu0] at X
  obtain ⟨res, hres⟩ : ∃ q, q = eqM l r ps t a l' r' ps' t' a' := ⟨_, rfl⟩
  rw [← hres]
  obtain ⟨t1, ht1⟩ : ∃ q, q = eqC l r ps l' r' ps' := ⟨_, rfl⟩
  obtain ⟨t2, ht2⟩ : ∃ q, q = decide (t = t') := ⟨_, rfl⟩
  obtain ⟨t3, ht3⟩ : ∃ q, q = decide (a = a') := ⟨_, rfl⟩
  have HR := hide (show res = (t1 && t2 && t3) by rw [hres, ht1, ht2, ht3]; rfl)
  clear hres
  have Ht1 := hide ht1
  clear ht1
  have Ht2 := hide ht2
  clear ht2
  have Et3 : (a == a') = t3 := by rw [ht3]; exact int_beq _ _
  have Dt3 : decide (a = a') = t3 := by rw [ht3]; skip
  clear ht3
  have c0_0 : u0.cell? ⟨w.heap.size, 0, none⟩ = some (.slice a1 l.length c1) := X.out.cell 0 0 rfl rfl
  have c0_1 : u0.cell? ⟨w.heap.size, 1, none⟩ = some (.slice a2 r.length c2) := X.out.cell 0 1 rfl rfl
  have c0_2 : u0.cell? ⟨w.heap.size, 2, none⟩ = some (.slice a3 ps.length c3) := X.out.cell 0 2 rfl rfl
  have c0_3 : u0.cell? ⟨w.heap.size, 3, none⟩ = some (.slice a4 t.length c4) := X.out.cell 0 3 rfl rfl
  have c0_4 : u0.cell? ⟨w.heap.size, 4, none⟩ = some (.int .i64 a) := X.out.cell 0 4 rfl rfl
  have c1_0 : u0.cell? ⟨w.heap.size + 1, 0, none⟩ = some (.slice b1 l'.length k1) := X.out.cell 1 0 rfl rfl
  have c1_1 : u0.cell? ⟨w.heap.size + 1, 1, none⟩ = some (.slice b2 r'.length k2) := X.out.cell 1 1 rfl rfl
  have c1_2 : u0.cell? ⟨w.heap.size + 1, 2, none⟩ = some (.slice b3 ps'.length k3) := X.out.cell 1 2 rfl rfl
  have c1_3 : u0.cell? ⟨w.heap.size + 1, 3, none⟩ = some (.slice b4 t'.length k4) := X.out.cell 1 3 rfl rfl
  have c1_4 : u0.cell? ⟨w.heap.size + 1, 4, none⟩ = some (.int .i64 a') := X.out.cell 1 4 rfl rfl
  go_enter Try.func33, Try.ntmps33
  go_wp2_with fail
  rw [← hu0]
  clear hu0 c0_0 c0_1 c0_2 c0_3 c0_4 c1_0 c1_1 c1_2 c1_3 c1_4
  go_at_call 54
  refine (sEqCk_any _ _ l r l' r' ps ps' _ B (iC.out _ X.out.below) (jC.out _ X.out.below) (Nat.le_trans hB X.out.below.size)).mono ?_
  rintro e u1 ⟨rfl, hb⟩
  rw [← Ht1.out]
  have X := hide (X.out.up hb)
  clear hb
  have c0_0 : u1.cell? ⟨w.heap.size, 0, none⟩ = some (.slice a1 l.length c1) := X.out.cell 0 0 rfl rfl
  have c0_1 : u1.cell? ⟨w.heap.size, 1, none⟩ = some (.slice a2 r.length c2) := X.out.cell 0 1 rfl rfl
  have c0_2 : u1.cell? ⟨w.heap.size, 2, none⟩ = some (.slice a3 ps.length c3) := X.out.cell 0 2 rfl rfl
  have c0_3 : u1.cell? ⟨w.heap.size, 3, none⟩ = some (.slice a4 t.length c4) := X.out.cell 0 3 rfl rfl
  have c0_4 : u1.cell? ⟨w.heap.size, 4, none⟩ = some (.int .i64 a) := X.out.cell 0 4 rfl rfl
  have c1_0 : u1.cell? ⟨w.heap.size + 1, 0, none⟩ = some (.slice b1 l'.length k1) := X.out.cell 1 0 rfl rfl
  have c1_1 : u1.cell? ⟨w.heap.size + 1, 1, none⟩ = some (.slice b2 r'.length k2) := X.out.cell 1 1 rfl rfl
  have c1_2 : u1.cell? ⟨w.heap.size + 1, 2, none⟩ = some (.slice b3 ps'.length k3) := X.out.cell 1 2 rfl rfl
  have c1_3 : u1.cell? ⟨w.heap.size + 1, 3, none⟩ = some (.slice b4 t'.length k4) := X.out.cell 1 3 rfl rfl
  have c1_4 : u1.cell? ⟨w.heap.size + 1, 4, none⟩ = some (.int .i64 a') := X.out.cell 1 4 rfl rfl
  cases t1
  · skip
    go_wp2_with fail
    go_ret
    exact ⟨by rw [show res = false by rw [HR.out]; simp]; rfl, X.out.below⟩
  · skip
    go_wp2_with fail
    clear c0_0 c0_1 c0_2 c0_3 c0_4 c1_0 c1_1 c1_2 c1_3 c1_4
    go_at_call 90
    refine (sL4Ints_any _ _ t t' _ B (iT.out _ X.out.below) (jT.out _ X.out.below)).mono ?_
    rintro e u2 ⟨rfl, hb⟩
    rw [← Ht2.out]
    have X := hide (X.out.up hb)
    clear hb
    have c0_0 : u2.cell? ⟨w.heap.size, 0, none⟩ = some (.slice a1 l.length c1) := X.out.cell 0 0 rfl rfl
    have c0_1 : u2.cell? ⟨w.heap.size, 1, none⟩ = some (.slice a2 r.length c2) := X.out.cell 0 1 rfl rfl
    have c0_2 : u2.cell? ⟨w.heap.size, 2, none⟩ = some (.slice a3 ps.length c3) := X.out.cell 0 2 rfl rfl
    have c0_3 : u2.cell? ⟨w.heap.size, 3, none⟩ = some (.slice a4 t.length c4) := X.out.cell 0 3 rfl rfl
    have c0_4 : u2.cell? ⟨w.heap.size, 4, none⟩ = some (.int .i64 a) := X.out.cell 0 4 rfl rfl
    have c1_0 : u2.cell? ⟨w.heap.size + 1, 0, none⟩ = some (.slice b1 l'.length k1) := X.out.cell 1 0 rfl rfl
    have c1_1 : u2.cell? ⟨w.heap.size + 1, 1, none⟩ = some (.slice b2 r'.length k2) := X.out.cell 1 1 rfl rfl
    have c1_2 : u2.cell? ⟨w.heap.size + 1, 2, none⟩ = some (.slice b3 ps'.length k3) := X.out.cell 1 2 rfl rfl
    have c1_3 : u2.cell? ⟨w.heap.size + 1, 3, none⟩ = some (.slice b4 t'.length k4) := X.out.cell 1 3 rfl rfl
    have c1_4 : u2.cell? ⟨w.heap.size + 1, 4, none⟩ = some (.int .i64 a') := X.out.cell 1 4 rfl rfl
    cases t2
    · skip
      go_wp2_with fail
      go_ret
      exact ⟨by rw [show res = false by rw [HR.out]; simp]; rfl, X.out.below⟩
    · skip
      cases t3
      · skip
        go_wp2_with fail
        go_ret
        exact ⟨by rw [show res = false by rw [HR.out]; simp]; rfl, X.out.below⟩
      · skip
        go_wp2_with fail
        go_ret
        exact ⟨by rw [show res = true by rw [HR.out]; simp]; rfl, X.out.below⟩

set_option maxHeartbeats 4000000 in
theorem sAlG_any (v u : Value) (l : List Int) (r : List Int) (t : List Int) (l' : List Int) (r' : List Int) (t' : List Int) (ps : List Pv) (ps' : List Pv) (a : Int) (a' : Int) (w : World) (B : Nat) (hv : Mp w B v l r ps t a) (hu : Mp w B u l' r' ps' t' a') (hB : B ≤ w.heap.size) :
    Calls Try.prog 31 #[v, u] w (RetB1 w (alG l r ps t a l' r' ps' t' a')) := by
  obtain ⟨a1, c1, a2, c2, a3, c3, a4, c4, rfl, i1, i4⟩ := hv.form
  have Vv := hide (fun (W : World) (h : Below w.heap.size w W) => hv.below h hB)
  have iC := hide (fun (W : World) (h : Below w.heap.size w W) => i1.below h hB)
  have iT := hide (fun (W : World) (h : Below w.heap.size w W) => i4.below h hB)
  clear i1 i4 hv
  obtain ⟨b1, k1, b2, k2, b3, k3, b4, k4, rfl, j1, j4⟩ := hu.form
  have Vu := hide (fun (W : World) (h : Below w.heap.size w W) => hu.below h hB)
  have jC := hide (fun (W : World) (h : Below w.heap.size w W) => j1.below h hB)
  have jT := hide (fun (W : World) (h : Below w.heap.size w W) => j4.below h hB)
  clear j1 j4 hu
  have X := hide (Kn.two w #[.slice a1 l.length c1, .slice a2 r.length c2, .slice a3 ps.length c3, .slice a4 t.length c4, .int .i64 a] #[.slice b1 l'.length k1, .slice b2 r'.length k2, .slice b3 ps'.length k3, .slice b4 t'.length k4, .int .i64 a'] 27 27)
  obtain ⟨u0, hu0⟩ : ∃ q, q = (w.alloc (.cells #[.slice a1 l.length c1, .slice a2 r.length c2, .slice a3 ps.length c3, .slice a4 t.length c4, .int .i64 a] 27)).alloc (.cells #[.slice b1 l'.length k1, .slice b2 r'.length k2, .slice b3 ps'.length k3, .slice b4 t'.length k4, .int .i64 a'] 27) := ⟨_, rfl⟩
  rw [← hu0] at X
  obtain ⟨res, hres⟩ : ∃ q, q = alG l r ps t a l' r' ps' t' a' := ⟨_, rfl⟩
  rw [← hres]
  obtain ⟨t1, ht1⟩ : ∃ q, q = isMp l r ps t a := ⟨_, rfl⟩
  obtain ⟨t2, ht2⟩ : ∃ q, q = isMp l' r' ps' t' a' := ⟨_, rfl⟩
  obtain ⟨t3, ht3⟩ : ∃ q, q = decide (a = a') := ⟨_, rfl⟩
  obtain ⟨t4, ht4⟩ : ∃ q, q = eqC l r ps l' r' ps' := ⟨_, rfl⟩
  have HR := hide (show res = (t1 && t2 && t3 && t4) by rw [hres, ht1, ht2, ht3, ht4]; rfl)
  clear hres
  have Ht1 := hide ht1
  clear ht1
  have Ht2 := hide ht2
  clear ht2
  have Et3 : (a == a') = t3 := by rw [ht3]; exact int_beq _ _
  have Dt3 : decide (a = a') = t3 := by rw [ht3]; skip
  clear ht3
  have Ht4 := hide ht4
  clear ht4
  have c0_0 : u0.cell? ⟨w.heap.size, 0, none⟩ = some (.slice a1 l.length c1) := X.out.cell 0 0 rfl rfl
  have c0_1 : u0.cell? ⟨w.heap.size, 1, none⟩ = some (.slice a2 r.length c2) := X.out.cell 0 1 rfl rfl
  have c0_2 : u0.cell? ⟨w.heap.size, 2, none⟩ = some (.slice a3 ps.length c3) := X.out.cell 0 2 rfl rfl
  have c0_3 : u0.cell? ⟨w.heap.size, 3, none⟩ = some (.slice a4 t.length c4) := X.out.cell 0 3 rfl rfl
  have c0_4 : u0.cell? ⟨w.heap.size, 4, none⟩ = some (.int .i64 a) := X.out.cell 0 4 rfl rfl
  have c1_0 : u0.cell? ⟨w.heap.size + 1, 0, none⟩ = some (.slice b1 l'.length k1) := X.out.cell 1 0 rfl rfl
  have c1_1 : u0.cell? ⟨w.heap.size + 1, 1, none⟩ = some (.slice b2 r'.length k2) := X.out.cell 1 1 rfl rfl
  have c1_2 : u0.cell? ⟨w.heap.size + 1, 2, none⟩ = some (.slice b3 ps'.length k3) := X.out.cell 1 2 rfl rfl
  have c1_3 : u0.cell? ⟨w.heap.size + 1, 3, none⟩ = some (.slice b4 t'.length k4) := X.out.cell 1 3 rfl rfl
  have c1_4 : u0.cell? ⟨w.heap.size + 1, 4, none⟩ = some (.int .i64 a') := X.out.cell 1 4 rfl rfl
  go_enter Try.func31, Try.ntmps31
  go_wp2_with fail
  rw [← hu0]
  clear hu0 c0_0 c0_1 c0_2 c0_3 c0_4 c1_0 c1_1 c1_2 c1_3 c1_4
  go_at_call 24
  refine (sIsMp_any _ l r t ps a _ B (Vv.out _ X.out.below) (Nat.le_trans hB X.out.below.size)).mono ?_
  rintro e u1 ⟨rfl, hb⟩
  rw [← Ht1.out]
  have X := hide (X.out.up hb)
  clear hb
  have c0_0 : u1.cell? ⟨w.heap.size, 0, none⟩ = some (.slice a1 l.length c1) := X.out.cell 0 0 rfl rfl
  have c0_1 : u1.cell? ⟨w.heap.size, 1, none⟩ = some (.slice a2 r.length c2) := X.out.cell 0 1 rfl rfl
  have c0_2 : u1.cell? ⟨w.heap.size, 2, none⟩ = some (.slice a3 ps.length c3) := X.out.cell 0 2 rfl rfl
  have c0_3 : u1.cell? ⟨w.heap.size, 3, none⟩ = some (.slice a4 t.length c4) := X.out.cell 0 3 rfl rfl
  have c0_4 : u1.cell? ⟨w.heap.size, 4, none⟩ = some (.int .i64 a) := X.out.cell 0 4 rfl rfl
  have c1_0 : u1.cell? ⟨w.heap.size + 1, 0, none⟩ = some (.slice b1 l'.length k1) := X.out.cell 1 0 rfl rfl
  have c1_1 : u1.cell? ⟨w.heap.size + 1, 1, none⟩ = some (.slice b2 r'.length k2) := X.out.cell 1 1 rfl rfl
  have c1_2 : u1.cell? ⟨w.heap.size + 1, 2, none⟩ = some (.slice b3 ps'.length k3) := X.out.cell 1 2 rfl rfl
  have c1_3 : u1.cell? ⟨w.heap.size + 1, 3, none⟩ = some (.slice b4 t'.length k4) := X.out.cell 1 3 rfl rfl
  have c1_4 : u1.cell? ⟨w.heap.size + 1, 4, none⟩ = some (.int .i64 a') := X.out.cell 1 4 rfl rfl
  cases t1
  · skip
    go_wp2_with fail
    go_ret
    exact ⟨by rw [show res = false by rw [HR.out]; simp]; rfl, X.out.below⟩
  · skip
    go_wp2_with fail
    clear c0_0 c0_1 c0_2 c0_3 c0_4 c1_0 c1_1 c1_2 c1_3 c1_4
    go_at_call 24
    refine (sIsMp_any _ l' r' t' ps' a' _ B (Vu.out _ X.out.below) (Nat.le_trans hB X.out.below.size)).mono ?_
    rintro e u2 ⟨rfl, hb⟩
    rw [← Ht2.out]
    have X := hide (X.out.up hb)
    clear hb
    have c0_0 : u2.cell? ⟨w.heap.size, 0, none⟩ = some (.slice a1 l.length c1) := X.out.cell 0 0 rfl rfl
    have c0_1 : u2.cell? ⟨w.heap.size, 1, none⟩ = some (.slice a2 r.length c2) := X.out.cell 0 1 rfl rfl
    have c0_2 : u2.cell? ⟨w.heap.size, 2, none⟩ = some (.slice a3 ps.length c3) := X.out.cell 0 2 rfl rfl
    have c0_3 : u2.cell? ⟨w.heap.size, 3, none⟩ = some (.slice a4 t.length c4) := X.out.cell 0 3 rfl rfl
    have c0_4 : u2.cell? ⟨w.heap.size, 4, none⟩ = some (.int .i64 a) := X.out.cell 0 4 rfl rfl
    have c1_0 : u2.cell? ⟨w.heap.size + 1, 0, none⟩ = some (.slice b1 l'.length k1) := X.out.cell 1 0 rfl rfl
    have c1_1 : u2.cell? ⟨w.heap.size + 1, 1, none⟩ = some (.slice b2 r'.length k2) := X.out.cell 1 1 rfl rfl
    have c1_2 : u2.cell? ⟨w.heap.size + 1, 2, none⟩ = some (.slice b3 ps'.length k3) := X.out.cell 1 2 rfl rfl
    have c1_3 : u2.cell? ⟨w.heap.size + 1, 3, none⟩ = some (.slice b4 t'.length k4) := X.out.cell 1 3 rfl rfl
    have c1_4 : u2.cell? ⟨w.heap.size + 1, 4, none⟩ = some (.int .i64 a') := X.out.cell 1 4 rfl rfl
    cases t2
    · skip
      go_wp2_with fail
      go_ret
      exact ⟨by rw [show res = false by rw [HR.out]; simp]; rfl, X.out.below⟩
    · skip
      cases t3
      · skip
        go_wp2_with fail
        go_ret
        exact ⟨by rw [show res = false by rw [HR.out]; simp]; rfl, X.out.below⟩
      · skip
        go_wp2_with fail
        clear c0_0 c0_1 c0_2 c0_3 c0_4 c1_0 c1_1 c1_2 c1_3 c1_4
        go_at_call 54
        refine (sEqCk_any _ _ l r l' r' ps ps' _ B (iC.out _ X.out.below) (jC.out _ X.out.below) (Nat.le_trans hB X.out.below.size)).mono ?_
        rintro e u3 ⟨rfl, hb⟩
        rw [← Ht4.out]
        have X := hide (X.out.up hb)
        clear hb
        have c0_0 : u3.cell? ⟨w.heap.size, 0, none⟩ = some (.slice a1 l.length c1) := X.out.cell 0 0 rfl rfl
        have c0_1 : u3.cell? ⟨w.heap.size, 1, none⟩ = some (.slice a2 r.length c2) := X.out.cell 0 1 rfl rfl
        have c0_2 : u3.cell? ⟨w.heap.size, 2, none⟩ = some (.slice a3 ps.length c3) := X.out.cell 0 2 rfl rfl
        have c0_3 : u3.cell? ⟨w.heap.size, 3, none⟩ = some (.slice a4 t.length c4) := X.out.cell 0 3 rfl rfl
        have c0_4 : u3.cell? ⟨w.heap.size, 4, none⟩ = some (.int .i64 a) := X.out.cell 0 4 rfl rfl
        have c1_0 : u3.cell? ⟨w.heap.size + 1, 0, none⟩ = some (.slice b1 l'.length k1) := X.out.cell 1 0 rfl rfl
        have c1_1 : u3.cell? ⟨w.heap.size + 1, 1, none⟩ = some (.slice b2 r'.length k2) := X.out.cell 1 1 rfl rfl
        have c1_2 : u3.cell? ⟨w.heap.size + 1, 2, none⟩ = some (.slice b3 ps'.length k3) := X.out.cell 1 2 rfl rfl
        have c1_3 : u3.cell? ⟨w.heap.size + 1, 3, none⟩ = some (.slice b4 t'.length k4) := X.out.cell 1 3 rfl rfl
        have c1_4 : u3.cell? ⟨w.heap.size + 1, 4, none⟩ = some (.int .i64 a') := X.out.cell 1 4 rfl rfl
        cases t4
        · skip
          go_wp2_with fail
          go_ret
          exact ⟨by rw [show res = false by rw [HR.out]; simp]; rfl, X.out.below⟩
        · skip
          go_wp2_with fail
          go_ret
          exact ⟨by rw [show res = true by rw [HR.out]; simp]; rfl, X.out.below⟩

set_option maxHeartbeats 4000000 in
theorem iEqMp_any (v u : Value) (l : List Int) (r : List Int) (t : List Int) (l' : List Int) (r' : List Int) (t' : List Int) (ps : List Pv) (ps' : List Pv) (a : Int) (a' : Int) (w : World) (B : Nat) (hv : Mp w B v l r ps t a) (hu : Mp w B u l' r' ps' t' a') (hB : B ≤ w.heap.size) :
    Calls Try.prog 34 #[v, u] w (RetB1 w (eqM l r ps t a l' r' ps' t' a')) := by
  obtain ⟨a1, c1, a2, c2, a3, c3, a4, c4, rfl, i1, i4⟩ := hv.form
  have Vv := hide (fun (W : World) (h : Below w.heap.size w W) => hv.below h hB)
  have iC := hide (fun (W : World) (h : Below w.heap.size w W) => i1.below h hB)
  have iT := hide (fun (W : World) (h : Below w.heap.size w W) => i4.below h hB)
  clear i1 i4 hv
  obtain ⟨b1, k1, b2, k2, b3, k3, b4, k4, rfl, j1, j4⟩ := hu.form
  have Vu := hide (fun (W : World) (h : Below w.heap.size w W) => hu.below h hB)
  have jC := hide (fun (W : World) (h : Below w.heap.size w W) => j1.below h hB)
  have jT := hide (fun (W : World) (h : Below w.heap.size w W) => j4.below h hB)
  clear j1 j4 hu
  have X := hide (Kn.two w #[.slice a1 l.length c1, .slice a2 r.length c2, .slice a3 ps.length c3, .slice a4 t.length c4, .int .i64 a] #[.slice b1 l'.length k1, .slice b2 r'.length k2, .slice b3 ps'.length k3, .slice b4 t'.length k4, .int .i64 a'] 27 27)
  obtain ⟨u0, hu0⟩ : ∃ q, q = (w.alloc (.cells #[.slice a1 l.length c1, .slice a2 r.length c2, .slice a3 ps.length c3, .slice a4 t.length c4, .int .i64 a] 27)).alloc (.cells #[.slice b1 l'.length k1, .slice b2 r'.length k2, .slice b3 ps'.length k3, .slice b4 t'.length k4, .int .i64 a'] 27) := ⟨_, rfl⟩
  rw [← hu0] at X
  obtain ⟨res, hres⟩ : ∃ q, q = eqM l r ps t a l' r' ps' t' a' := ⟨_, rfl⟩
  rw [← hres]
  obtain ⟨t1, ht1⟩ : ∃ q, q = eqC l r ps l' r' ps' := ⟨_, rfl⟩
  obtain ⟨t2, ht2⟩ : ∃ q, q = decide (t = t') := ⟨_, rfl⟩
  obtain ⟨t3, ht3⟩ : ∃ q, q = decide (a = a') := ⟨_, rfl⟩
  have HR := hide (show res = (t1 && t2 && t3) by rw [hres, ht1, ht2, ht3]; rfl)
  clear hres
  have Ht1 := hide ht1
  clear ht1
  have Ht2 := hide ht2
  clear ht2
  have Et3 : (a == a') = t3 := by rw [ht3]; exact int_beq _ _
  have Dt3 : decide (a = a') = t3 := by rw [ht3]; skip
  clear ht3
  have c0_0 : u0.cell? ⟨w.heap.size, 0, none⟩ = some (.slice a1 l.length c1) := X.out.cell 0 0 rfl rfl
  have c0_1 : u0.cell? ⟨w.heap.size, 1, none⟩ = some (.slice a2 r.length c2) := X.out.cell 0 1 rfl rfl
  have c0_2 : u0.cell? ⟨w.heap.size, 2, none⟩ = some (.slice a3 ps.length c3) := X.out.cell 0 2 rfl rfl
  have c0_3 : u0.cell? ⟨w.heap.size, 3, none⟩ = some (.slice a4 t.length c4) := X.out.cell 0 3 rfl rfl
  have c0_4 : u0.cell? ⟨w.heap.size, 4, none⟩ = some (.int .i64 a) := X.out.cell 0 4 rfl rfl
  have c1_0 : u0.cell? ⟨w.heap.size + 1, 0, none⟩ = some (.slice b1 l'.length k1) := X.out.cell 1 0 rfl rfl
  have c1_1 : u0.cell? ⟨w.heap.size + 1, 1, none⟩ = some (.slice b2 r'.length k2) := X.out.cell 1 1 rfl rfl
  have c1_2 : u0.cell? ⟨w.heap.size + 1, 2, none⟩ = some (.slice b3 ps'.length k3) := X.out.cell 1 2 rfl rfl
  have c1_3 : u0.cell? ⟨w.heap.size + 1, 3, none⟩ = some (.slice b4 t'.length k4) := X.out.cell 1 3 rfl rfl
  have c1_4 : u0.cell? ⟨w.heap.size + 1, 4, none⟩ = some (.int .i64 a') := X.out.cell 1 4 rfl rfl
  go_enter Try.func34, Try.ntmps34
  go_wp2_with fail
  rw [← hu0]
  clear hu0 c0_0 c0_1 c0_2 c0_3 c0_4 c1_0 c1_1 c1_2 c1_3 c1_4
  go_at_call 89
  refine (iEqCk_any _ _ l r l' r' ps ps' _ B (iC.out _ X.out.below) (jC.out _ X.out.below) (Nat.le_trans hB X.out.below.size)).mono ?_
  rintro e u1 ⟨rfl, hb⟩
  rw [← Ht1.out]
  have X := hide (X.out.up hb)
  clear hb
  have c0_0 : u1.cell? ⟨w.heap.size, 0, none⟩ = some (.slice a1 l.length c1) := X.out.cell 0 0 rfl rfl
  have c0_1 : u1.cell? ⟨w.heap.size, 1, none⟩ = some (.slice a2 r.length c2) := X.out.cell 0 1 rfl rfl
  have c0_2 : u1.cell? ⟨w.heap.size, 2, none⟩ = some (.slice a3 ps.length c3) := X.out.cell 0 2 rfl rfl
  have c0_3 : u1.cell? ⟨w.heap.size, 3, none⟩ = some (.slice a4 t.length c4) := X.out.cell 0 3 rfl rfl
  have c0_4 : u1.cell? ⟨w.heap.size, 4, none⟩ = some (.int .i64 a) := X.out.cell 0 4 rfl rfl
  have c1_0 : u1.cell? ⟨w.heap.size + 1, 0, none⟩ = some (.slice b1 l'.length k1) := X.out.cell 1 0 rfl rfl
  have c1_1 : u1.cell? ⟨w.heap.size + 1, 1, none⟩ = some (.slice b2 r'.length k2) := X.out.cell 1 1 rfl rfl
  have c1_2 : u1.cell? ⟨w.heap.size + 1, 2, none⟩ = some (.slice b3 ps'.length k3) := X.out.cell 1 2 rfl rfl
  have c1_3 : u1.cell? ⟨w.heap.size + 1, 3, none⟩ = some (.slice b4 t'.length k4) := X.out.cell 1 3 rfl rfl
  have c1_4 : u1.cell? ⟨w.heap.size + 1, 4, none⟩ = some (.int .i64 a') := X.out.cell 1 4 rfl rfl
  cases t1
  · skip
    go_wp2_with fail
    go_ret
    exact ⟨by rw [show res = false by rw [HR.out]; simp]; rfl, X.out.below⟩
  · skip
    go_wp2_with fail
    clear c0_0 c0_1 c0_2 c0_3 c0_4 c1_0 c1_1 c1_2 c1_3 c1_4
    go_at_call 91
    refine (iEqInts_any _ _ t t' _ B (iT.out _ X.out.below) (jT.out _ X.out.below)).mono ?_
    rintro e u2 ⟨rfl, hb⟩
    rw [← Ht2.out]
    have X := hide (X.out.up hb)
    clear hb
    have c0_0 : u2.cell? ⟨w.heap.size, 0, none⟩ = some (.slice a1 l.length c1) := X.out.cell 0 0 rfl rfl
    have c0_1 : u2.cell? ⟨w.heap.size, 1, none⟩ = some (.slice a2 r.length c2) := X.out.cell 0 1 rfl rfl
    have c0_2 : u2.cell? ⟨w.heap.size, 2, none⟩ = some (.slice a3 ps.length c3) := X.out.cell 0 2 rfl rfl
    have c0_3 : u2.cell? ⟨w.heap.size, 3, none⟩ = some (.slice a4 t.length c4) := X.out.cell 0 3 rfl rfl
    have c0_4 : u2.cell? ⟨w.heap.size, 4, none⟩ = some (.int .i64 a) := X.out.cell 0 4 rfl rfl
    have c1_0 : u2.cell? ⟨w.heap.size + 1, 0, none⟩ = some (.slice b1 l'.length k1) := X.out.cell 1 0 rfl rfl
    have c1_1 : u2.cell? ⟨w.heap.size + 1, 1, none⟩ = some (.slice b2 r'.length k2) := X.out.cell 1 1 rfl rfl
    have c1_2 : u2.cell? ⟨w.heap.size + 1, 2, none⟩ = some (.slice b3 ps'.length k3) := X.out.cell 1 2 rfl rfl
    have c1_3 : u2.cell? ⟨w.heap.size + 1, 3, none⟩ = some (.slice b4 t'.length k4) := X.out.cell 1 3 rfl rfl
    have c1_4 : u2.cell? ⟨w.heap.size + 1, 4, none⟩ = some (.int .i64 a') := X.out.cell 1 4 rfl rfl
    cases t2
    · skip
      go_wp2_with fail
      go_ret
      exact ⟨by rw [show res = false by rw [HR.out]; simp]; rfl, X.out.below⟩
    · skip
      cases t3
      · skip
        go_wp2_with fail
        go_ret
        exact ⟨by rw [show res = false by rw [HR.out]; simp]; rfl, X.out.below⟩
      · skip
        go_wp2_with fail
        go_ret
        exact ⟨by rw [show res = true by rw [HR.out]; simp]; rfl, X.out.below⟩

set_option maxHeartbeats 4000000 in
theorem iAlG_any (v u : Value) (l : List Int) (r : List Int) (t : List Int) (l' : List Int) (r' : List Int) (t' : List Int) (ps : List Pv) (ps' : List Pv) (a : Int) (a' : Int) (w : World) (B : Nat) (hv : Mp w B v l r ps t a) (hu : Mp w B u l' r' ps' t' a') (hB : B ≤ w.heap.size) :
    Calls Try.prog 32 #[v, u] w (RetB1 w (alG l r ps t a l' r' ps' t' a')) := by
  obtain ⟨a1, c1, a2, c2, a3, c3, a4, c4, rfl, i1, i4⟩ := hv.form
  have Vv := hide (fun (W : World) (h : Below w.heap.size w W) => hv.below h hB)
  have iC := hide (fun (W : World) (h : Below w.heap.size w W) => i1.below h hB)
  have iT := hide (fun (W : World) (h : Below w.heap.size w W) => i4.below h hB)
  clear i1 i4 hv
  obtain ⟨b1, k1, b2, k2, b3, k3, b4, k4, rfl, j1, j4⟩ := hu.form
  have Vu := hide (fun (W : World) (h : Below w.heap.size w W) => hu.below h hB)
  have jC := hide (fun (W : World) (h : Below w.heap.size w W) => j1.below h hB)
  have jT := hide (fun (W : World) (h : Below w.heap.size w W) => j4.below h hB)
  clear j1 j4 hu
  have X := hide (Kn.two w #[.slice a1 l.length c1, .slice a2 r.length c2, .slice a3 ps.length c3, .slice a4 t.length c4, .int .i64 a] #[.slice b1 l'.length k1, .slice b2 r'.length k2, .slice b3 ps'.length k3, .slice b4 t'.length k4, .int .i64 a'] 27 27)
  obtain ⟨u0, hu0⟩ : ∃ q, q = (w.alloc (.cells #[.slice a1 l.length c1, .slice a2 r.length c2, .slice a3 ps.length c3, .slice a4 t.length c4, .int .i64 a] 27)).alloc (.cells #[.slice b1 l'.length k1, .slice b2 r'.length k2, .slice b3 ps'.length k3, .slice b4 t'.length k4, .int .i64 a'] 27) := ⟨_, rfl⟩
  rw [← hu0] at X
  obtain ⟨res, hres⟩ : ∃ q, q = alG l r ps t a l' r' ps' t' a' := ⟨_, rfl⟩
  rw [← hres]
  obtain ⟨t1, ht1⟩ : ∃ q, q = isMp l r ps t a := ⟨_, rfl⟩
  obtain ⟨t2, ht2⟩ : ∃ q, q = isMp l' r' ps' t' a' := ⟨_, rfl⟩
  obtain ⟨t3, ht3⟩ : ∃ q, q = decide (a = a') := ⟨_, rfl⟩
  obtain ⟨t4, ht4⟩ : ∃ q, q = eqC l r ps l' r' ps' := ⟨_, rfl⟩
  have HR := hide (show res = (t1 && t2 && t3 && t4) by rw [hres, ht1, ht2, ht3, ht4]; rfl)
  clear hres
  have Ht1 := hide ht1
  clear ht1
  have Ht2 := hide ht2
  clear ht2
  have Et3 : (a == a') = t3 := by rw [ht3]; exact int_beq _ _
  have Dt3 : decide (a = a') = t3 := by rw [ht3]; skip
  clear ht3
  have Ht4 := hide ht4
  clear ht4
  have c0_0 : u0.cell? ⟨w.heap.size, 0, none⟩ = some (.slice a1 l.length c1) := X.out.cell 0 0 rfl rfl
  have c0_1 : u0.cell? ⟨w.heap.size, 1, none⟩ = some (.slice a2 r.length c2) := X.out.cell 0 1 rfl rfl
  have c0_2 : u0.cell? ⟨w.heap.size, 2, none⟩ = some (.slice a3 ps.length c3) := X.out.cell 0 2 rfl rfl
  have c0_3 : u0.cell? ⟨w.heap.size, 3, none⟩ = some (.slice a4 t.length c4) := X.out.cell 0 3 rfl rfl
  have c0_4 : u0.cell? ⟨w.heap.size, 4, none⟩ = some (.int .i64 a) := X.out.cell 0 4 rfl rfl
  have c1_0 : u0.cell? ⟨w.heap.size + 1, 0, none⟩ = some (.slice b1 l'.length k1) := X.out.cell 1 0 rfl rfl
  have c1_1 : u0.cell? ⟨w.heap.size + 1, 1, none⟩ = some (.slice b2 r'.length k2) := X.out.cell 1 1 rfl rfl
  have c1_2 : u0.cell? ⟨w.heap.size + 1, 2, none⟩ = some (.slice b3 ps'.length k3) := X.out.cell 1 2 rfl rfl
  have c1_3 : u0.cell? ⟨w.heap.size + 1, 3, none⟩ = some (.slice b4 t'.length k4) := X.out.cell 1 3 rfl rfl
  have c1_4 : u0.cell? ⟨w.heap.size + 1, 4, none⟩ = some (.int .i64 a') := X.out.cell 1 4 rfl rfl
  go_enter Try.func32, Try.ntmps32
  go_wp2_with fail
  rw [← hu0]
  clear hu0 c0_0 c0_1 c0_2 c0_3 c0_4 c1_0 c1_1 c1_2 c1_3 c1_4
  go_at_call 26
  refine (iIsMp_any _ l r t ps a _ B (Vv.out _ X.out.below) (Nat.le_trans hB X.out.below.size)).mono ?_
  rintro e u1 ⟨rfl, hb⟩
  rw [← Ht1.out]
  have X := hide (X.out.up hb)
  clear hb
  have c0_0 : u1.cell? ⟨w.heap.size, 0, none⟩ = some (.slice a1 l.length c1) := X.out.cell 0 0 rfl rfl
  have c0_1 : u1.cell? ⟨w.heap.size, 1, none⟩ = some (.slice a2 r.length c2) := X.out.cell 0 1 rfl rfl
  have c0_2 : u1.cell? ⟨w.heap.size, 2, none⟩ = some (.slice a3 ps.length c3) := X.out.cell 0 2 rfl rfl
  have c0_3 : u1.cell? ⟨w.heap.size, 3, none⟩ = some (.slice a4 t.length c4) := X.out.cell 0 3 rfl rfl
  have c0_4 : u1.cell? ⟨w.heap.size, 4, none⟩ = some (.int .i64 a) := X.out.cell 0 4 rfl rfl
  have c1_0 : u1.cell? ⟨w.heap.size + 1, 0, none⟩ = some (.slice b1 l'.length k1) := X.out.cell 1 0 rfl rfl
  have c1_1 : u1.cell? ⟨w.heap.size + 1, 1, none⟩ = some (.slice b2 r'.length k2) := X.out.cell 1 1 rfl rfl
  have c1_2 : u1.cell? ⟨w.heap.size + 1, 2, none⟩ = some (.slice b3 ps'.length k3) := X.out.cell 1 2 rfl rfl
  have c1_3 : u1.cell? ⟨w.heap.size + 1, 3, none⟩ = some (.slice b4 t'.length k4) := X.out.cell 1 3 rfl rfl
  have c1_4 : u1.cell? ⟨w.heap.size + 1, 4, none⟩ = some (.int .i64 a') := X.out.cell 1 4 rfl rfl
  cases t1
  · skip
    go_wp2_with fail
    go_ret
    exact ⟨by rw [show res = false by rw [HR.out]; simp]; rfl, X.out.below⟩
  · skip
    go_wp2_with fail
    clear c0_0 c0_1 c0_2 c0_3 c0_4 c1_0 c1_1 c1_2 c1_3 c1_4
    go_at_call 26
    refine (iIsMp_any _ l' r' t' ps' a' _ B (Vu.out _ X.out.below) (Nat.le_trans hB X.out.below.size)).mono ?_
    rintro e u2 ⟨rfl, hb⟩
    rw [← Ht2.out]
    have X := hide (X.out.up hb)
    clear hb
    have c0_0 : u2.cell? ⟨w.heap.size, 0, none⟩ = some (.slice a1 l.length c1) := X.out.cell 0 0 rfl rfl
    have c0_1 : u2.cell? ⟨w.heap.size, 1, none⟩ = some (.slice a2 r.length c2) := X.out.cell 0 1 rfl rfl
    have c0_2 : u2.cell? ⟨w.heap.size, 2, none⟩ = some (.slice a3 ps.length c3) := X.out.cell 0 2 rfl rfl
    have c0_3 : u2.cell? ⟨w.heap.size, 3, none⟩ = some (.slice a4 t.length c4) := X.out.cell 0 3 rfl rfl
    have c0_4 : u2.cell? ⟨w.heap.size, 4, none⟩ = some (.int .i64 a) := X.out.cell 0 4 rfl rfl
    have c1_0 : u2.cell? ⟨w.heap.size + 1, 0, none⟩ = some (.slice b1 l'.length k1) := X.out.cell 1 0 rfl rfl
    have c1_1 : u2.cell? ⟨w.heap.size + 1, 1, none⟩ = some (.slice b2 r'.length k2) := X.out.cell 1 1 rfl rfl
    have c1_2 : u2.cell? ⟨w.heap.size + 1, 2, none⟩ = some (.slice b3 ps'.length k3) := X.out.cell 1 2 rfl rfl
    have c1_3 : u2.cell? ⟨w.heap.size + 1, 3, none⟩ = some (.slice b4 t'.length k4) := X.out.cell 1 3 rfl rfl
    have c1_4 : u2.cell? ⟨w.heap.size + 1, 4, none⟩ = some (.int .i64 a') := X.out.cell 1 4 rfl rfl
    cases t2
    · skip
      go_wp2_with fail
      go_ret
      exact ⟨by rw [show res = false by rw [HR.out]; simp]; rfl, X.out.below⟩
    · skip
      go_wp2_with fail
      clear c0_0 c0_1 c0_2 c0_3 c0_4 c1_0 c1_1 c1_2 c1_3 c1_4
      go_at_call 89
      refine (iEqCk_any _ _ l r l' r' ps ps' _ B (iC.out _ X.out.below) (jC.out _ X.out.below) (Nat.le_trans hB X.out.below.size)).mono ?_
      rintro e u3 ⟨rfl, hb⟩
      rw [← Ht4.out]
      have X := hide (X.out.up hb)
      clear hb
      have c0_0 : u3.cell? ⟨w.heap.size, 0, none⟩ = some (.slice a1 l.length c1) := X.out.cell 0 0 rfl rfl
      have c0_1 : u3.cell? ⟨w.heap.size, 1, none⟩ = some (.slice a2 r.length c2) := X.out.cell 0 1 rfl rfl
      have c0_2 : u3.cell? ⟨w.heap.size, 2, none⟩ = some (.slice a3 ps.length c3) := X.out.cell 0 2 rfl rfl
      have c0_3 : u3.cell? ⟨w.heap.size, 3, none⟩ = some (.slice a4 t.length c4) := X.out.cell 0 3 rfl rfl
      have c0_4 : u3.cell? ⟨w.heap.size, 4, none⟩ = some (.int .i64 a) := X.out.cell 0 4 rfl rfl
      have c1_0 : u3.cell? ⟨w.heap.size + 1, 0, none⟩ = some (.slice b1 l'.length k1) := X.out.cell 1 0 rfl rfl
      have c1_1 : u3.cell? ⟨w.heap.size + 1, 1, none⟩ = some (.slice b2 r'.length k2) := X.out.cell 1 1 rfl rfl
      have c1_2 : u3.cell? ⟨w.heap.size + 1, 2, none⟩ = some (.slice b3 ps'.length k3) := X.out.cell 1 2 rfl rfl
      have c1_3 : u3.cell? ⟨w.heap.size + 1, 3, none⟩ = some (.slice b4 t'.length k4) := X.out.cell 1 3 rfl rfl
      have c1_4 : u3.cell? ⟨w.heap.size + 1, 4, none⟩ = some (.int .i64 a') := X.out.cell 1 4 rfl rfl
      cases t4
      · skip
        go_wp2_with fail
        go_ret
        exact ⟨by rw [show res = false by rw [HR.out]; simp]; rfl, X.out.below⟩
      · skip
        cases t3
        · skip
          go_wp2_with fail
          go_ret
          exact ⟨by rw [show res = false by rw [HR.out]; simp]; rfl, X.out.below⟩
        · skip
          go_wp2_with fail
          go_ret
          exact ⟨by rw [show res = true by rw [HR.out]; simp]; rfl, X.out.below⟩

end Go.Proofs.Ytepkkeclkdlheaa
