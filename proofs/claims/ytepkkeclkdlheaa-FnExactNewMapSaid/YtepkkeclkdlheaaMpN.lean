/- What NewMap returns (gen_nm.py; promise 8). -/
import Derived.Test.YtepkkeclkdlheaaMpB
import Derived.Test.YtepkkeclkdlheaaMpC
import Derived.Test.YtepkkeclkdlheaaNw
namespace Go.Proofs.Ytepkkeclkdlheaa
open Go.RowKit Go.ChangeShapes
set_option linter.unusedSimpArgs false
set_option linter.unusedVariables false
set_option maxRecDepth 100000

theorem int_len_bne (x y : Nat) : ((x : Int) != (y : Int)) = !decide (x = y) := by
  rw [bne, int_len_beq]

theorem cap_of {v : Value} {a : Option Addr} {n c : Nat} (h : Cap v) (e : v = .slice a n c) : a = none → c = 0 := by
  obtain ⟨a', n', c', e', -, h1⟩ := h
  rw [e'] at e
  simp only [Value.slice.injEq] at e
  obtain ⟨rfl, -, rfl⟩ := e
  exact h1

theorem MpO.none {w : World} {n m : Nat} (h : n ≤ m) (hm : m ≤ w.heap.size) : MpO w (.agg #[.slice none 0 0, .slice none 0 0, .slice none 0 0, .slice none 0 0, .int .i64 0]) [] [] [] [] 0 n m :=
  ⟨_, _, _, _, n, n, n, n, rfl, ⟨_, _, _, _, _, _, _, _, _, rfl, OC.nil (Nat.le_trans h hm)⟩, Ow.nil (Nat.le_trans h hm), ⟨Nat.le_refl _, Nat.le_refl _, h, h, .inl (Nat.le_refl _)⟩, h, hm⟩

set_option maxHeartbeats 4000000 in
theorem sNewMp_any (u v : Value) (h t : List Int) (w : World) (B : Nat) (hu : Ints w B u h) (cu : Cap u) (hv : Ints w B v t) (cv : Cap v) (hB : B ≤ w.heap.size) :
    Calls Try.prog 15 #[u, v] w (RetMpO w (nmL h t) (nmR h t) [] (nmT h t) 0) := by
  obtain ⟨a1, c1, rfl⟩ := hu.form
  obtain ⟨a2, c2, rfl⟩ := hv.form
  have HN2 := hide (cap_of cv rfl)
  have CU := hide cu
  clear cu cv
  have X := hide (Kn.one w #[.slice none 0 0, .slice none 0 0, .slice none 0 0, .slice none 0 0, .int .i64 0] 27)
  obtain ⟨u0, hu0⟩ : ∃ q, q = w.alloc (.cells #[.slice none 0 0, .slice none 0 0, .slice none 0 0, .slice none 0 0, .int .i64 0] 27) := ⟨_, rfl⟩
  rw [← hu0] at X
  have hz0 := hide (show u0.heap.size = w.heap.size + 1 by rw [hu0]; simp)
  have HU := hide (fun (W : World) (h : Below w.heap.size w W) => hu.below h hB)
  have HV := hide (fun (W : World) (h : Below w.heap.size w W) => hv.below h hB)
  clear hu hv
  obtain ⟨t1, ht1⟩ : ∃ q, q = areVals h := ⟨_, rfl⟩
  obtain ⟨t2, ht2⟩ : ∃ q, q = areVals t := ⟨_, rfl⟩
  obtain ⟨t3, ht3⟩ : ∃ q, q = decide (h.length = t.length) := ⟨_, rfl⟩
  have HR := hide (show nmOk h t = (t1 && t2 && t3) by rw [ht1, ht2, ht3]; rfl)
  have N3 : ((h.length : Int) != (t.length : Int)) = !t3 := by rw [ht3]; exact int_len_bne _ _
  have Ht1 := hide ht1
  have Ht2 := hide ht2
  have Ht3 := hide ht3
  clear ht1 ht2 ht3
  obtain ⟨L, hL⟩ : ∃ q, q = nmL h t := ⟨_, rfl⟩
  obtain ⟨R, hR⟩ : ∃ q, q = nmR h t := ⟨_, rfl⟩
  obtain ⟨T, hT⟩ : ∃ q, q = nmT h t := ⟨_, rfl⟩
  have HL := hide (And.intro hL (And.intro hR hT))
  rw [← hL, ← hR, ← hT]
  clear hL hR hT
  go_enter Try.func15, Try.ntmps15
  go_wp2_with fail
  rw [← hu0]
  clear hu0
  go_at_call 74
  refine (sVals_any _ h _ B (HU.out _ X.out.below)).mono ?_
  rintro e u1 ⟨rfl, hb⟩
  rw [← Ht1.out]
  have X := hide (X.out.up hb)
  have hz1 := hide hb.size
  clear hb
  cases t1
  · skip
    have c0 := X.out.cell 0 0 rfl rfl
    have f0 := X.out.free 0 0 rfl
    have c1 := X.out.cell 0 1 rfl rfl
    have f1 := X.out.free 0 1 rfl
    have c2 := X.out.cell 0 2 rfl rfl
    have f2 := X.out.free 0 2 rfl
    have c3 := X.out.cell 0 3 rfl rfl
    have f3 := X.out.free 0 3 rfl
    have c4 := X.out.cell 0 4 rfl rfl
    have f4 := X.out.free 0 4 rfl
    have Z := (((((X.out.set 0 0 rfl (.slice none 0 0)).set 0 1 rfl (.slice none 0 0)).set 0 2 rfl (.slice none 0 0)).set 0 3 rfl (.slice none 0 0)).set 0 4 rfl (.int .i64 0))
    have z0 := Z.cell 0 0 rfl rfl
    have z1 := Z.cell 0 1 rfl rfl
    have z2 := Z.cell 0 2 rfl rfl
    have z3 := Z.cell 0 3 rfl rfl
    have z4 := Z.cell 0 4 rfl rfl
    go_wp2_with fail
    have ok : ¬ nmOk h t = true := by rw [HR.out]; simp
    obtain ⟨e1, e2, e3⟩ := HL.out
    rw [e1, e2, e3]
    unfold nmL nmR nmT
    rw [if_neg ok, if_neg ok, if_neg ok]
    exact bodyPost_ret (v := .agg #[.slice none 0 0, .slice none 0 0, .slice none 0 0, .slice none 0 0, .int .i64 0]) (by simp [results, Try.results15, go_sem, z0, z1, z2, z3, z4]) rfl ⟨_, rfl, MpO.none Z.below.size (Nat.le_refl _), Z.below⟩
  · skip
    go_wp2_with fail
    go_at_call 74
    refine (sVals_any _ t _ B (HV.out _ X.out.below)).mono ?_
    rintro e u2 ⟨rfl, hb⟩
    rw [← Ht2.out]
    have X := hide (X.out.up hb)
    have hz2 := hide hb.size
    clear hb
    cases t2
    · skip
      have c0 := X.out.cell 0 0 rfl rfl
      have f0 := X.out.free 0 0 rfl
      have c1 := X.out.cell 0 1 rfl rfl
      have f1 := X.out.free 0 1 rfl
      have c2 := X.out.cell 0 2 rfl rfl
      have f2 := X.out.free 0 2 rfl
      have c3 := X.out.cell 0 3 rfl rfl
      have f3 := X.out.free 0 3 rfl
      have c4 := X.out.cell 0 4 rfl rfl
      have f4 := X.out.free 0 4 rfl
      have Z := (((((X.out.set 0 0 rfl (.slice none 0 0)).set 0 1 rfl (.slice none 0 0)).set 0 2 rfl (.slice none 0 0)).set 0 3 rfl (.slice none 0 0)).set 0 4 rfl (.int .i64 0))
      have z0 := Z.cell 0 0 rfl rfl
      have z1 := Z.cell 0 1 rfl rfl
      have z2 := Z.cell 0 2 rfl rfl
      have z3 := Z.cell 0 3 rfl rfl
      have z4 := Z.cell 0 4 rfl rfl
      go_wp2_with fail
      have ok : ¬ nmOk h t = true := by rw [HR.out]; simp
      obtain ⟨e1, e2, e3⟩ := HL.out
      rw [e1, e2, e3]
      unfold nmL nmR nmT
      rw [if_neg ok, if_neg ok, if_neg ok]
      exact bodyPost_ret (v := .agg #[.slice none 0 0, .slice none 0 0, .slice none 0 0, .slice none 0 0, .int .i64 0]) (by simp [results, Try.results15, go_sem, z0, z1, z2, z3, z4]) rfl ⟨_, rfl, MpO.none Z.below.size (Nat.le_refl _), Z.below⟩
    · cases t3
      · skip
        have c0 := X.out.cell 0 0 rfl rfl
        have f0 := X.out.free 0 0 rfl
        have c1 := X.out.cell 0 1 rfl rfl
        have f1 := X.out.free 0 1 rfl
        have c2 := X.out.cell 0 2 rfl rfl
        have f2 := X.out.free 0 2 rfl
        have c3 := X.out.cell 0 3 rfl rfl
        have f3 := X.out.free 0 3 rfl
        have c4 := X.out.cell 0 4 rfl rfl
        have f4 := X.out.free 0 4 rfl
        have Z := (((((X.out.set 0 0 rfl (.slice none 0 0)).set 0 1 rfl (.slice none 0 0)).set 0 2 rfl (.slice none 0 0)).set 0 3 rfl (.slice none 0 0)).set 0 4 rfl (.int .i64 0))
        have z0 := Z.cell 0 0 rfl rfl
        have z1 := Z.cell 0 1 rfl rfl
        have z2 := Z.cell 0 2 rfl rfl
        have z3 := Z.cell 0 3 rfl rfl
        have z4 := Z.cell 0 4 rfl rfl
        go_wp2_with fail
        have ok : ¬ nmOk h t = true := by rw [HR.out]; simp
        obtain ⟨e1, e2, e3⟩ := HL.out
        rw [e1, e2, e3]
        unfold nmL nmR nmT
        rw [if_neg ok, if_neg ok, if_neg ok]
        exact bodyPost_ret (v := .agg #[.slice none 0 0, .slice none 0 0, .slice none 0 0, .slice none 0 0, .int .i64 0]) (by simp [results, Try.results15, go_sem, z0, z1, z2, z3, z4]) rfl ⟨_, rfl, MpO.none Z.below.size (Nat.le_refl _), Z.below⟩
      · skip
        have ok : nmOk h t = true := by rw [HR.out]; rfl
        obtain ⟨e1, e2, e3⟩ := HL.out
        unfold nmL at e1
        unfold nmR at e2
        unfold nmT at e3
        rw [if_pos ok] at e1 e2 e3
        have HE := hide (And.intro e1 (And.intro e2 e3))
        clear ok HL e1 e2 e3
        have hl1 := hide (areVals_len Ht1.out.symm)
        have hl2 := hide (areVals_len Ht2.out.symm)
        have el : newL h = h := by unfold newL; rw [← Ht1.out]; rfl
        have er : newR h = rowsN h.length := by unfold newR; rw [← Ht1.out]; rfl
        go_wp2_with fail
        go_at_call 75
        refine (sNewR_any _ h _ B (HU.out _ X.out.below) CU.out (Nat.le_trans hB X.out.below.size)).mono ?_
        rw [el, er]
        rintro e u3 ⟨x1, x2, x3, lo, hi, n1, h1, n2, h2, n3, h3, rfl, g1, g2, ho, hb⟩
        clear el er
        have O1 := hide (Oc.of ho g1 g2 (Nat.le_refl _))
        clear ho g1 g2
        obtain ⟨b1, k1, b2, k2, b3, k3, hf⟩ := O1.out.form
        injection hf with hf
        injection hf with hf
        injection hf with q1 hf
        injection hf with q2 hf
        injection hf with q3 hf
        subst q1 q2 q3
        clear hf
        have X := hide (X.out.up hb)
        have hz3 := hide hb.size
        clear hb
        have HO := hide ((HV.out _ X.out.below).below (below1 u3 (.cells #[] 3)) (Nat.le_trans hB X.out.below.size))
        obtain ⟨i0, hi0, hi1, hi2, hi3⟩ := info_parts infoI
        have HI := hide (And.intro hi0 (And.intro hi1 (And.intro hi2 hi3)))
        clear hi0 hi1 hi2 hi3
        go_wp2_with (first | (at_builtin; refine append_list (u3.alloc (.cells #[] 3)) rfl _ _ 22 rfl u3.heap.size 3 i0 _ 1 8 Try.underlying22 HI.out.1 HI.out.2.1 HI.out.2.2.1 HI.out.2.2.2 (by first | rfl | decide) (by decide) (by decide) _ rfl (World.ownsRow_made u3 #[] 0 (Nat.le_refl _) (by unfold maxLen; omega) rfl) u3.heap.size rfl a2 t.length c2 (intVs t) rfl (fun h => ⟨by subst h; exact ints_nil HO.out, HN2.out h⟩) (by simp [intVs]) (ints_news HO.out) (intVs_cell t) (by have := hl2.out; omega) (by simp) ?_; intro v4 u4 hown4 hgr; have hown4 : Is u4 u3.heap.size 3 v4 t := hown4; have hb : Below u3.heap.size u3 u4 := ((Below.refl u3.heap.size u3).alloc (Nat.le_refl _) _).grown hgr (by simp) (by intro k hk; cases hk; exact Nat.le_refl _); obtain ⟨b4, k4, rfl⟩ := hown4.form; have XN := X.out.up hb; have c0 := XN.cell 0 0 rfl rfl; have f0 := XN.free 0 0 rfl; have c1 := XN.cell 0 1 rfl rfl; have f1 := XN.free 0 1 rfl; have c2 := XN.cell 0 2 rfl rfl; have f2 := XN.free 0 2 rfl; have c3 := XN.cell 0 3 rfl rfl; have f3 := XN.free 0 3 rfl; have c4 := XN.cell 0 4 rfl rfl; have f4 := XN.free 0 4 rfl))
        have O4 := hide (Ow.of hown4 hb.size)
        clear hown4
        clear c0 f0 c1 f1 c2 f2 c3 f3 c4 f4
        have Z := (((((XN.set 0 0 rfl (.slice b1 h.length k1)).set 0 1 rfl (.slice b2 (rowsN h.length).length k2)).set 0 2 rfl (.slice b3 0 k3)).set 0 3 rfl (.slice b4 t.length k4)).set 0 4 rfl (.int .i64 0))
        have sg : Seg w.heap.size (w.heap.size + 1) u4 (((((u4.setCell ⟨w.heap.size, 0, none⟩ (.slice b1 h.length k1)).setCell ⟨w.heap.size, 1, none⟩ (.slice b2 (rowsN h.length).length k2)).setCell ⟨w.heap.size, 2, none⟩ (.slice b3 0 k3)).setCell ⟨w.heap.size, 3, none⟩ (.slice b4 t.length k4)).setCell ⟨w.heap.size, 4, none⟩ (.int .i64 0)) := Seg.setCell5 _ _ _ _ _ _ _
        have q0 := hz0.out
        have q1 := hz1.out
        have q2 := hz2.out
        have q3 := hz3.out
        have O1 := O1.out.below hb
        have O1 := O1.seg sg (.inr (by omega))
        have O4 := O4.out.seg sg (.inr (by omega))
        have z0 := Z.cell 0 0 rfl rfl
        have z1 := Z.cell 0 1 rfl rfl
        have z2 := Z.cell 0 2 rfl rfl
        have z3 := Z.cell 0 3 rfl rfl
        have z4 := Z.cell 0 4 rfl rfl
        have p1 := O1.top
        have p2 := O4.le
        have p3 := O4.top
        obtain ⟨e1, e2, e3⟩ := HE.out
        rw [e1, e2, e3]
        exact bodyPost_ret (v := .agg #[.slice b1 h.length k1, .slice b2 (rowsN h.length).length k2, .slice b3 0 k3, .slice b4 t.length k4, .int .i64 0]) (by simp [results, Try.results15, go_sem, z0, z1, z2, z3, z4]) rfl ⟨_, rfl, ⟨_, _, _, _, _, _, _, _, rfl, O1, O4, ⟨by omega, by omega, p1.2, p3, .inl (by omega)⟩, Z.below.size, Nat.le_refl _⟩, Z.below⟩

set_option maxHeartbeats 4000000 in
theorem iNewMp_any (u v : Value) (h t : List Int) (w : World) (B : Nat) (hu : Ints w B u h) (cu : Cap u) (hv : Ints w B v t) (cv : Cap v) (hB : B ≤ w.heap.size) :
    Calls Try.prog 17 #[u, v] w (RetMpO w (nmL h t) (nmR h t) [] (nmT h t) 0) := by
  obtain ⟨a1, c1, rfl⟩ := hu.form
  obtain ⟨a2, c2, rfl⟩ := hv.form
  have HN2 := hide (cap_of cv rfl)
  have CU := hide cu
  clear cu cv
  have X := hide (Kn.one w #[.slice none 0 0, .slice none 0 0, .slice none 0 0, .slice none 0 0, .int .i64 0] 27)
  obtain ⟨u0, hu0⟩ : ∃ q, q = w.alloc (.cells #[.slice none 0 0, .slice none 0 0, .slice none 0 0, .slice none 0 0, .int .i64 0] 27) := ⟨_, rfl⟩
  rw [← hu0] at X
  have hz0 := hide (show u0.heap.size = w.heap.size + 1 by rw [hu0]; simp)
  have HU := hide (fun (W : World) (h : Below w.heap.size w W) => hu.below h hB)
  have HV := hide (fun (W : World) (h : Below w.heap.size w W) => hv.below h hB)
  clear hu hv
  obtain ⟨t1, ht1⟩ : ∃ q, q = areVals h := ⟨_, rfl⟩
  obtain ⟨t2, ht2⟩ : ∃ q, q = areVals t := ⟨_, rfl⟩
  obtain ⟨t3, ht3⟩ : ∃ q, q = decide (h.length = t.length) := ⟨_, rfl⟩
  have HR := hide (show nmOk h t = (t1 && t2 && t3) by rw [ht1, ht2, ht3]; rfl)
  have N3 : ((h.length : Int) != (t.length : Int)) = !t3 := by rw [ht3]; exact int_len_bne _ _
  have Ht1 := hide ht1
  have Ht2 := hide ht2
  have Ht3 := hide ht3
  clear ht1 ht2 ht3
  obtain ⟨L, hL⟩ : ∃ q, q = nmL h t := ⟨_, rfl⟩
  obtain ⟨R, hR⟩ : ∃ q, q = nmR h t := ⟨_, rfl⟩
  obtain ⟨T, hT⟩ : ∃ q, q = nmT h t := ⟨_, rfl⟩
  have HL := hide (And.intro hL (And.intro hR hT))
  rw [← hL, ← hR, ← hT]
  clear hL hR hT
  go_enter Try.func17, Try.ntmps17
  go_wp2_with fail
  rw [← hu0]
  clear hu0
  go_at_call 76
  refine (iVals_any _ h _ B (HU.out _ X.out.below)).mono ?_
  rintro e u1 ⟨rfl, hb⟩
  rw [← Ht1.out]
  have X := hide (X.out.up hb)
  have hz1 := hide hb.size
  clear hb
  cases t1
  · skip
    have c0 := X.out.cell 0 0 rfl rfl
    have f0 := X.out.free 0 0 rfl
    have c1 := X.out.cell 0 1 rfl rfl
    have f1 := X.out.free 0 1 rfl
    have c2 := X.out.cell 0 2 rfl rfl
    have f2 := X.out.free 0 2 rfl
    have c3 := X.out.cell 0 3 rfl rfl
    have f3 := X.out.free 0 3 rfl
    have c4 := X.out.cell 0 4 rfl rfl
    have f4 := X.out.free 0 4 rfl
    have Z := (((((X.out.set 0 0 rfl (.slice none 0 0)).set 0 1 rfl (.slice none 0 0)).set 0 2 rfl (.slice none 0 0)).set 0 3 rfl (.slice none 0 0)).set 0 4 rfl (.int .i64 0))
    have z0 := Z.cell 0 0 rfl rfl
    have z1 := Z.cell 0 1 rfl rfl
    have z2 := Z.cell 0 2 rfl rfl
    have z3 := Z.cell 0 3 rfl rfl
    have z4 := Z.cell 0 4 rfl rfl
    go_wp2_with fail
    have ok : ¬ nmOk h t = true := by rw [HR.out]; simp
    obtain ⟨e1, e2, e3⟩ := HL.out
    rw [e1, e2, e3]
    unfold nmL nmR nmT
    rw [if_neg ok, if_neg ok, if_neg ok]
    exact bodyPost_ret (v := .agg #[.slice none 0 0, .slice none 0 0, .slice none 0 0, .slice none 0 0, .int .i64 0]) (by simp [results, Try.results17, go_sem, z0, z1, z2, z3, z4]) rfl ⟨_, rfl, MpO.none Z.below.size (Nat.le_refl _), Z.below⟩
  · skip
    go_wp2_with fail
    go_at_call 76
    refine (iVals_any _ t _ B (HV.out _ X.out.below)).mono ?_
    rintro e u2 ⟨rfl, hb⟩
    rw [← Ht2.out]
    have X := hide (X.out.up hb)
    have hz2 := hide hb.size
    clear hb
    cases t2
    · skip
      have c0 := X.out.cell 0 0 rfl rfl
      have f0 := X.out.free 0 0 rfl
      have c1 := X.out.cell 0 1 rfl rfl
      have f1 := X.out.free 0 1 rfl
      have c2 := X.out.cell 0 2 rfl rfl
      have f2 := X.out.free 0 2 rfl
      have c3 := X.out.cell 0 3 rfl rfl
      have f3 := X.out.free 0 3 rfl
      have c4 := X.out.cell 0 4 rfl rfl
      have f4 := X.out.free 0 4 rfl
      have Z := (((((X.out.set 0 0 rfl (.slice none 0 0)).set 0 1 rfl (.slice none 0 0)).set 0 2 rfl (.slice none 0 0)).set 0 3 rfl (.slice none 0 0)).set 0 4 rfl (.int .i64 0))
      have z0 := Z.cell 0 0 rfl rfl
      have z1 := Z.cell 0 1 rfl rfl
      have z2 := Z.cell 0 2 rfl rfl
      have z3 := Z.cell 0 3 rfl rfl
      have z4 := Z.cell 0 4 rfl rfl
      go_wp2_with fail
      have ok : ¬ nmOk h t = true := by rw [HR.out]; simp
      obtain ⟨e1, e2, e3⟩ := HL.out
      rw [e1, e2, e3]
      unfold nmL nmR nmT
      rw [if_neg ok, if_neg ok, if_neg ok]
      exact bodyPost_ret (v := .agg #[.slice none 0 0, .slice none 0 0, .slice none 0 0, .slice none 0 0, .int .i64 0]) (by simp [results, Try.results17, go_sem, z0, z1, z2, z3, z4]) rfl ⟨_, rfl, MpO.none Z.below.size (Nat.le_refl _), Z.below⟩
    · cases t3
      · skip
        have c0 := X.out.cell 0 0 rfl rfl
        have f0 := X.out.free 0 0 rfl
        have c1 := X.out.cell 0 1 rfl rfl
        have f1 := X.out.free 0 1 rfl
        have c2 := X.out.cell 0 2 rfl rfl
        have f2 := X.out.free 0 2 rfl
        have c3 := X.out.cell 0 3 rfl rfl
        have f3 := X.out.free 0 3 rfl
        have c4 := X.out.cell 0 4 rfl rfl
        have f4 := X.out.free 0 4 rfl
        have Z := (((((X.out.set 0 0 rfl (.slice none 0 0)).set 0 1 rfl (.slice none 0 0)).set 0 2 rfl (.slice none 0 0)).set 0 3 rfl (.slice none 0 0)).set 0 4 rfl (.int .i64 0))
        have z0 := Z.cell 0 0 rfl rfl
        have z1 := Z.cell 0 1 rfl rfl
        have z2 := Z.cell 0 2 rfl rfl
        have z3 := Z.cell 0 3 rfl rfl
        have z4 := Z.cell 0 4 rfl rfl
        go_wp2_with fail
        have ok : ¬ nmOk h t = true := by rw [HR.out]; simp
        obtain ⟨e1, e2, e3⟩ := HL.out
        rw [e1, e2, e3]
        unfold nmL nmR nmT
        rw [if_neg ok, if_neg ok, if_neg ok]
        exact bodyPost_ret (v := .agg #[.slice none 0 0, .slice none 0 0, .slice none 0 0, .slice none 0 0, .int .i64 0]) (by simp [results, Try.results17, go_sem, z0, z1, z2, z3, z4]) rfl ⟨_, rfl, MpO.none Z.below.size (Nat.le_refl _), Z.below⟩
      · skip
        have ok : nmOk h t = true := by rw [HR.out]; rfl
        obtain ⟨e1, e2, e3⟩ := HL.out
        unfold nmL at e1
        unfold nmR at e2
        unfold nmT at e3
        rw [if_pos ok] at e1 e2 e3
        have HE := hide (And.intro e1 (And.intro e2 e3))
        clear ok HL e1 e2 e3
        have hl1 := hide (areVals_len Ht1.out.symm)
        have hl2 := hide (areVals_len Ht2.out.symm)
        have el : newL h = h := by unfold newL; rw [← Ht1.out]; rfl
        have er : newR h = rowsN h.length := by unfold newR; rw [← Ht1.out]; rfl
        go_wp2_with fail
        go_at_call 77
        refine (iNewR_any _ h _ B (HU.out _ X.out.below) CU.out (Nat.le_trans hB X.out.below.size)).mono ?_
        rw [el, er]
        rintro e u3 ⟨x1, x2, x3, lo, hi, n1, h1, n2, h2, n3, h3, rfl, g1, g2, ho, hb⟩
        clear el er
        have O1 := hide (Oc.of ho g1 g2 (Nat.le_refl _))
        clear ho g1 g2
        obtain ⟨b1, k1, b2, k2, b3, k3, hf⟩ := O1.out.form
        injection hf with hf
        injection hf with hf
        injection hf with q1 hf
        injection hf with q2 hf
        injection hf with q3 hf
        subst q1 q2 q3
        clear hf
        have X := hide (X.out.up hb)
        have hz3 := hide hb.size
        clear hb
        go_wp2_with fail
        go_at_call 78
        refine (clone_i a2 c2 t _ B (HV.out _ X.out.below) HN2.out (Nat.le_trans hB X.out.below.size) (by have := hl2.out; omega)).mono ?_
        rintro e u4 ⟨v4, rfl, hown4, hb⟩
        obtain ⟨b4, k4, rfl⟩ := hown4.form
        have O4 := hide (Ow.of hown4 hb.size)
        clear hown4
        have XN := X.out.up hb
        have c0 := XN.cell 0 0 rfl rfl
        have f0 := XN.free 0 0 rfl
        have c1 := XN.cell 0 1 rfl rfl
        have f1 := XN.free 0 1 rfl
        have c2 := XN.cell 0 2 rfl rfl
        have f2 := XN.free 0 2 rfl
        have c3 := XN.cell 0 3 rfl rfl
        have f3 := XN.free 0 3 rfl
        have c4 := XN.cell 0 4 rfl rfl
        have f4 := XN.free 0 4 rfl
        go_wp2_with fail
        clear c0 f0 c1 f1 c2 f2 c3 f3 c4 f4
        have Z := (((((XN.set 0 0 rfl (.slice b1 h.length k1)).set 0 1 rfl (.slice b2 (rowsN h.length).length k2)).set 0 2 rfl (.slice b3 0 k3)).set 0 3 rfl (.slice b4 t.length k4)).set 0 4 rfl (.int .i64 0))
        have sg : Seg w.heap.size (w.heap.size + 1) u4 (((((u4.setCell ⟨w.heap.size, 0, none⟩ (.slice b1 h.length k1)).setCell ⟨w.heap.size, 1, none⟩ (.slice b2 (rowsN h.length).length k2)).setCell ⟨w.heap.size, 2, none⟩ (.slice b3 0 k3)).setCell ⟨w.heap.size, 3, none⟩ (.slice b4 t.length k4)).setCell ⟨w.heap.size, 4, none⟩ (.int .i64 0)) := Seg.setCell5 _ _ _ _ _ _ _
        have q0 := hz0.out
        have q1 := hz1.out
        have q2 := hz2.out
        have q3 := hz3.out
        have O1 := O1.out.below hb
        have O1 := O1.seg sg (.inr (by omega))
        have O4 := O4.out.seg sg (.inr (by omega))
        have z0 := Z.cell 0 0 rfl rfl
        have z1 := Z.cell 0 1 rfl rfl
        have z2 := Z.cell 0 2 rfl rfl
        have z3 := Z.cell 0 3 rfl rfl
        have z4 := Z.cell 0 4 rfl rfl
        have p1 := O1.top
        have p2 := O4.le
        have p3 := O4.top
        obtain ⟨e1, e2, e3⟩ := HE.out
        rw [e1, e2, e3]
        exact bodyPost_ret (v := .agg #[.slice b1 h.length k1, .slice b2 (rowsN h.length).length k2, .slice b3 0 k3, .slice b4 t.length k4, .int .i64 0]) (by simp [results, Try.results17, go_sem, z0, z1, z2, z3, z4]) rfl ⟨_, rfl, ⟨_, _, _, _, _, _, _, _, rfl, O1, O4, ⟨by omega, by omega, p1.2, p3, .inl (by omega)⟩, Z.below.size, Nat.le_refl _⟩, Z.below⟩

theorem nm_wf {h t : List Int} (k1 : h.length ≤ 1048576) (k2 : t.length ≤ 1048576) (w1 : IntsWf h) (w2 : IntsWf t) : ((nmL h t).length ≤ 4000000 ∧ (nmR h t).length ≤ 4000000 ∧ ([] : List Pv).length ≤ 4000000 ∧ (nmT h t).length ≤ 4000000) ∧ MpWf (nmL h t) (nmR h t) ([] : List Pv) (nmT h t) 0 := by
  unfold nmL nmR nmT
  have hz : I64 0 := ⟨by omega, by omega⟩
  split
  · exact ⟨⟨by omega, by rw [rowsN_length]; omega, by simp, by omega⟩, ⟨w1, rowsN_wf _ k1, by simp, by simp⟩, w2, hz⟩
  · exact ⟨⟨by simp, by simp, by simp, by simp⟩, ⟨by simp, by simp, by simp, by simp⟩, by simp [IntsWf], hz⟩

end Go.Proofs.Ytepkkeclkdlheaa
