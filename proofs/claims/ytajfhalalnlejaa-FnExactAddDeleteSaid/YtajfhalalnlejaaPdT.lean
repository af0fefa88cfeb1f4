/- What IsPending of the reference returns (gen_pdt.py; promise 7). -/
import Derived.Test.YtajfhalalnlejaaPdS
import Derived.Test.YtajfhalalnlejaaCkT
import Derived.Test.YtajfhalalnlejaaRf
namespace Go.Proofs.Ytajfhalalnlejaa
open Go.RowKit Go.ChangeShapes
set_option linter.unusedSimpArgs false
set_option linter.unusedVariables false
set_option maxRecDepth 100000

set_option maxHeartbeats 8000000 in
theorem sIsPd_any (v u : Value) (l r : List Int) (ps : List Pv) (ins : List Pv) (de : List Int) (w : World) (B : Nat) (hv : Ck w B v l r ps) (hu : Pd w B u ins de) (hB : B ≤ w.heap.size) (hl : l.length ≤ 1048576) (hi : ins.length ≤ 1048577) :
    Calls Try.prog 38 #[v, u] w (RetB1 w (isPd l r ps ins de)) := by
  obtain ⟨a1, c1, a2, c2, a3, c3, rfl, -⟩ := hv.form
  obtain ⟨b1, k1, b2, k2, rfl, i1, i2⟩ := hu.form
  have hcap : de.length ≤ k2 := by
    obtain ⟨x, y, e, -, -, -, ⟨a', n', c', rfl, hc, -⟩⟩ := hu
    simp only [Value.agg.injEq, Array.mk.injEq, List.cons.injEq, Value.slice.injEq, and_true] at e
    obtain ⟨-, -, rfl, rfl⟩ := e
    exact hc
  have hde : de.length ≤ 9223372036854775807 := by obtain ⟨_, _, _, h, _⟩ := i2; exact h
  have X := hide (Kn.two w #[.slice a1 l.length c1, .slice a2 r.length c2, .slice a3 ps.length c3] #[.slice b1 ins.length k1, .slice b2 de.length k2] 27 70)
  obtain ⟨w1, hw1⟩ : ∃ w1, w1 = (w.alloc (.cells #[.slice a1 l.length c1, .slice a2 r.length c2, .slice a3 ps.length c3] 27)).alloc (.cells #[.slice b1 ins.length k1, .slice b2 de.length k2] 70) := ⟨_, rfl⟩
  rw [← hw1] at X
  have V := hide (fun (W : World) (h : Below w.heap.size w W) => hv.below h hB)
  have U := hide (fun (W : World) (h : Below w.heap.size w W) => hu.below h hB)
  have I1 := hide (fun (W : World) (h : Below w.heap.size w W) => i1.below h hB)
  have I2 := hide (fun (W : World) (h : Below w.heap.size w W) => i2.below h hB)
  clear hv hu i1 i2
  obtain ⟨b0, hb0⟩ : ∃ b0, b0 = isPd l r ps ins de := ⟨_, rfl⟩
  rw [← hb0]
  have HB0 := hide hb0
  clear hb0
  obtain ⟨t, ht⟩ : ∃ t, t = isCk l r ps := ⟨_, rfl⟩
  have HT := hide ht
  have d0 : w1.cell? ⟨w.heap.size, 0, none⟩ = some (.slice a1 l.length c1) := X.out.cell 0 0 rfl rfl
  have d1 : w1.cell? ⟨w.heap.size, 1, none⟩ = some (.slice a2 r.length c2) := X.out.cell 0 1 rfl rfl
  have d2 : w1.cell? ⟨w.heap.size, 2, none⟩ = some (.slice a3 ps.length c3) := X.out.cell 0 2 rfl rfl
  go_enter Try.func38, Try.ntmps38
  rw [hw1] at d0 d1 d2
  go_wp2_with fail
  rw [← hw1]
  clear hw1 ht d0 d1 d2
  go_at_call 35
  refine (sIsCk_any _ l r ps _ B (V.out _ X.out.below) (Nat.le_trans hB X.out.below.size)).mono ?_
  rintro e w2 ⟨rfl, hb⟩
  rw [← HT.out]
  have X := hide (X.out.up hb)
  clear hb
  cases t
  · have hf := hide (show b0 = false by rw [HB0.out]; unfold isPd; rw [← HT.out]; rfl)
    go_wp2_with fail
    go_ret
    exact ⟨by rw [hf.out]; rfl, X.out.below⟩
  have d0 : w2.cell? ⟨w.heap.size, 0, none⟩ = some (.slice a1 l.length c1) := X.out.cell 0 0 rfl rfl
  have e0 : w2.cell? ⟨w.heap.size + 1, 0, none⟩ = some (.slice b1 ins.length k1) := X.out.cell 1 0 rfl rfl
  have e1 : w2.cell? ⟨w.heap.size + 1, 1, none⟩ = some (.slice b2 de.length k2) := X.out.cell 1 1 rfl rfl
  by_cases hs : ins.length ≤ 20 ∧ de.length ≤ 20 ∧ l.length + ins.length ≤ 64
  rotate_left
  · have hf := hide (show b0 = false by rw [HB0.out]; unfold isPd; rw [show pdSz l ins de = false by unfold pdSz; simp only [Bool.and_eq_false_iff, decide_eq_false_iff_not]; omega]; simp)
    by_cases s1 : ins.length ≤ 20
    · have t1 : decide (20 < ins.length) = false := decide_eq_false (by omega)
      have t1' : decide ((20 : Int) < (ins.length : Int)) = false := decide_eq_false (by omega)
      by_cases s2 : de.length ≤ 20
      · have t2 : decide (20 < de.length) = false := decide_eq_false (by omega)
        have t2' : decide ((20 : Int) < (de.length : Int)) = false := decide_eq_false (by omega)
        have s3 : 64 < l.length + ins.length := by omega
        have t3 : decide ((64 : Int) < (l.length : Int) + (ins.length : Int)) = true := decide_eq_true (by omega)
        clear hs s1 s2 s3
        go_wp2_with fail
        go_ret
        exact ⟨by rw [hf.out]; rfl, X.out.below⟩
      · have t2 : decide (20 < de.length) = true := decide_eq_true (by omega)
        have t2' : decide ((20 : Int) < (de.length : Int)) = true := decide_eq_true (by omega)
        clear hs s1 s2
        go_wp2_with fail
        go_ret
        exact ⟨by rw [hf.out]; rfl, X.out.below⟩
    · have t1 : decide (20 < ins.length) = true := decide_eq_true (by omega)
      have t1' : decide ((20 : Int) < (ins.length : Int)) = true := decide_eq_true (by omega)
      clear hs s1
      go_wp2_with fail
      go_ret
      exact ⟨by rw [hf.out]; rfl, X.out.below⟩
  obtain ⟨s1, s2, s3⟩ := hs
  have HS := hide (show pdSz l ins de = true by unfold pdSz; simp only [Bool.and_eq_true, decide_eq_true_eq]; exact ⟨s1, s2, s3⟩)
  have t1 : decide (20 < ins.length) = false := decide_eq_false (by omega)
  have t1' : decide ((20 : Int) < (ins.length : Int)) = false := decide_eq_false (by omega)
  have t2 : decide (20 < de.length) = false := decide_eq_false (by omega)
  have t2' : decide ((20 : Int) < (de.length : Int)) = false := decide_eq_false (by omega)
  have t3 : decide ((64 : Int) < (l.length : Int) + (ins.length : Int)) = false := decide_eq_false (by omega)
  go_wp2_with fail
  clear d0 e0 e1 t1 t1' t2 t2' t3
  go_loopw [5] (fun i wr => ∃ (k : Nat), k ≤ ins.length ∧ i = .int .i64 k ∧ Hid (InPre r ins k) ∧ Hid (Kn w wr [(w.heap.size, #[.slice a1 l.length c1, .slice a2 r.length c2, .slice a3 ps.length c3], 27), (w.heap.size + 1, #[.slice b1 ins.length k1, .slice b2 de.length k2], 70)])) (fun i _ => ins.length - (intOf i).toNat)
  case atStart => exact ⟨0, by omega, rfl, inPre_zero _ _, X.out⟩
  case round =>
    obtain ⟨k, hk, rfl, hpre, Y⟩ := hrel
    clear X
    have e0 : wr.cell? ⟨w.heap.size + 1, 0, none⟩ = some (.slice b1 ins.length k1) := Y.out.cell 1 0 rfl rfl
    by_cases hlt : k < ins.length
    · obtain ⟨bb, oo, rfl, hbB, hc, hc'⟩ : ∃ bb oo, b1 = some ⟨bb, oo, none⟩ ∧ bb < B ∧ wr.cell? ⟨bb, oo + k * 2, none⟩ = some (.int .i64 ins[k].1) ∧ wr.cell? ⟨bb, oo + k * 2 + 1, none⟩ = some (.int .i64 ins[k].2) := by
        obtain ⟨a', c', he, -, -, h3⟩ := I1.out _ Y.out.below
        simp only [Value.slice.injEq] at he
        obtain ⟨rfl, -, -⟩ := he
        exact h3 k hlt
      have hib : I64 ins[k].1 ∧ I64 ins[k].2 := by
        obtain ⟨a', c', he, -, h2, -⟩ := I1.out _ Y.out.below
        exact h2 _ (List.getElem_mem hlt)
      obtain ⟨p, hp⟩ : ∃ p, p = ins[k] := ⟨_, rfl⟩
      rw [← hp] at hc hc' hib
      obtain ⟨x, y⟩ := p
      simp only at hc hc' hib
      have HP := hide hp
      clear hp
      have Z := hide (Y.out.alloc #[.int .i64 x, .int .i64 y] 49)
      obtain ⟨w3, hw3⟩ : ∃ q, q = wr.alloc (.cells #[.int .i64 x, .int .i64 y] 49) := ⟨_, rfl⟩
      obtain ⟨g, hg⟩ : ∃ q, q = wr.heap.size := ⟨_, rfl⟩
      rw [← hw3, ← hg] at Z
      simp only [List.cons_append, List.nil_append] at Z
      have HZ := hide (hw3)
      have z0 : w3.cell? ⟨g, 0, none⟩ = some (.int .i64 x) := Z.out.cell 2 0 rfl rfl
      have z1 : w3.cell? ⟨g, 1, none⟩ = some (.int .i64 y) := Z.out.cell 2 1 rfl rfl
      obtain ⟨bi, hbi⟩ : ∃ q, q = isIt x y := ⟨_, rfl⟩
      have HBI := hide hbi
      rw [hw3, hg] at z0 z1
      go_wp2_with fail
      rw [← hg, ← hw3]
      rw [← hg, ← hw3] at z0 z1
      clear hg hw3 hc hc' e0 hbi
      go_at_call 64
      refine (sIsIt_any x y _).mono ?_
      rintro e w4 ⟨rfl, hb⟩
      rw [← HBI.out]
      have Z := hide (Z.out.up hb)
      clear hb z0 z1 hib Y
      cases bi
      · have hf := hide (show b0 = false by rw [HB0.out]; unfold isPd; rw [ins_bad hlt (fun h => by have := h.1; rw [← HP.out, ← HBI.out] at this; cases this)]; simp)
        go_wp2_with fail
        go_ret
        exact ⟨by rw [hf.out]; rfl, Z.out.below⟩
      have d0 : w4.cell? ⟨w.heap.size, 0, none⟩ = some (.slice a1 l.length c1) := Z.out.cell 0 0 rfl rfl
      have d1 : w4.cell? ⟨w.heap.size, 1, none⟩ = some (.slice a2 r.length c2) := Z.out.cell 0 1 rfl rfl
      have d2 : w4.cell? ⟨w.heap.size, 2, none⟩ = some (.slice a3 ps.length c3) := Z.out.cell 0 2 rfl rfl
      have z1 : w4.cell? ⟨g, 1, none⟩ = some (.int .i64 y) := Z.out.cell 2 1 rfl rfl
      obtain ⟨m, hm⟩ : ∃ q, q = rowAt r y := ⟨_, rfl⟩
      have HM := hide hm
      go_wp2_with fail
      clear d0 d1 d2 z1 hm
      go_at_call 65
      refine (sFindRow_any _ l r ps y _ B (V.out _ Z.out.below) (Nat.le_trans hB Z.out.below.size)).mono ?_
      rintro e w5 ⟨rfl, hb⟩
      rw [← HM.out]
      have Z := hide (Z.out.up hb)
      clear hb
      by_cases hm0 : 0 ≤ m
      · have hf := hide (show b0 = false by rw [HB0.out]; unfold isPd; rw [ins_bad hlt (fun h => by have := h.2.1; rw [← HP.out, ← HM.out] at this; omega)]; simp)
        have q1 : decide (0 ≤ m) = true := decide_eq_true hm0
        clear hm0
        go_wp2_with fail
        go_ret
        exact ⟨by rw [hf.out]; rfl, Z.out.below⟩
      have q1 : decide (0 ≤ m) = false := decide_eq_false hm0
      have HM0 := hide hm0
      clear hm0
      have e0 : w5.cell? ⟨w.heap.size + 1, 0, none⟩ = some (.slice (some ⟨bb, oo, none⟩) ins.length k1) := Z.out.cell 1 0 rfl rfl
      have e1 : w5.cell? ⟨w.heap.size + 1, 1, none⟩ = some (.slice b2 de.length k2) := Z.out.cell 1 1 rfl rfl
      have z1 : w5.cell? ⟨g, 1, none⟩ = some (.int .i64 y) := Z.out.cell 2 1 rfl rfl
      obtain ⟨n, hn⟩ : ∃ q, q = hasR ins y := ⟨_, rfl⟩
      have HN := hide hn
      go_wp2_with fail
      clear e0 e1 z1 hn q1
      go_at_call 87
      refine (sHasR_any _ ins de y _ B (U.out _ Z.out.below) (Nat.le_trans hB Z.out.below.size)).mono ?_
      rintro e w6 ⟨rfl, hb⟩
      rw [← HN.out]
      have Z := hide (Z.out.up hb)
      clear hb
      by_cases hnk : n = (k : Int)
      · have q2 : (n != (k : Int)) = false := by simp [hnk]
        have hok := hide (inPre_step hpre.out hlt ⟨by rw [← HP.out]; exact HBI.out.symm, by rw [← HP.out, ← HM.out]; have := HM0.out; omega, by rw [← HP.out, ← HN.out]; exact hnk⟩)
        clear hnk
        go_wp2_with fail
        go_roundw
        case rel => exact ⟨k + 1, by omega, by go_num, hok, Z.out.sub (by exact List.Sublist.cons_cons _ (List.Sublist.cons_cons _ (List.nil_sublist _)))⟩
        case measure => simp [intOf]; omega
      · have q2 : (n != (k : Int)) = true := by simpa using hnk
        have hf := hide (show b0 = false by rw [HB0.out]; unfold isPd; rw [ins_bad hlt (fun h => by have := h.2.2; rw [← HP.out, ← HN.out] at this; exact hnk this)]; simp)
        clear hnk
        go_wp2_with fail
        go_ret
        exact ⟨by rw [hf.out]; rfl, Z.out.below⟩
    · have hke : k = ins.length := by omega
      subst hke
      have HI := hide (inPre_all hpre.out)
      clear hpre
      go_wp2_with fail
      clear e0
      go_loopw [7] (fun i wr => ∃ (k : Nat), k ≤ de.length ∧ i = .int .i64 k ∧ Hid (DePre r de k) ∧ Hid (Kn w wr [(w.heap.size, #[.slice a1 l.length c1, .slice a2 r.length c2, .slice a3 ps.length c3], 27), (w.heap.size + 1, #[.slice b1 ins.length k1, .slice b2 de.length k2], 70)])) (fun i _ => de.length - (intOf i).toNat)
      case atStart => exact ⟨0, by omega, rfl, dePre_zero _ _, Y.out⟩
      case round =>
        obtain ⟨k, hk, rfl, hpre, Y⟩ := hrel
        have e1 : wr.cell? ⟨w.heap.size + 1, 1, none⟩ = some (.slice b2 de.length k2) := Y.out.cell 1 1 rfl rfl
        by_cases hlt : k < de.length
        · obtain ⟨bb, oo, rfl, hbB, hc⟩ : ∃ bb oo, b2 = some ⟨bb, oo, none⟩ ∧ bb < B ∧ wr.cell? ⟨bb, oo + k, none⟩ = some (.int .i64 de[k]) := by
            obtain ⟨a', c', he, -, -, h3⟩ := I2.out _ Y.out.below
            simp only [Value.slice.injEq] at he
            obtain ⟨rfl, -, -⟩ := he
            exact h3 k hlt
          obtain ⟨y, hy⟩ : ∃ p, p = de[k] := ⟨_, rfl⟩
          rw [← hy] at hc
          have HY := hide hy
          have HCC := hide hc
          have hbw := hide (Nat.lt_of_lt_of_le hbB (Nat.le_trans hB Y.out.below.size))
          clear hy hc
          obtain ⟨m, hm⟩ : ∃ q, q = rowAt r y := ⟨_, rfl⟩
          have FR := hide (fun (W : World) (h : Below w.heap.size w W) => sFindRow_any _ l r ps y W B (V.out _ h) (Nat.le_trans hB h.size))
          rw [← hm] at FR
          have HM := hide hm
          clear hm
          obtain ⟨hh, hhh⟩ : ∃ q, q = decide (y ∈ de.take k) := ⟨_, rfl⟩
          have LH := hide (fun (W : World) (h : Below w.heap.size w W) => sHas_any (.slice (some ⟨bb, oo, none⟩) k k2) (de.take k) y W B ((I2.out _ h).take k k2 (by omega)))
          rw [← hhh] at LH
          have HH := hide hhh
          clear hhh
          have hkc : (0 : Int) ≤ (k : Int) ∧ (k : Int) ≤ (k2 : Int) ∧ (k : Int) < (de.length : Int) := by omega
          obtain ⟨hk0, hk1, hk2'⟩ := hkc
          by_cases hm0 : m < 0
          · have q1 : decide (m < 0) = true := decide_eq_true hm0
            have hf := hide (show b0 = false by rw [HB0.out]; unfold isPd; rw [des_bad hlt (fun h => by have := h.1; rw [← HY.out, ← HM.out] at this; omega)]; simp)
            clear hm0
            go_upto_region 12 with fail
            clear e1
            refine wp_region_any (by kernel_rfl) ?_
            refine wpAny_facts (w0 := wr) (fun i => ([(fun lo hi s W => s 70 = .agg #[.slice a1 l.length c1, .slice a2 r.length c2, .slice a3 ps.length c3]),
              (fun lo hi s W => s 71 = .pointer (some ⟨w.heap.size + 1, 1, none⟩)),
              (fun lo hi s W => s 72 = .slice (some ⟨bb, oo, none⟩) de.length k2),
              (fun lo hi s W => s 73 = .int .i64 (k : Int)),
              (fun lo hi s W => s 74 = .pointer (some ⟨bb, oo + k, none⟩)),
              (fun lo hi s W => s 75 = .int .i64 y),
              (fun lo hi s W => s 76 = .int .i64 m),
              (fun lo hi s W => s 77 = .bool true),
              (fun lo hi s W => s 78 = .bool true),
              (fun lo hi s W => True),
              (fun lo hi s W => True),
              (fun lo hi s W => True),
              (fun lo hi s W => True),
              (fun lo hi s W => True),
              (fun lo hi s W => True),
              (fun lo hi s W => True),
              (fun lo hi s W => True),
              (fun lo hi s W => True),
              (fun lo hi s W => True),
              (fun lo hi s W => s 89 = .bool true)] : List (Nat → Nat → (Nat → Value) → World → Prop)).getD i (fun _ _ _ _ => True)) [[], [], [1], [], [1, 2, 3], [1, 2, 3, 4], [0, 1, 2, 3, 4, 5], [0, 1, 2, 3, 4, 5, 6], [0, 1, 2, 3, 4, 5, 6, 7], [0, 1, 2, 3, 4, 5, 6, 7, 8], [0, 1, 2, 3, 4, 5, 6, 7, 8, 9], [0, 1, 2, 3, 4, 5, 6, 7, 8], [0, 1, 2, 3, 4, 5, 6, 7, 8, 9, 10, 11], [0, 1, 2, 3, 4, 5, 6, 7, 8], [0, 1, 2, 3, 4, 5, 6, 7, 8, 13], [0, 1, 2, 3, 4, 5, 6, 7, 8], [0, 1, 2, 3, 4, 5, 6, 7, 8, 13, 14, 15], [0, 1, 2, 3, 4, 5, 6, 7, 8, 13, 14, 15, 16], [0, 1, 2, 3, 4, 5, 6, 7, 8, 9, 10, 11, 12, 13, 14, 15, 16, 17], [0, 1, 2, 3, 4, 5, 6, 7, 8, 9, 10, 11, 12, 13, 14, 15, 16, 17, 18]] [0, 1, 2, 3, 4, 5, 6, 7, 8, 9, 10, 11, 12, 13, 14, 15, 16, 17, 18, 19] [[70], [71], [72], [73], [74], [75], [76], [77], [78], [], [], [], [], [], [], [], [], [], [], [89]] [[], [], [], [], [], [], [], [], [], [], [], [], [], [], [], [], [], [], [], []] (by kernel_rfl) (by kernel_rfl) ?st ?step ?fin
            case st =>
              intro i hi lo hi' s W W' h q1 q2 q3 q4 k
              have hi : i < 20 := hi
              rcases (show i = 0 ∨ i = 1 ∨ i = 2 ∨ i = 3 ∨ i = 4 ∨ i = 5 ∨ i = 6 ∨ i = 7 ∨ i = 8 ∨ i = 9 ∨ i = 10 ∨ i = 11 ∨ i = 12 ∨ i = 13 ∨ i = 14 ∨ i = 15 ∨ i = 16 ∨ i = 17 ∨ i = 18 ∨ i = 19 by omega) with rfl | rfl | rfl | rfl | rfl | rfl | rfl | rfl | rfl | rfl | rfl | rfl | rfl | rfl | rfl | rfl | rfl | rfl | rfl | rfl <;> exact h
            case step =>
              intro i hi a W iv hb hsz hdf hrest hanc hivs hap K HK
              have hi : i < 20 := hi
              have HK := hide HK
              have HAN := hide hanc
              have HRS := hide hrest
              have HB := hide hb
              clear hanc hivs hap hrest hb hsz hdf 
              rcases (show i = 0 ∨ i = 1 ∨ i = 2 ∨ i = 3 ∨ i = 4 ∨ i = 5 ∨ i = 6 ∨ i = 7 ∨ i = 8 ∨ i = 9 ∨ i = 10 ∨ i = 11 ∨ i = 12 ∨ i = 13 ∨ i = 14 ∨ i = 15 ∨ i = 16 ∨ i = 17 ∨ i = 18 ∨ i = 19 by omega) with rfl | rfl | rfl | rfl | rfl | rfl | rfl | rfl | rfl | rfl | rfl | rfl | rfl | rfl | rfl | rfl | rfl | rfl | rfl | rfl
              · refine wpOp_step (o := _) rfl fun K' hK => ?_
                rw [if_pos (by go_simp)]
                have e0 : a.tmps.getD 2 undef = .pointer (some ⟨w.heap.size, 0, none⟩) := (HRS.out 2 (by decide)).trans rfl
                have c0 : W.cell? ⟨w.heap.size, 0, none⟩ = some (.slice a1 l.length c1) := (Y.out.up HB.out).cell 0 0 rfl rfl
                have c1 : W.cell? ⟨w.heap.size, 1, none⟩ = some (.slice a2 r.length c2) := (Y.out.up HB.out).cell 0 1 rfl rfl
                have c2 : W.cell? ⟨w.heap.size, 2, none⟩ = some (.slice a3 ps.length c3) := (Y.out.up HB.out).cell 0 2 rfl rfl
                go_simp
                exact hK _ _ (HK.out _ _ ⟨fun _ => ⟨Below.refl _ _, rfl⟩, fun h => absurd rfl h⟩)
              · refine wpOp_step (o := _) rfl fun K' hK => ?_
                rw [if_pos (by go_simp)]
                have e0 : a.tmps.getD 3 undef = .pointer (some ⟨w.heap.size + 1, 0, none⟩) := (HRS.out 3 (by decide)).trans rfl
                go_simp
                exact hK _ _ (HK.out _ _ ⟨fun _ => ⟨Below.refl _ _, rfl⟩, fun h => absurd rfl h⟩)
              · refine wpOp_step (o := _) rfl fun K' hK => ?_
                rw [if_pos (by go_simp)]
                have e0 : a.tmps.getD 71 undef = .pointer (some ⟨w.heap.size + 1, 1, none⟩) := HAN.out 1 (by decide)
                have c0 : W.cell? ⟨w.heap.size + 1, 1, none⟩ = some (.slice (some ⟨bb, oo, none⟩) de.length k2) := (Y.out.up HB.out).cell 1 1 rfl rfl
                go_simp
                exact hK _ _ (HK.out _ _ ⟨fun _ => ⟨Below.refl _ _, rfl⟩, fun h => absurd rfl h⟩)
              · refine wpOp_step (o := _) rfl fun K' hK => ?_
                rw [if_pos (by go_simp)]
                have e0 : a.tmps.getD 7 undef = .int .i64 (k : Int) := (HRS.out 7 (by decide)).trans rfl
                go_simp
                exact hK _ _ (HK.out _ _ ⟨fun _ => ⟨Below.refl _ _, rfl⟩, fun h => absurd rfl h⟩)
              · refine wpOp_step (o := _) rfl fun K' hK => ?_
                rw [if_pos (by go_simp)]
                have e0 : a.tmps.getD 72 undef = .slice (some ⟨bb, oo, none⟩) de.length k2 := HAN.out 2 (by decide)
                have e1 : a.tmps.getD 73 undef = .int .i64 (k : Int) := HAN.out 3 (by decide)
                go_simp
                exact hK _ _ (HK.out _ _ ⟨fun _ => ⟨Below.refl _ _, rfl⟩, fun h => absurd rfl h⟩)
              · refine wpOp_step (o := _) rfl fun K' hK => ?_
                rw [if_pos (by go_simp)]
                have e0 : a.tmps.getD 74 undef = .pointer (some ⟨bb, oo + k, none⟩) := HAN.out 4 (by decide)
                have c0 : W.cell? ⟨bb, oo + k, none⟩ = some (.int .i64 y) := (HB.out.cell (p := ⟨bb, oo + k, none⟩) hbw.out).trans HCC.out
                go_simp
                exact hK _ _ (HK.out _ _ ⟨fun _ => ⟨Below.refl _ _, rfl⟩, fun h => absurd rfl h⟩)
              · refine wpOp_step (o := _) rfl fun K' hK => ?_
                rw [if_pos (by go_simp)]
                have e0 : a.tmps.getD 70 undef = .agg #[.slice a1 l.length c1, .slice a2 r.length c2, .slice a3 ps.length c3] := HAN.out 0 (by decide)
                have e1 : a.tmps.getD 75 undef = .int .i64 y := HAN.out 5 (by decide)
                go_simp
                go_at_call 65
                refine (FR.out _ (Y.out.up HB.out).below).mono ?_
                rintro e W' ⟨rfl, hbb⟩
                exact hK _ _ (HK.out _ _ ⟨fun _ => ⟨hbb, rfl⟩, fun h => absurd rfl h⟩)
              · refine wpOp_step (o := _) rfl fun K' hK => ?_
                rw [if_pos (by go_simp)]
                have e0 : a.tmps.getD 76 undef = .int .i64 m := HAN.out 6 (by decide)
                go_simp
                exact hK _ _ (HK.out _ _ ⟨fun _ => ⟨Below.refl _ _, rfl⟩, fun h => absurd rfl h⟩)
              · refine wpOp_step (o := _) rfl fun K' hK => ?_
                rw [if_pos (by go_simp)]
                have e0 : a.tmps.getD 77 undef = .bool true := HAN.out 7 (by decide)
                go_simp
                exact hK _ _ (HK.out _ _ ⟨fun _ => ⟨Below.refl _ _, rfl⟩, fun h => absurd rfl h⟩)
              · refine wpOp_step (o := _) rfl fun K' hK => ?_
                have eg : a.tmps.getD 78 undef = .bool true := HAN.out 8 (by decide)
                rw [if_neg (wanted_neg rfl (d := 78) (by kernel_rfl) eg (by decide))]
                exact hK _ _ (HK.out undef _ ⟨fun _ => ⟨Below.refl _ _, trivial⟩, fun h => absurd rfl h⟩)
              · refine wpOp_step (o := _) rfl fun K' hK => ?_
                have eg : a.tmps.getD 78 undef = .bool true := HAN.out 8 (by decide)
                rw [if_neg (wanted_neg rfl (d := 78) (by kernel_rfl) eg (by decide))]
                exact hK _ _ (HK.out undef _ ⟨fun _ => ⟨Below.refl _ _, trivial⟩, fun h => absurd rfl h⟩)
              · refine wpOp_step (o := _) rfl fun K' hK => ?_
                have eg : a.tmps.getD 78 undef = .bool true := HAN.out 8 (by decide)
                rw [if_neg (wanted_neg rfl (d := 78) (by kernel_rfl) eg (by decide))]
                exact hK _ _ (HK.out undef _ ⟨fun _ => ⟨Below.refl _ _, trivial⟩, fun h => absurd rfl h⟩)
              · refine wpOp_step (o := _) rfl fun K' hK => ?_
                have eg : a.tmps.getD 78 undef = .bool true := HAN.out 8 (by decide)
                rw [if_neg (wanted_neg rfl (d := 78) (by kernel_rfl) eg (by decide))]
                exact hK _ _ (HK.out undef _ ⟨fun _ => ⟨Below.refl _ _, trivial⟩, fun h => absurd rfl h⟩)
              · refine wpOp_step (o := _) rfl fun K' hK => ?_
                have eg : a.tmps.getD 78 undef = .bool true := HAN.out 8 (by decide)
                rw [if_neg (wanted_neg rfl (d := 78) (by kernel_rfl) eg (by decide))]
                exact hK _ _ (HK.out undef _ ⟨fun _ => ⟨Below.refl _ _, trivial⟩, fun h => absurd rfl h⟩)
              · refine wpOp_step (o := _) rfl fun K' hK => ?_
                have eg : a.tmps.getD 78 undef = .bool true := HAN.out 8 (by decide)
                rw [if_neg (wanted_neg rfl (d := 78) (by kernel_rfl) eg (by decide))]
                exact hK _ _ (HK.out undef _ ⟨fun _ => ⟨Below.refl _ _, trivial⟩, fun h => absurd rfl h⟩)
              · refine wpOp_step (o := _) rfl fun K' hK => ?_
                have eg : a.tmps.getD 78 undef = .bool true := HAN.out 8 (by decide)
                rw [if_neg (wanted_neg rfl (d := 78) (by kernel_rfl) eg (by decide))]
                exact hK _ _ (HK.out undef _ ⟨fun _ => ⟨Below.refl _ _, trivial⟩, fun h => absurd rfl h⟩)
              · refine wpOp_step (o := _) rfl fun K' hK => ?_
                have eg : a.tmps.getD 78 undef = .bool true := HAN.out 8 (by decide)
                rw [if_neg (wanted_neg rfl (d := 78) (by kernel_rfl) eg (by decide))]
                exact hK _ _ (HK.out undef _ ⟨fun _ => ⟨Below.refl _ _, trivial⟩, fun h => absurd rfl h⟩)
              · refine wpOp_step (o := _) rfl fun K' hK => ?_
                have eg : a.tmps.getD 78 undef = .bool true := HAN.out 8 (by decide)
                rw [if_neg (wanted_neg rfl (d := 78) (by kernel_rfl) eg (by decide))]
                exact hK _ _ (HK.out undef _ ⟨fun _ => ⟨Below.refl _ _, trivial⟩, fun h => absurd rfl h⟩)
              · refine wpOp_step (o := _) rfl fun K' hK => ?_
                have eg : a.tmps.getD 78 undef = .bool true := HAN.out 8 (by decide)
                rw [if_neg (wanted_neg rfl (d := 78) (by kernel_rfl) eg (by decide))]
                exact hK _ _ (HK.out undef _ ⟨fun _ => ⟨Below.refl _ _, trivial⟩, fun h => absurd rfl h⟩)
              · refine wpOp_step (o := _) rfl fun K' hK => ?_
                rw [if_pos (by go_simp)]
                have e0 : a.tmps.getD 78 undef = .bool true := HAN.out 8 (by decide)
                go_simp
                exact hK _ _ (HK.out _ _ ⟨fun _ => ⟨Below.refl _ _, rfl⟩, fun h => absurd rfl h⟩)
            case fin =>
            intro a wz iv I
            have hbY := I.below
            have F19 : slot a 89 = .bool true := (I.fact 19 (by decide) rfl).2
            rw [frame_of [70, 71, 72, 73, 74, 75, 76, 77, 78, 79, 80, 81, 82, 83, 84, 85, 86, 87, 88, 89] I.size I.defers (fun s hs => I.rest s (rfDsts_spec (by kernel_rfl) hs))]
            simp only [List.foldl_cons, List.foldl_nil, List.setIfInBounds_toArray, List.set_cons_succ, List.set_cons_zero, F19]
            generalize slot a 70 = t70
            generalize slot a 71 = t71
            generalize slot a 72 = t72
            generalize slot a 73 = t73
            generalize slot a 74 = t74
            generalize slot a 75 = t75
            generalize slot a 76 = t76
            generalize slot a 77 = t77
            generalize slot a 78 = t78
            generalize slot a 79 = t79
            generalize slot a 80 = t80
            generalize slot a 81 = t81
            generalize slot a 82 = t82
            generalize slot a 83 = t83
            generalize slot a 84 = t84
            generalize slot a 85 = t85
            generalize slot a 86 = t86
            generalize slot a 87 = t87
            generalize slot a 88 = t88
            clear I F19
            try clear iv a
            go_wp2_with fail
            go_ret
            exact ⟨by rw [hf.out]; rfl, (Y.out.up hbY).below⟩
          · have q1 : decide (m < 0) = false := decide_eq_false hm0
            have HM0 := hide hm0
            clear hm0
            cases hh
            · have hok := hide (dePre_step hpre.out hlt ⟨by rw [← HY.out, ← HM.out]; have := HM0.out; omega, by rw [← HY.out]; exact of_decide_eq_false HH.out.symm⟩)
              go_upto_region 12 with fail
              clear e1
              refine wp_region_any (by kernel_rfl) ?_
              refine wpAny_facts (w0 := wr) (fun i => ([(fun lo hi s W => s 70 = .agg #[.slice a1 l.length c1, .slice a2 r.length c2, .slice a3 ps.length c3]),
                (fun lo hi s W => s 71 = .pointer (some ⟨w.heap.size + 1, 1, none⟩)),
                (fun lo hi s W => s 72 = .slice (some ⟨bb, oo, none⟩) de.length k2),
                (fun lo hi s W => s 73 = .int .i64 (k : Int)),
                (fun lo hi s W => s 74 = .pointer (some ⟨bb, oo + k, none⟩)),
                (fun lo hi s W => s 75 = .int .i64 y),
                (fun lo hi s W => s 76 = .int .i64 m),
                (fun lo hi s W => s 77 = .bool false),
                (fun lo hi s W => s 78 = .bool false),
                (fun lo hi s W => s 79 = .pointer (some ⟨w.heap.size + 1, 1, none⟩)),
                (fun lo hi s W => s 80 = .slice (some ⟨bb, oo, none⟩) de.length k2),
                (fun lo hi s W => s 81 = .int .i64 (k : Int)),
                (fun lo hi s W => s 82 = .slice (some ⟨bb, oo, none⟩) k k2),
                (fun lo hi s W => s 83 = .pointer (some ⟨w.heap.size + 1, 1, none⟩)),
                (fun lo hi s W => s 84 = .slice (some ⟨bb, oo, none⟩) de.length k2),
                (fun lo hi s W => s 85 = .int .i64 (k : Int)),
                (fun lo hi s W => s 86 = .pointer (some ⟨bb, oo + k, none⟩)),
                (fun lo hi s W => s 87 = .int .i64 y),
                (fun lo hi s W => s 88 = .bool false),
                (fun lo hi s W => s 89 = .bool false)] : List (Nat → Nat → (Nat → Value) → World → Prop)).getD i (fun _ _ _ _ => True)) [[], [], [1], [], [1, 2, 3], [1, 2, 3, 4], [0, 1, 2, 3, 4, 5], [0, 1, 2, 3, 4, 5, 6], [0, 1, 2, 3, 4, 5, 6, 7], [0, 1, 2, 3, 4, 5, 6, 7, 8], [0, 1, 2, 3, 4, 5, 6, 7, 8, 9], [0, 1, 2, 3, 4, 5, 6, 7, 8], [0, 1, 2, 3, 4, 5, 6, 7, 8, 9, 10, 11], [0, 1, 2, 3, 4, 5, 6, 7, 8], [0, 1, 2, 3, 4, 5, 6, 7, 8, 13], [0, 1, 2, 3, 4, 5, 6, 7, 8], [0, 1, 2, 3, 4, 5, 6, 7, 8, 13, 14, 15], [0, 1, 2, 3, 4, 5, 6, 7, 8, 13, 14, 15, 16], [0, 1, 2, 3, 4, 5, 6, 7, 8, 9, 10, 11, 12, 13, 14, 15, 16, 17], [0, 1, 2, 3, 4, 5, 6, 7, 8, 9, 10, 11, 12, 13, 14, 15, 16, 17, 18]] [0, 1, 2, 3, 4, 5, 6, 7, 8, 9, 10, 11, 12, 13, 14, 15, 16, 17, 18, 19] [[70], [71], [72], [73], [74], [75], [76], [77], [78], [79], [80], [81], [82], [83], [84], [85], [86], [87], [88], [89]] [[], [], [], [], [], [], [], [], [], [], [], [], [], [], [], [], [], [], [], []] (by kernel_rfl) (by kernel_rfl) ?st ?step ?fin
              case st =>
                intro i hi lo hi' s W W' h q1 q2 q3 q4 k
                have hi : i < 20 := hi
                rcases (show i = 0 ∨ i = 1 ∨ i = 2 ∨ i = 3 ∨ i = 4 ∨ i = 5 ∨ i = 6 ∨ i = 7 ∨ i = 8 ∨ i = 9 ∨ i = 10 ∨ i = 11 ∨ i = 12 ∨ i = 13 ∨ i = 14 ∨ i = 15 ∨ i = 16 ∨ i = 17 ∨ i = 18 ∨ i = 19 by omega) with rfl | rfl | rfl | rfl | rfl | rfl | rfl | rfl | rfl | rfl | rfl | rfl | rfl | rfl | rfl | rfl | rfl | rfl | rfl | rfl <;> exact h
              case step =>
                intro i hi a W iv hb hsz hdf hrest hanc hivs hap K HK
                have hi : i < 20 := hi
                have HK := hide HK
                have HAN := hide hanc
                have HRS := hide hrest
                have HB := hide hb
                clear hanc hivs hap hrest hb hsz hdf 
                rcases (show i = 0 ∨ i = 1 ∨ i = 2 ∨ i = 3 ∨ i = 4 ∨ i = 5 ∨ i = 6 ∨ i = 7 ∨ i = 8 ∨ i = 9 ∨ i = 10 ∨ i = 11 ∨ i = 12 ∨ i = 13 ∨ i = 14 ∨ i = 15 ∨ i = 16 ∨ i = 17 ∨ i = 18 ∨ i = 19 by omega) with rfl | rfl | rfl | rfl | rfl | rfl | rfl | rfl | rfl | rfl | rfl | rfl | rfl | rfl | rfl | rfl | rfl | rfl | rfl | rfl
                · refine wpOp_step (o := _) rfl fun K' hK => ?_
                  rw [if_pos (by go_simp)]
                  have e0 : a.tmps.getD 2 undef = .pointer (some ⟨w.heap.size, 0, none⟩) := (HRS.out 2 (by decide)).trans rfl
                  have c0 : W.cell? ⟨w.heap.size, 0, none⟩ = some (.slice a1 l.length c1) := (Y.out.up HB.out).cell 0 0 rfl rfl
                  have c1 : W.cell? ⟨w.heap.size, 1, none⟩ = some (.slice a2 r.length c2) := (Y.out.up HB.out).cell 0 1 rfl rfl
                  have c2 : W.cell? ⟨w.heap.size, 2, none⟩ = some (.slice a3 ps.length c3) := (Y.out.up HB.out).cell 0 2 rfl rfl
                  go_simp
                  exact hK _ _ (HK.out _ _ ⟨fun _ => ⟨Below.refl _ _, rfl⟩, fun h => absurd rfl h⟩)
                · refine wpOp_step (o := _) rfl fun K' hK => ?_
                  rw [if_pos (by go_simp)]
                  have e0 : a.tmps.getD 3 undef = .pointer (some ⟨w.heap.size + 1, 0, none⟩) := (HRS.out 3 (by decide)).trans rfl
                  go_simp
                  exact hK _ _ (HK.out _ _ ⟨fun _ => ⟨Below.refl _ _, rfl⟩, fun h => absurd rfl h⟩)
                · refine wpOp_step (o := _) rfl fun K' hK => ?_
                  rw [if_pos (by go_simp)]
                  have e0 : a.tmps.getD 71 undef = .pointer (some ⟨w.heap.size + 1, 1, none⟩) := HAN.out 1 (by decide)
                  have c0 : W.cell? ⟨w.heap.size + 1, 1, none⟩ = some (.slice (some ⟨bb, oo, none⟩) de.length k2) := (Y.out.up HB.out).cell 1 1 rfl rfl
                  go_simp
                  exact hK _ _ (HK.out _ _ ⟨fun _ => ⟨Below.refl _ _, rfl⟩, fun h => absurd rfl h⟩)
                · refine wpOp_step (o := _) rfl fun K' hK => ?_
                  rw [if_pos (by go_simp)]
                  have e0 : a.tmps.getD 7 undef = .int .i64 (k : Int) := (HRS.out 7 (by decide)).trans rfl
                  go_simp
                  exact hK _ _ (HK.out _ _ ⟨fun _ => ⟨Below.refl _ _, rfl⟩, fun h => absurd rfl h⟩)
                · refine wpOp_step (o := _) rfl fun K' hK => ?_
                  rw [if_pos (by go_simp)]
                  have e0 : a.tmps.getD 72 undef = .slice (some ⟨bb, oo, none⟩) de.length k2 := HAN.out 2 (by decide)
                  have e1 : a.tmps.getD 73 undef = .int .i64 (k : Int) := HAN.out 3 (by decide)
                  go_simp
                  exact hK _ _ (HK.out _ _ ⟨fun _ => ⟨Below.refl _ _, rfl⟩, fun h => absurd rfl h⟩)
                · refine wpOp_step (o := _) rfl fun K' hK => ?_
                  rw [if_pos (by go_simp)]
                  have e0 : a.tmps.getD 74 undef = .pointer (some ⟨bb, oo + k, none⟩) := HAN.out 4 (by decide)
                  have c0 : W.cell? ⟨bb, oo + k, none⟩ = some (.int .i64 y) := (HB.out.cell (p := ⟨bb, oo + k, none⟩) hbw.out).trans HCC.out
                  go_simp
                  exact hK _ _ (HK.out _ _ ⟨fun _ => ⟨Below.refl _ _, rfl⟩, fun h => absurd rfl h⟩)
                · refine wpOp_step (o := _) rfl fun K' hK => ?_
                  rw [if_pos (by go_simp)]
                  have e0 : a.tmps.getD 70 undef = .agg #[.slice a1 l.length c1, .slice a2 r.length c2, .slice a3 ps.length c3] := HAN.out 0 (by decide)
                  have e1 : a.tmps.getD 75 undef = .int .i64 y := HAN.out 5 (by decide)
                  go_simp
                  go_at_call 65
                  refine (FR.out _ (Y.out.up HB.out).below).mono ?_
                  rintro e W' ⟨rfl, hbb⟩
                  exact hK _ _ (HK.out _ _ ⟨fun _ => ⟨hbb, rfl⟩, fun h => absurd rfl h⟩)
                · refine wpOp_step (o := _) rfl fun K' hK => ?_
                  rw [if_pos (by go_simp)]
                  have e0 : a.tmps.getD 76 undef = .int .i64 m := HAN.out 6 (by decide)
                  go_simp
                  exact hK _ _ (HK.out _ _ ⟨fun _ => ⟨Below.refl _ _, rfl⟩, fun h => absurd rfl h⟩)
                · refine wpOp_step (o := _) rfl fun K' hK => ?_
                  rw [if_pos (by go_simp)]
                  have e0 : a.tmps.getD 77 undef = .bool false := HAN.out 7 (by decide)
                  go_simp
                  exact hK _ _ (HK.out _ _ ⟨fun _ => ⟨Below.refl _ _, rfl⟩, fun h => absurd rfl h⟩)
                · refine wpOp_step (o := _) rfl fun K' hK => ?_
                  have eg : a.tmps.getD 78 undef = .bool false := HAN.out 8 (by decide)
                  rw [if_pos (wanted_pos rfl (d := 78) (by kernel_rfl) eg)]
                  clear eg
                  have e0 : a.tmps.getD 3 undef = .pointer (some ⟨w.heap.size + 1, 0, none⟩) := (HRS.out 3 (by decide)).trans rfl
                  go_simp
                  exact hK _ _ (HK.out _ _ ⟨fun _ => ⟨Below.refl _ _, rfl⟩, fun h => absurd rfl h⟩)
                · refine wpOp_step (o := _) rfl fun K' hK => ?_
                  have eg : a.tmps.getD 78 undef = .bool false := HAN.out 8 (by decide)
                  rw [if_pos (wanted_pos rfl (d := 78) (by kernel_rfl) eg)]
                  clear eg
                  have e0 : a.tmps.getD 79 undef = .pointer (some ⟨w.heap.size + 1, 1, none⟩) := HAN.out 9 (by decide)
                  have c0 : W.cell? ⟨w.heap.size + 1, 1, none⟩ = some (.slice (some ⟨bb, oo, none⟩) de.length k2) := (Y.out.up HB.out).cell 1 1 rfl rfl
                  go_simp
                  exact hK _ _ (HK.out _ _ ⟨fun _ => ⟨Below.refl _ _, rfl⟩, fun h => absurd rfl h⟩)
                · refine wpOp_step (o := _) rfl fun K' hK => ?_
                  have eg : a.tmps.getD 78 undef = .bool false := HAN.out 8 (by decide)
                  rw [if_pos (wanted_pos rfl (d := 78) (by kernel_rfl) eg)]
                  clear eg
                  have e0 : a.tmps.getD 7 undef = .int .i64 (k : Int) := (HRS.out 7 (by decide)).trans rfl
                  go_simp
                  exact hK _ _ (HK.out _ _ ⟨fun _ => ⟨Below.refl _ _, rfl⟩, fun h => absurd rfl h⟩)
                · refine wpOp_step (o := _) rfl fun K' hK => ?_
                  have eg : a.tmps.getD 78 undef = .bool false := HAN.out 8 (by decide)
                  rw [if_pos (wanted_pos rfl (d := 78) (by kernel_rfl) eg)]
                  clear eg
                  have e0 : a.tmps.getD 80 undef = .slice (some ⟨bb, oo, none⟩) de.length k2 := HAN.out 10 (by decide)
                  have e1 : a.tmps.getD 81 undef = .int .i64 (k : Int) := HAN.out 11 (by decide)
                  go_simp
                  exact hK _ _ (HK.out _ _ ⟨fun _ => ⟨Below.refl _ _, rfl⟩, fun h => absurd rfl h⟩)
                · refine wpOp_step (o := _) rfl fun K' hK => ?_
                  have eg : a.tmps.getD 78 undef = .bool false := HAN.out 8 (by decide)
                  rw [if_pos (wanted_pos rfl (d := 78) (by kernel_rfl) eg)]
                  clear eg
                  have e0 : a.tmps.getD 3 undef = .pointer (some ⟨w.heap.size + 1, 0, none⟩) := (HRS.out 3 (by decide)).trans rfl
                  go_simp
                  exact hK _ _ (HK.out _ _ ⟨fun _ => ⟨Below.refl _ _, rfl⟩, fun h => absurd rfl h⟩)
                · refine wpOp_step (o := _) rfl fun K' hK => ?_
                  have eg : a.tmps.getD 78 undef = .bool false := HAN.out 8 (by decide)
                  rw [if_pos (wanted_pos rfl (d := 78) (by kernel_rfl) eg)]
                  clear eg
                  have e0 : a.tmps.getD 83 undef = .pointer (some ⟨w.heap.size + 1, 1, none⟩) := HAN.out 13 (by decide)
                  have c0 : W.cell? ⟨w.heap.size + 1, 1, none⟩ = some (.slice (some ⟨bb, oo, none⟩) de.length k2) := (Y.out.up HB.out).cell 1 1 rfl rfl
                  go_simp
                  exact hK _ _ (HK.out _ _ ⟨fun _ => ⟨Below.refl _ _, rfl⟩, fun h => absurd rfl h⟩)
                · refine wpOp_step (o := _) rfl fun K' hK => ?_
                  have eg : a.tmps.getD 78 undef = .bool false := HAN.out 8 (by decide)
                  rw [if_pos (wanted_pos rfl (d := 78) (by kernel_rfl) eg)]
                  clear eg
                  have e0 : a.tmps.getD 7 undef = .int .i64 (k : Int) := (HRS.out 7 (by decide)).trans rfl
                  go_simp
                  exact hK _ _ (HK.out _ _ ⟨fun _ => ⟨Below.refl _ _, rfl⟩, fun h => absurd rfl h⟩)
                · refine wpOp_step (o := _) rfl fun K' hK => ?_
                  have eg : a.tmps.getD 78 undef = .bool false := HAN.out 8 (by decide)
                  rw [if_pos (wanted_pos rfl (d := 78) (by kernel_rfl) eg)]
                  clear eg
                  have e0 : a.tmps.getD 84 undef = .slice (some ⟨bb, oo, none⟩) de.length k2 := HAN.out 14 (by decide)
                  have e1 : a.tmps.getD 85 undef = .int .i64 (k : Int) := HAN.out 15 (by decide)
                  go_simp
                  exact hK _ _ (HK.out _ _ ⟨fun _ => ⟨Below.refl _ _, rfl⟩, fun h => absurd rfl h⟩)
                · refine wpOp_step (o := _) rfl fun K' hK => ?_
                  have eg : a.tmps.getD 78 undef = .bool false := HAN.out 8 (by decide)
                  rw [if_pos (wanted_pos rfl (d := 78) (by kernel_rfl) eg)]
                  clear eg
                  have e0 : a.tmps.getD 86 undef = .pointer (some ⟨bb, oo + k, none⟩) := HAN.out 16 (by decide)
                  have c0 : W.cell? ⟨bb, oo + k, none⟩ = some (.int .i64 y) := (HB.out.cell (p := ⟨bb, oo + k, none⟩) hbw.out).trans HCC.out
                  go_simp
                  exact hK _ _ (HK.out _ _ ⟨fun _ => ⟨Below.refl _ _, rfl⟩, fun h => absurd rfl h⟩)
                · refine wpOp_step (o := _) rfl fun K' hK => ?_
                  have eg : a.tmps.getD 78 undef = .bool false := HAN.out 8 (by decide)
                  rw [if_pos (wanted_pos rfl (d := 78) (by kernel_rfl) eg)]
                  clear eg
                  have e0 : a.tmps.getD 82 undef = .slice (some ⟨bb, oo, none⟩) k k2 := HAN.out 12 (by decide)
                  have e1 : a.tmps.getD 87 undef = .int .i64 y := HAN.out 17 (by decide)
                  go_simp
                  go_at_call 83
                  refine (LH.out _ (Y.out.up HB.out).below).mono ?_
                  rintro e W' ⟨rfl, rfl⟩
                  have hbb := Below.refl W.heap.size W
                  exact hK _ _ (HK.out _ _ ⟨fun _ => ⟨hbb, rfl⟩, fun h => absurd rfl h⟩)
                · refine wpOp_step (o := _) rfl fun K' hK => ?_
                  rw [if_pos (by go_simp)]
                  have e0 : a.tmps.getD 78 undef = .bool false := HAN.out 8 (by decide)
                  have e1 : a.tmps.getD 88 undef = .bool false := HAN.out 18 (by decide)
                  go_simp
                  exact hK _ _ (HK.out _ _ ⟨fun _ => ⟨Below.refl _ _, rfl⟩, fun h => absurd rfl h⟩)
              case fin =>
              intro a wz iv I
              have hbY := I.below
              have F19 : slot a 89 = .bool false := (I.fact 19 (by decide) rfl).2
              rw [frame_of [70, 71, 72, 73, 74, 75, 76, 77, 78, 79, 80, 81, 82, 83, 84, 85, 86, 87, 88, 89] I.size I.defers (fun s hs => I.rest s (rfDsts_spec (by kernel_rfl) hs))]
              simp only [List.foldl_cons, List.foldl_nil, List.setIfInBounds_toArray, List.set_cons_succ, List.set_cons_zero, F19]
              generalize slot a 70 = t70
              generalize slot a 71 = t71
              generalize slot a 72 = t72
              generalize slot a 73 = t73
              generalize slot a 74 = t74
              generalize slot a 75 = t75
              generalize slot a 76 = t76
              generalize slot a 77 = t77
              generalize slot a 78 = t78
              generalize slot a 79 = t79
              generalize slot a 80 = t80
              generalize slot a 81 = t81
              generalize slot a 82 = t82
              generalize slot a 83 = t83
              generalize slot a 84 = t84
              generalize slot a 85 = t85
              generalize slot a 86 = t86
              generalize slot a 87 = t87
              generalize slot a 88 = t88
              clear I F19
              try clear iv a
              go_wp2_with fail
              go_roundw
              case rel => exact ⟨k + 1, by omega, by go_num, hok, Y.out.up hbY⟩
              case measure => simp [intOf]; omega
            · have hf := hide (show b0 = false by rw [HB0.out]; unfold isPd; rw [des_bad hlt (fun h => by have h2 := h.2; rw [← HY.out] at h2; exact h2 (of_decide_eq_true HH.out.symm))]; simp)
              go_upto_region 12 with fail
              clear e1
              refine wp_region_any (by kernel_rfl) ?_
              refine wpAny_facts (w0 := wr) (fun i => ([(fun lo hi s W => s 70 = .agg #[.slice a1 l.length c1, .slice a2 r.length c2, .slice a3 ps.length c3]),
                (fun lo hi s W => s 71 = .pointer (some ⟨w.heap.size + 1, 1, none⟩)),
                (fun lo hi s W => s 72 = .slice (some ⟨bb, oo, none⟩) de.length k2),
                (fun lo hi s W => s 73 = .int .i64 (k : Int)),
                (fun lo hi s W => s 74 = .pointer (some ⟨bb, oo + k, none⟩)),
                (fun lo hi s W => s 75 = .int .i64 y),
                (fun lo hi s W => s 76 = .int .i64 m),
                (fun lo hi s W => s 77 = .bool false),
                (fun lo hi s W => s 78 = .bool false),
                (fun lo hi s W => s 79 = .pointer (some ⟨w.heap.size + 1, 1, none⟩)),
                (fun lo hi s W => s 80 = .slice (some ⟨bb, oo, none⟩) de.length k2),
                (fun lo hi s W => s 81 = .int .i64 (k : Int)),
                (fun lo hi s W => s 82 = .slice (some ⟨bb, oo, none⟩) k k2),
                (fun lo hi s W => s 83 = .pointer (some ⟨w.heap.size + 1, 1, none⟩)),
                (fun lo hi s W => s 84 = .slice (some ⟨bb, oo, none⟩) de.length k2),
                (fun lo hi s W => s 85 = .int .i64 (k : Int)),
                (fun lo hi s W => s 86 = .pointer (some ⟨bb, oo + k, none⟩)),
                (fun lo hi s W => s 87 = .int .i64 y),
                (fun lo hi s W => s 88 = .bool true),
                (fun lo hi s W => s 89 = .bool true)] : List (Nat → Nat → (Nat → Value) → World → Prop)).getD i (fun _ _ _ _ => True)) [[], [], [1], [], [1, 2, 3], [1, 2, 3, 4], [0, 1, 2, 3, 4, 5], [0, 1, 2, 3, 4, 5, 6], [0, 1, 2, 3, 4, 5, 6, 7], [0, 1, 2, 3, 4, 5, 6, 7, 8], [0, 1, 2, 3, 4, 5, 6, 7, 8, 9], [0, 1, 2, 3, 4, 5, 6, 7, 8], [0, 1, 2, 3, 4, 5, 6, 7, 8, 9, 10, 11], [0, 1, 2, 3, 4, 5, 6, 7, 8], [0, 1, 2, 3, 4, 5, 6, 7, 8, 13], [0, 1, 2, 3, 4, 5, 6, 7, 8], [0, 1, 2, 3, 4, 5, 6, 7, 8, 13, 14, 15], [0, 1, 2, 3, 4, 5, 6, 7, 8, 13, 14, 15, 16], [0, 1, 2, 3, 4, 5, 6, 7, 8, 9, 10, 11, 12, 13, 14, 15, 16, 17], [0, 1, 2, 3, 4, 5, 6, 7, 8, 9, 10, 11, 12, 13, 14, 15, 16, 17, 18]] [0, 1, 2, 3, 4, 5, 6, 7, 8, 9, 10, 11, 12, 13, 14, 15, 16, 17, 18, 19] [[70], [71], [72], [73], [74], [75], [76], [77], [78], [79], [80], [81], [82], [83], [84], [85], [86], [87], [88], [89]] [[], [], [], [], [], [], [], [], [], [], [], [], [], [], [], [], [], [], [], []] (by kernel_rfl) (by kernel_rfl) ?st ?step ?fin
              case st =>
                intro i hi lo hi' s W W' h q1 q2 q3 q4 k
                have hi : i < 20 := hi
                rcases (show i = 0 ∨ i = 1 ∨ i = 2 ∨ i = 3 ∨ i = 4 ∨ i = 5 ∨ i = 6 ∨ i = 7 ∨ i = 8 ∨ i = 9 ∨ i = 10 ∨ i = 11 ∨ i = 12 ∨ i = 13 ∨ i = 14 ∨ i = 15 ∨ i = 16 ∨ i = 17 ∨ i = 18 ∨ i = 19 by omega) with rfl | rfl | rfl | rfl | rfl | rfl | rfl | rfl | rfl | rfl | rfl | rfl | rfl | rfl | rfl | rfl | rfl | rfl | rfl | rfl <;> exact h
              case step =>
                intro i hi a W iv hb hsz hdf hrest hanc hivs hap K HK
                have hi : i < 20 := hi
                have HK := hide HK
                have HAN := hide hanc
                have HRS := hide hrest
                have HB := hide hb
                clear hanc hivs hap hrest hb hsz hdf 
                rcases (show i = 0 ∨ i = 1 ∨ i = 2 ∨ i = 3 ∨ i = 4 ∨ i = 5 ∨ i = 6 ∨ i = 7 ∨ i = 8 ∨ i = 9 ∨ i = 10 ∨ i = 11 ∨ i = 12 ∨ i = 13 ∨ i = 14 ∨ i = 15 ∨ i = 16 ∨ i = 17 ∨ i = 18 ∨ i = 19 by omega) with rfl | rfl | rfl | rfl | rfl | rfl | rfl | rfl | rfl | rfl | rfl | rfl | rfl | rfl | rfl | rfl | rfl | rfl | rfl | rfl
                · refine wpOp_step (o := _) rfl fun K' hK => ?_
                  rw [if_pos (by go_simp)]
                  have e0 : a.tmps.getD 2 undef = .pointer (some ⟨w.heap.size, 0, none⟩) := (HRS.out 2 (by decide)).trans rfl
                  have c0 : W.cell? ⟨w.heap.size, 0, none⟩ = some (.slice a1 l.length c1) := (Y.out.up HB.out).cell 0 0 rfl rfl
                  have c1 : W.cell? ⟨w.heap.size, 1, none⟩ = some (.slice a2 r.length c2) := (Y.out.up HB.out).cell 0 1 rfl rfl
                  have c2 : W.cell? ⟨w.heap.size, 2, none⟩ = some (.slice a3 ps.length c3) := (Y.out.up HB.out).cell 0 2 rfl rfl
                  go_simp
                  exact hK _ _ (HK.out _ _ ⟨fun _ => ⟨Below.refl _ _, rfl⟩, fun h => absurd rfl h⟩)
                · refine wpOp_step (o := _) rfl fun K' hK => ?_
                  rw [if_pos (by go_simp)]
                  have e0 : a.tmps.getD 3 undef = .pointer (some ⟨w.heap.size + 1, 0, none⟩) := (HRS.out 3 (by decide)).trans rfl
                  go_simp
                  exact hK _ _ (HK.out _ _ ⟨fun _ => ⟨Below.refl _ _, rfl⟩, fun h => absurd rfl h⟩)
                · refine wpOp_step (o := _) rfl fun K' hK => ?_
                  rw [if_pos (by go_simp)]
                  have e0 : a.tmps.getD 71 undef = .pointer (some ⟨w.heap.size + 1, 1, none⟩) := HAN.out 1 (by decide)
                  have c0 : W.cell? ⟨w.heap.size + 1, 1, none⟩ = some (.slice (some ⟨bb, oo, none⟩) de.length k2) := (Y.out.up HB.out).cell 1 1 rfl rfl
                  go_simp
                  exact hK _ _ (HK.out _ _ ⟨fun _ => ⟨Below.refl _ _, rfl⟩, fun h => absurd rfl h⟩)
                · refine wpOp_step (o := _) rfl fun K' hK => ?_
                  rw [if_pos (by go_simp)]
                  have e0 : a.tmps.getD 7 undef = .int .i64 (k : Int) := (HRS.out 7 (by decide)).trans rfl
                  go_simp
                  exact hK _ _ (HK.out _ _ ⟨fun _ => ⟨Below.refl _ _, rfl⟩, fun h => absurd rfl h⟩)
                · refine wpOp_step (o := _) rfl fun K' hK => ?_
                  rw [if_pos (by go_simp)]
                  have e0 : a.tmps.getD 72 undef = .slice (some ⟨bb, oo, none⟩) de.length k2 := HAN.out 2 (by decide)
                  have e1 : a.tmps.getD 73 undef = .int .i64 (k : Int) := HAN.out 3 (by decide)
                  go_simp
                  exact hK _ _ (HK.out _ _ ⟨fun _ => ⟨Below.refl _ _, rfl⟩, fun h => absurd rfl h⟩)
                · refine wpOp_step (o := _) rfl fun K' hK => ?_
                  rw [if_pos (by go_simp)]
                  have e0 : a.tmps.getD 74 undef = .pointer (some ⟨bb, oo + k, none⟩) := HAN.out 4 (by decide)
                  have c0 : W.cell? ⟨bb, oo + k, none⟩ = some (.int .i64 y) := (HB.out.cell (p := ⟨bb, oo + k, none⟩) hbw.out).trans HCC.out
                  go_simp
                  exact hK _ _ (HK.out _ _ ⟨fun _ => ⟨Below.refl _ _, rfl⟩, fun h => absurd rfl h⟩)
                · refine wpOp_step (o := _) rfl fun K' hK => ?_
                  rw [if_pos (by go_simp)]
                  have e0 : a.tmps.getD 70 undef = .agg #[.slice a1 l.length c1, .slice a2 r.length c2, .slice a3 ps.length c3] := HAN.out 0 (by decide)
                  have e1 : a.tmps.getD 75 undef = .int .i64 y := HAN.out 5 (by decide)
                  go_simp
                  go_at_call 65
                  refine (FR.out _ (Y.out.up HB.out).below).mono ?_
                  rintro e W' ⟨rfl, hbb⟩
                  exact hK _ _ (HK.out _ _ ⟨fun _ => ⟨hbb, rfl⟩, fun h => absurd rfl h⟩)
                · refine wpOp_step (o := _) rfl fun K' hK => ?_
                  rw [if_pos (by go_simp)]
                  have e0 : a.tmps.getD 76 undef = .int .i64 m := HAN.out 6 (by decide)
                  go_simp
                  exact hK _ _ (HK.out _ _ ⟨fun _ => ⟨Below.refl _ _, rfl⟩, fun h => absurd rfl h⟩)
                · refine wpOp_step (o := _) rfl fun K' hK => ?_
                  rw [if_pos (by go_simp)]
                  have e0 : a.tmps.getD 77 undef = .bool false := HAN.out 7 (by decide)
                  go_simp
                  exact hK _ _ (HK.out _ _ ⟨fun _ => ⟨Below.refl _ _, rfl⟩, fun h => absurd rfl h⟩)
                · refine wpOp_step (o := _) rfl fun K' hK => ?_
                  have eg : a.tmps.getD 78 undef = .bool false := HAN.out 8 (by decide)
                  rw [if_pos (wanted_pos rfl (d := 78) (by kernel_rfl) eg)]
                  clear eg
                  have e0 : a.tmps.getD 3 undef = .pointer (some ⟨w.heap.size + 1, 0, none⟩) := (HRS.out 3 (by decide)).trans rfl
                  go_simp
                  exact hK _ _ (HK.out _ _ ⟨fun _ => ⟨Below.refl _ _, rfl⟩, fun h => absurd rfl h⟩)
                · refine wpOp_step (o := _) rfl fun K' hK => ?_
                  have eg : a.tmps.getD 78 undef = .bool false := HAN.out 8 (by decide)
                  rw [if_pos (wanted_pos rfl (d := 78) (by kernel_rfl) eg)]
                  clear eg
                  have e0 : a.tmps.getD 79 undef = .pointer (some ⟨w.heap.size + 1, 1, none⟩) := HAN.out 9 (by decide)
                  have c0 : W.cell? ⟨w.heap.size + 1, 1, none⟩ = some (.slice (some ⟨bb, oo, none⟩) de.length k2) := (Y.out.up HB.out).cell 1 1 rfl rfl
                  go_simp
                  exact hK _ _ (HK.out _ _ ⟨fun _ => ⟨Below.refl _ _, rfl⟩, fun h => absurd rfl h⟩)
                · refine wpOp_step (o := _) rfl fun K' hK => ?_
                  have eg : a.tmps.getD 78 undef = .bool false := HAN.out 8 (by decide)
                  rw [if_pos (wanted_pos rfl (d := 78) (by kernel_rfl) eg)]
                  clear eg
                  have e0 : a.tmps.getD 7 undef = .int .i64 (k : Int) := (HRS.out 7 (by decide)).trans rfl
                  go_simp
                  exact hK _ _ (HK.out _ _ ⟨fun _ => ⟨Below.refl _ _, rfl⟩, fun h => absurd rfl h⟩)
                · refine wpOp_step (o := _) rfl fun K' hK => ?_
                  have eg : a.tmps.getD 78 undef = .bool false := HAN.out 8 (by decide)
                  rw [if_pos (wanted_pos rfl (d := 78) (by kernel_rfl) eg)]
                  clear eg
                  have e0 : a.tmps.getD 80 undef = .slice (some ⟨bb, oo, none⟩) de.length k2 := HAN.out 10 (by decide)
                  have e1 : a.tmps.getD 81 undef = .int .i64 (k : Int) := HAN.out 11 (by decide)
                  go_simp
                  exact hK _ _ (HK.out _ _ ⟨fun _ => ⟨Below.refl _ _, rfl⟩, fun h => absurd rfl h⟩)
                · refine wpOp_step (o := _) rfl fun K' hK => ?_
                  have eg : a.tmps.getD 78 undef = .bool false := HAN.out 8 (by decide)
                  rw [if_pos (wanted_pos rfl (d := 78) (by kernel_rfl) eg)]
                  clear eg
                  have e0 : a.tmps.getD 3 undef = .pointer (some ⟨w.heap.size + 1, 0, none⟩) := (HRS.out 3 (by decide)).trans rfl
                  go_simp
                  exact hK _ _ (HK.out _ _ ⟨fun _ => ⟨Below.refl _ _, rfl⟩, fun h => absurd rfl h⟩)
                · refine wpOp_step (o := _) rfl fun K' hK => ?_
                  have eg : a.tmps.getD 78 undef = .bool false := HAN.out 8 (by decide)
                  rw [if_pos (wanted_pos rfl (d := 78) (by kernel_rfl) eg)]
                  clear eg
                  have e0 : a.tmps.getD 83 undef = .pointer (some ⟨w.heap.size + 1, 1, none⟩) := HAN.out 13 (by decide)
                  have c0 : W.cell? ⟨w.heap.size + 1, 1, none⟩ = some (.slice (some ⟨bb, oo, none⟩) de.length k2) := (Y.out.up HB.out).cell 1 1 rfl rfl
                  go_simp
                  exact hK _ _ (HK.out _ _ ⟨fun _ => ⟨Below.refl _ _, rfl⟩, fun h => absurd rfl h⟩)
                · refine wpOp_step (o := _) rfl fun K' hK => ?_
                  have eg : a.tmps.getD 78 undef = .bool false := HAN.out 8 (by decide)
                  rw [if_pos (wanted_pos rfl (d := 78) (by kernel_rfl) eg)]
                  clear eg
                  have e0 : a.tmps.getD 7 undef = .int .i64 (k : Int) := (HRS.out 7 (by decide)).trans rfl
                  go_simp
                  exact hK _ _ (HK.out _ _ ⟨fun _ => ⟨Below.refl _ _, rfl⟩, fun h => absurd rfl h⟩)
                · refine wpOp_step (o := _) rfl fun K' hK => ?_
                  have eg : a.tmps.getD 78 undef = .bool false := HAN.out 8 (by decide)
                  rw [if_pos (wanted_pos rfl (d := 78) (by kernel_rfl) eg)]
                  clear eg
                  have e0 : a.tmps.getD 84 undef = .slice (some ⟨bb, oo, none⟩) de.length k2 := HAN.out 14 (by decide)
                  have e1 : a.tmps.getD 85 undef = .int .i64 (k : Int) := HAN.out 15 (by decide)
                  go_simp
                  exact hK _ _ (HK.out _ _ ⟨fun _ => ⟨Below.refl _ _, rfl⟩, fun h => absurd rfl h⟩)
                · refine wpOp_step (o := _) rfl fun K' hK => ?_
                  have eg : a.tmps.getD 78 undef = .bool false := HAN.out 8 (by decide)
                  rw [if_pos (wanted_pos rfl (d := 78) (by kernel_rfl) eg)]
                  clear eg
                  have e0 : a.tmps.getD 86 undef = .pointer (some ⟨bb, oo + k, none⟩) := HAN.out 16 (by decide)
                  have c0 : W.cell? ⟨bb, oo + k, none⟩ = some (.int .i64 y) := (HB.out.cell (p := ⟨bb, oo + k, none⟩) hbw.out).trans HCC.out
                  go_simp
                  exact hK _ _ (HK.out _ _ ⟨fun _ => ⟨Below.refl _ _, rfl⟩, fun h => absurd rfl h⟩)
                · refine wpOp_step (o := _) rfl fun K' hK => ?_
                  have eg : a.tmps.getD 78 undef = .bool false := HAN.out 8 (by decide)
                  rw [if_pos (wanted_pos rfl (d := 78) (by kernel_rfl) eg)]
                  clear eg
                  have e0 : a.tmps.getD 82 undef = .slice (some ⟨bb, oo, none⟩) k k2 := HAN.out 12 (by decide)
                  have e1 : a.tmps.getD 87 undef = .int .i64 y := HAN.out 17 (by decide)
                  go_simp
                  go_at_call 83
                  refine (LH.out _ (Y.out.up HB.out).below).mono ?_
                  rintro e W' ⟨rfl, rfl⟩
                  have hbb := Below.refl W.heap.size W
                  exact hK _ _ (HK.out _ _ ⟨fun _ => ⟨hbb, rfl⟩, fun h => absurd rfl h⟩)
                · refine wpOp_step (o := _) rfl fun K' hK => ?_
                  rw [if_pos (by go_simp)]
                  have e0 : a.tmps.getD 78 undef = .bool false := HAN.out 8 (by decide)
                  have e1 : a.tmps.getD 88 undef = .bool true := HAN.out 18 (by decide)
                  go_simp
                  exact hK _ _ (HK.out _ _ ⟨fun _ => ⟨Below.refl _ _, rfl⟩, fun h => absurd rfl h⟩)
              case fin =>
              intro a wz iv I
              have hbY := I.below
              have F19 : slot a 89 = .bool true := (I.fact 19 (by decide) rfl).2
              rw [frame_of [70, 71, 72, 73, 74, 75, 76, 77, 78, 79, 80, 81, 82, 83, 84, 85, 86, 87, 88, 89] I.size I.defers (fun s hs => I.rest s (rfDsts_spec (by kernel_rfl) hs))]
              simp only [List.foldl_cons, List.foldl_nil, List.setIfInBounds_toArray, List.set_cons_succ, List.set_cons_zero, F19]
              generalize slot a 70 = t70
              generalize slot a 71 = t71
              generalize slot a 72 = t72
              generalize slot a 73 = t73
              generalize slot a 74 = t74
              generalize slot a 75 = t75
              generalize slot a 76 = t76
              generalize slot a 77 = t77
              generalize slot a 78 = t78
              generalize slot a 79 = t79
              generalize slot a 80 = t80
              generalize slot a 81 = t81
              generalize slot a 82 = t82
              generalize slot a 83 = t83
              generalize slot a 84 = t84
              generalize slot a 85 = t85
              generalize slot a 86 = t86
              generalize slot a 87 = t87
              generalize slot a 88 = t88
              clear I F19
              try clear iv a
              go_wp2_with fail
              go_ret
              exact ⟨by rw [hf.out]; rfl, (Y.out.up hbY).below⟩
        · have hke : k = de.length := by omega
          subst hke
          have hf := hide (show b0 = true by rw [HB0.out]; unfold isPd; rw [← HT.out, HS.out, HI.out, dePre_all hpre.out]; rfl)
          go_wp2_with fail
          go_ret
          exact ⟨by rw [hf.out]; rfl, Y.out.below⟩

end Go.Proofs.Ytajfhalalnlejaa
