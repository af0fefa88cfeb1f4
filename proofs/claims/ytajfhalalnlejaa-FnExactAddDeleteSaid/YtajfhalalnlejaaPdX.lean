/- What AddDelete of the reference returns (gen_pdx.py; promise 7). -/
import Derived.Test.YtajfhalalnlejaaPdA
namespace Go.Proofs.Ytajfhalalnlejaa
open Go.RowKit Go.ChangeShapes
set_option linter.unusedSimpArgs false
set_option linter.unusedVariables false
set_option maxRecDepth 100000

theorem pdWf_ax {ins : List Pv} {de : List Int} {row : Int} (h : PdWf ins de) (h1 : I64 row) (hl : ins.length ≤ 4000000) : PdWf (adqI ins row) (adqD ins de row) := by
  refine ⟨⟨?_, fun p hp => ?_⟩, fun x hx => ?_⟩
  · unfold adqI; split
    · simp; omega
    · omega
  · unfold adqI at hp
    split at hp
    · rcases List.mem_append.1 hp with hp | hp
      · exact h.1.2 p (List.mem_of_mem_take hp)
      · exact h.1.2 p (List.mem_of_mem_drop hp)
    · exact h.1.2 p hp
  · unfold adqD at hx
    split at hx
    · exact h.2 x hx
    · rcases List.mem_append.1 hx with hx | hx
      · exact h.2 x hx
      · simp at hx
        subst hx
        exact h1

theorem int_news {W : World} {g : Nat} {x : Int} (h : W.heap[g]? = some (.cells #[.int .i64 x] 3 (0, 0))) : ∀ j u, (intVs [x])[j]? = some u → W.cell? ((⟨g, 0, none⟩ : Addr).add j) = some u := by
  intro j u hj
  rw [addr_add, cell_of_row W g (0 + j) _ _ (0, 0) h, Nat.zero_add]
  simpa [intVs] using hj

/-- The first k of pivots that are read. -/
theorem pvs_take {w : World} {B n c : Nat} {a : Option Addr} {ps : List Pv} (h : Pvs w B (.slice a n c) ps) (k c' : Nat) (hk : k ≤ ps.length) : Pvs w B (.slice a k c') (ps.take k) := by
  obtain ⟨a', cc, e, h1, h2, h3⟩ := h
  simp only [Value.slice.injEq] at e
  obtain ⟨rfl, -, -⟩ := e
  have hl : (ps.take k).length = k := by simp; omega
  refine ⟨a, c', by rw [hl], by omega, fun p hp => h2 p (List.mem_of_mem_take hp), fun j hj => ?_⟩
  obtain ⟨b, o, e2, hb, x, y⟩ := h3 j (by omega)
  exact ⟨b, o, e2, hb, by rw [x, List.getElem_take], by rw [y, List.getElem_take]⟩

/-- The rest of pivots that are read, from k on. -/
theorem pvs_rest {w : World} {B n c : Nat} {b o : Nat} {ps : List Pv} (h : Pvs w B (.slice (some ⟨b, o, none⟩) n c) ps) (k c' : Nat) : Pvs w B (.slice (some ⟨b, o + k * 2, none⟩) (ps.drop k).length c') (ps.drop k) := by
  obtain ⟨a', cc, e, h1, h2, h3⟩ := h
  simp only [Value.slice.injEq] at e
  obtain ⟨rfl, -, -⟩ := e
  refine ⟨_, c', rfl, by simp; omega, fun p hp => h2 p (List.mem_of_mem_drop hp), fun j hj => ?_⟩
  rw [List.length_drop] at hj
  obtain ⟨b', o', e2, hb, x, y⟩ := h3 (k + j) (by omega)
  simp only [Option.some.injEq, Addr.mk.injEq, and_true] at e2
  obtain ⟨rfl, rfl⟩ := e2
  refine ⟨b, o + k * 2, rfl, hb, ?_, ?_⟩
  · rw [show o + k * 2 + j * 2 = o + (k + j) * 2 by omega, x, List.getElem_drop]
  · rw [show o + k * 2 + j * 2 + 1 = o + (k + j) * 2 + 1 by omega, y, List.getElem_drop]

set_option maxHeartbeats 8000000 in
theorem sAx_any (v0 v1 : Value) (l r : List Int) (ps : List Pv) (ins : List Pv) (de : List Int) (row : Int) (w : World) (k0 : Ck w w.heap.size v0 l r ps) (k1 : Pd w w.heap.size v1 ins de) (h1 : l.length ≤ 1048576) (h4 : ins.length ≤ 1048576) (h5 : de.length ≤ 1048576) (h6 : I64 row) :
    Calls Try.prog 46 #[v0, v1, .int .i64 row] w (RetPB w (axI l r ps ins de row) (axD l r ps ins de row) (axB l r ps ins de row)) := by
  obtain ⟨a1, c1, a2, c2, a3, c3, rfl, -⟩ := k0.form
  obtain ⟨b1, d1, b2, d2, rfl, i1, -⟩ := k1.form
  have hwf := k1.wf
  have hcp : ins.length ≤ d1 := by
    obtain ⟨x, y, e, -, -, ⟨a', n', c', rfl, hc, -⟩, -⟩ := k1
    simp only [Value.agg.injEq, Array.mk.injEq, List.cons.injEq, Value.slice.injEq, and_true] at e
    obtain ⟨⟨-, rfl, rfl⟩, -⟩ := e
    exact hc
  have X : Hid (Kn w (((w.alloc (.cells #[.slice a1 l.length c1, .slice a2 r.length c2, .slice a3 ps.length c3] 27)).alloc (.cells #[.slice b1 ins.length d1, .slice b2 de.length d2] 70)).alloc (.cells #[.slice none 0 0, .slice none 0 0] 70)) [(w.heap.size, #[.slice a1 l.length c1, .slice a2 r.length c2, .slice a3 ps.length c3], 27), (w.heap.size + 1, #[.slice b1 ins.length d1, .slice b2 de.length d2], 70), (w.heap.size + 1 + 1, #[.slice none 0 0, .slice none 0 0], 70)]) := hide (Kn.three w #[.slice a1 l.length c1, .slice a2 r.length c2, .slice a3 ps.length c3] #[.slice b1 ins.length d1, .slice b2 de.length d2] #[.slice none 0 0, .slice none 0 0] 27 70 70)
  obtain ⟨w1, hw1⟩ : ∃ w1, w1 = ((w.alloc (.cells #[.slice a1 l.length c1, .slice a2 r.length c2, .slice a3 ps.length c3] 27)).alloc (.cells #[.slice b1 ins.length d1, .slice b2 de.length d2] 70)).alloc (.cells #[.slice none 0 0, .slice none 0 0] 70) := ⟨_, rfl⟩
  have N1 := hide (show w1.heap.size = w.heap.size + 1 + 1 + 1 by rw [hw1]; simp)
  rw [← hw1] at X
  have V := hide (fun (W : World) (h : Below w.heap.size w W) => k0.below h (Nat.le_refl _))
  have U := hide (fun (W : World) (h : Below w.heap.size w W) => k1.below h (Nat.le_refl _))
  have I1 := hide (fun (W : World) (h : Below w.heap.size w W) => i1.below h (Nat.le_refl _))
  clear k0 k1 i1
  obtain ⟨bP, hbP⟩ : ∃ q, q = isPd l r ps ins de := ⟨_, rfl⟩
  have HBP := hide hbP
  have e0 : w1.cell? ⟨w.heap.size + 1, 0, none⟩ = some (.slice b1 ins.length d1) := X.out.cell 1 0 rfl rfl
  have e1 : w1.cell? ⟨w.heap.size + 1, 1, none⟩ = some (.slice b2 de.length d2) := X.out.cell 1 1 rfl rfl
  rw [hw1] at e0 e1
  go_enter Try.func46, Try.ntmps46
  go_wp2_with fail
  rw [← hw1]
  clear hw1 e0 e1 hbP
  go_at_call 92
  refine (sPdCopy_any _ ins de w1 w.heap.size (U.out _ X.out.below) X.out.below.size (by omega) (by omega)).mono ?_
  rintro e w2 ⟨q, rfl, ⟨qx, qy, n1, m1, n2, m2, rfl, OQ⟩, hb⟩
  have X := hide (X.out.up hb)
  obtain ⟨g1, s1, rfl⟩ := OQ.p1.own.form
  obtain ⟨g2, s2, rfl⟩ := OQ.p2.form
  have N2 := hide OQ.low
  have N3 := hide OQ.high
  have N4 := hide OQ.apart
  have N5 := hide hb.size
  have O1 := hide OQ.p1
  have O2 := hide OQ.p2
  clear hb OQ
  have bl := below1 w2 (.cells #[.slice g1 ins.length s1, .slice g2 de.length s2] 70)
  have X := hide (X.out.alloc #[.slice g1 ins.length s1, .slice g2 de.length s2] 70)
  have O1 := hide (O1.out.below bl)
  have O2 := hide (O2.out.below bl)
  obtain ⟨w3, hw3⟩ : ∃ q, q = w2.alloc (.cells #[.slice g1 ins.length s1, .slice g2 de.length s2] 70) := ⟨_, rfl⟩
  obtain ⟨bq, hbq⟩ : ∃ q, q = w2.heap.size := ⟨_, rfl⟩
  have N6 := hide (show bq = w2.heap.size ∧ w3.heap.size = w2.heap.size + 1 by rw [hw3, hbq]; simp)
  rw [← hw3] at X O1 O2
  rw [← hbq] at X
  simp only [List.cons_append, List.nil_append] at X
  clear bl
  obtain ⟨kk, hkk⟩ : ∃ q, q = hasR ins row := ⟨_, rfl⟩
  have HK := hide hkk
  have e0 : w3.cell? ⟨w.heap.size + 1, 0, none⟩ = some (.slice b1 ins.length d1) := X.out.cell 1 0 rfl rfl
  have e1 : w3.cell? ⟨w.heap.size + 1, 1, none⟩ = some (.slice b2 de.length d2) := X.out.cell 1 1 rfl rfl
  rw [hw3] at e0 e1
  go_wp2_with fail
  rw [← hbq, ← hw3]
  clear hbq hw3 e0 e1 hkk
  go_at_call 87
  refine (sHasR_any _ ins de row w3 w.heap.size (U.out _ X.out.below) X.out.below.size).mono ?_
  rintro e w4 ⟨rfl, hb⟩
  rw [← HK.out]
  have X := hide (X.out.up hb)
  have O1 := hide (O1.out.below hb)
  have O2 := hide (O2.out.below hb)
  have N7 := hide hb.size
  clear hb
  by_cases hk0 : 0 ≤ kk
  · have t0 : decide (0 ≤ kk) = true := decide_eq_true hk0
    have hkl := rowAt_lt (itR ins) row
    have hkm : kk < ins.length := by
      have h2 := rowAt_lo (itR ins) row
      have h3 := itR_length ins
      have h4 := HK.out
      unfold hasR at h4
      omega
    obtain ⟨k, rfl⟩ : ∃ k : Nat, kk = (k : Int) := ⟨kk.toNat, by omega⟩
    have hkn : k < ins.length := by omega
    have HIQ0 := hide (show adqI ins row = ins.take k ++ ins.drop (k + 1) by unfold adqI; rw [← HK.out, if_pos (by omega)]; simp)
    have HDQ0 := hide (show adqD ins de row = de by unfold adqD; rw [← HK.out, if_pos (by omega)])
    clear hkl hk0 hkm
    obtain ⟨bb, oo, rfl, hbB, -⟩ : ∃ bb oo, b1 = some ⟨bb, oo, none⟩ ∧ bb < w.heap.size ∧ True := by
      obtain ⟨a', c', he, -, -, h3⟩ := I1.out _ X.out.below
      simp only [Value.slice.injEq] at he
      obtain ⟨rfl, -, -⟩ := he
      obtain ⟨b', o', e, hb, -⟩ := h3 k hkn
      exact ⟨b', o', e, hb, trivial⟩
    have q0 : (0 : Int) ≤ (k : Int) := by omega
    have q1 : (k : Int) ≤ (d1 : Int) := by omega
    have q2 : IntKind.i64.wrap ((k : Int) + 1) = (k : Int) + 1 := IntWalk.i64_in _ (by omega)
    have q3 : (0 : Int) ≤ (k : Int) + 1 := by omega
    have q4 : (k : Int) + 1 ≤ (ins.length : Int) := by omega
    have q5 : ((k : Int) + 1).toNat = k + 1 := by omega
    have q6 : (ins.length : Int) ≤ (d1 : Int) := by omega
    by_cases hce : d1 = k + 1
    · subst hce
      have q8 : (k : Int) ≤ (k : Int) + 1 := by omega
      have q9 : (ins.length : Int) ≤ (k : Int) + 1 := by omega
      go_upto_region 4 with fail
      refine wp_region_any (by kernel_rfl) ?_
      refine wpAny_factsT (w0 := w4) (fun i => ([(fun lo hi s W => ∃ g, s 17 = .slice (some ⟨g, 0, none⟩) 0 0 ∧ lo ≤ g ∧ g < hi ∧ W.heap[g]? = some (.cells #[] 49 (0, 0))),
        (fun lo hi s W => s 18 = .pointer (some ⟨w.heap.size + 1, 0, none⟩)),
        (fun lo hi s W => s 19 = .slice (some ⟨bb, oo, none⟩) ins.length (k + 1)),
        (fun lo hi s W => s 20 = .int .i64 (k : Int)),
        (fun lo hi s W => s 21 = .slice (some ⟨bb, oo, none⟩) k (k + 1)),
        (fun lo hi s W => ((ins.take k).length = 0 ∧ s 22 = s 17) ∨ Owi W (s 22) (ins.take k) lo hi),
        (fun lo hi s W => s 23 = .pointer (some ⟨w.heap.size + 1, 0, none⟩)),
        (fun lo hi s W => s 24 = .slice (some ⟨bb, oo, none⟩) ins.length (k + 1)),
        (fun lo hi s W => s 25 = .int .i64 (k : Int)),
        (fun lo hi s W => s 26 = .int .i64 ((k : Int) + 1)),
        (fun lo hi s W => s 27 = .slice (some ⟨bb, oo, none⟩) 0 0),
        (fun lo hi s W => True),
        (fun lo hi s W => True),
        (fun lo hi s W => True)] : List (Nat → Nat → (Nat → Value) → World → Prop)).getD i (fun _ _ _ _ => True)) [[], [], [1], [], [1, 2, 3], [0, 1, 2, 3, 4], [], [6], [], [8], [6, 7, 8, 9], [0, 1, 2, 3, 4, 5, 6, 7, 8, 9, 10], [0, 1, 2, 3, 4, 5, 6, 7, 8, 9, 10, 11], [0, 1, 2, 3, 4, 5, 6, 7, 8, 9, 10, 11, 12]] [0, 1, 2, 3, 4, 5, 6, 7, 8, 9, 10, 11, 12, 13] [[17], [18], [19], [20], [21], [22, 17], [23], [24], [25], [26], [27], [], [], []] [[], [], [], [], [], [], [], [], [], [], [], [], [], []] (by kernel_rfl) (by kernel_rfl) 11 3 rfl (by kernel_rfl) ?st ?step ?fin
      case st =>
        intro i hi lo hi' s W W' h q1 q2 q3 q4 k'
        rcases (show i = 0 ∨ i = 1 ∨ i = 2 ∨ i = 3 ∨ i = 4 ∨ i = 5 ∨ i = 6 ∨ i = 7 ∨ i = 8 ∨ i = 9 ∨ i = 10 by omega) with rfl | rfl | rfl | rfl | rfl | rfl | rfl | rfl | rfl | rfl | rfl
        · have h : ∃ g, s 17 = .slice (some ⟨g, 0, none⟩) 0 0 ∧ lo ≤ g ∧ g < hi' ∧ W.heap[g]? = some (.cells #[] 49 (0, 0)) := h
          show ∃ g, s 17 = .slice (some ⟨g, 0, none⟩) 0 0 ∧ lo ≤ g ∧ g < hi' ∧ W'.heap[g]? = some (.cells #[] 49 (0, 0))
          obtain ⟨g, e1, e2, e3, e4⟩ := h; exact ⟨g, e1, e2, e3, (k'.own g e2 e3 (Array.getElem?_eq_some_iff.1 e4).1).trans e4⟩
        · have h : s 18 = .pointer (some ⟨w.heap.size + 1, 0, none⟩) := h
          show s 18 = .pointer (some ⟨w.heap.size + 1, 0, none⟩)
          exact h
        · have h : s 19 = .slice (some ⟨bb, oo, none⟩) ins.length (k + 1) := h
          show s 19 = .slice (some ⟨bb, oo, none⟩) ins.length (k + 1)
          exact h
        · have h : s 20 = .int .i64 (k : Int) := h
          show s 20 = .int .i64 (k : Int)
          exact h
        · have h : s 21 = .slice (some ⟨bb, oo, none⟩) k (k + 1) := h
          show s 21 = .slice (some ⟨bb, oo, none⟩) k (k + 1)
          exact h
        · have h : ((ins.take k).length = 0 ∧ s 22 = s 17) ∨ Owi W (s 22) (ins.take k) lo hi' := h
          show ((ins.take k).length = 0 ∧ s 22 = s 17) ∨ Owi W' (s 22) (ins.take k) lo hi'
          exact h.imp id (fun h => h.on k'.size k'.own)
        · have h : s 23 = .pointer (some ⟨w.heap.size + 1, 0, none⟩) := h
          show s 23 = .pointer (some ⟨w.heap.size + 1, 0, none⟩)
          exact h
        · have h : s 24 = .slice (some ⟨bb, oo, none⟩) ins.length (k + 1) := h
          show s 24 = .slice (some ⟨bb, oo, none⟩) ins.length (k + 1)
          exact h
        · have h : s 25 = .int .i64 (k : Int) := h
          show s 25 = .int .i64 (k : Int)
          exact h
        · have h : s 26 = .int .i64 ((k : Int) + 1) := h
          show s 26 = .int .i64 ((k : Int) + 1)
          exact h
        · have h : s 27 = .slice (some ⟨bb, oo, none⟩) 0 0 := h
          show s 27 = .slice (some ⟨bb, oo, none⟩) 0 0
          exact h
      case step =>
        intro i hi a W iv hb hsz hdf hrest hanc hivs hap K HK
        have HK := hide HK
        have HAN := hide hanc
        have HRS := hide hrest
        have XU := hide (X.out.up hb)
        have HB := hide hb
        clear hanc hivs hap hrest hb hsz hdf
        rcases (show i = 0 ∨ i = 1 ∨ i = 2 ∨ i = 3 ∨ i = 4 ∨ i = 5 ∨ i = 6 ∨ i = 7 ∨ i = 8 ∨ i = 9 ∨ i = 10 by omega) with rfl | rfl | rfl | rfl | rfl | rfl | rfl | rfl | rfl | rfl | rfl
        · refine wpOp_step (o := _) rfl fun K' hK => ?_
          rw [if_pos (by go_simp)]
          go_simp
          exact hK _ _ (HK.out _ _ ⟨fun _ => ⟨below1 W _, ⟨W.heap.size, rfl, Nat.le_refl _, by simp, heap_alloc_new W _⟩⟩, fun h => absurd rfl h⟩)
        · refine wpOp_step (o := _) rfl fun K' hK => ?_
          rw [if_pos (by go_simp)]
          have e1 : a.tmps.getD 4 undef = .pointer (some ⟨w.heap.size + 1, 0, none⟩) := (HRS.out 4 (by decide)).trans rfl
          go_simp
          exact hK _ _ (HK.out _ _ ⟨fun _ => ⟨Below.refl _ _, rfl⟩, fun h => absurd rfl h⟩)
        · refine wpOp_step (o := _) rfl fun K' hK => ?_
          rw [if_pos (by go_simp)]
          have e1 : a.tmps.getD 18 undef = .pointer (some ⟨w.heap.size + 1, 0, none⟩) := HAN.out 1 (by decide)
          have c0 : W.cell? ⟨w.heap.size + 1, 0, none⟩ = some (.slice (some ⟨bb, oo, none⟩) ins.length (k + 1)) := XU.out.cell 1 0 rfl rfl
          go_simp
          exact hK _ _ (HK.out _ _ ⟨fun _ => ⟨Below.refl _ _, rfl⟩, fun h => absurd rfl h⟩)
        · refine wpOp_step (o := _) rfl fun K' hK => ?_
          rw [if_pos (by go_simp)]
          have e1 : a.tmps.getD 9 undef = .int .i64 (k : Int) := (HRS.out 9 (by decide)).trans rfl
          go_simp
          exact hK _ _ (HK.out _ _ ⟨fun _ => ⟨Below.refl _ _, rfl⟩, fun h => absurd rfl h⟩)
        · refine wpOp_step (o := _) rfl fun K' hK => ?_
          rw [if_pos (by go_simp)]
          have e1 : a.tmps.getD 19 undef = .slice (some ⟨bb, oo, none⟩) ins.length (k + 1) := HAN.out 2 (by decide)
          have e2 : a.tmps.getD 20 undef = .int .i64 (k : Int) := HAN.out 3 (by decide)
          go_simp
          exact hK _ _ (HK.out _ _ ⟨fun _ => ⟨Below.refl _ _, rfl⟩, fun h => absurd rfl h⟩)
        · refine wpOp_step (o := _) rfl fun K' hK => ?_
          rw [if_pos (by go_simp)]
          obtain ⟨g, e1, -⟩ : ∃ g, a.tmps.getD 17 undef = .slice (some ⟨g, 0, none⟩) 0 0 ∧ _ := HAN.out 0 (by decide)
          have e2 : a.tmps.getD 21 undef = .slice (some ⟨bb, oo, none⟩) k (k + 1) := HAN.out 4 (by decide)
          have hlk : (ins.take k).length = k := by simp; omega
          obtain ⟨i0, hi0, hi1, hi2, hi3⟩ := info_parts infoIt
          refine append0_wp W _ _ 68 rfl 49 i0 _ 2 16 Try.underlying68 hi0 hi1 hi2 hi3 (by first | rfl | decide) (by decide) (by decide) g e1 (some ⟨bb, oo, none⟩) k (k + 1) (pvVs (ins.take k)) e2 (fun h => by cases h) (by rw [pvVs_length, hlk]) (pvs_news (pvs_take (I1.out W XU.out.below) k (k + 1) (by omega))) (pvVs_cell _) (by omega) ?_
          intro v' W' hbl hor
          refine hK _ _ (HK.out _ _ ⟨fun _ => ⟨hbl, ?_⟩, fun h => absurd rfl h⟩)
          rcases hor with ⟨h1, h2⟩ | h1
          · exact .inl ⟨hlk.trans h1, h2.trans e1.symm⟩
          · exact .inr (Owi.of (show Oi W' W.heap.size v' (ins.take k) by unfold Oi; rw [hlk]; exact h1) hbl.size)
        · refine wpOp_step (o := _) rfl fun K' hK => ?_
          rw [if_pos (by go_simp)]
          have e1 : a.tmps.getD 4 undef = .pointer (some ⟨w.heap.size + 1, 0, none⟩) := (HRS.out 4 (by decide)).trans rfl
          go_simp
          exact hK _ _ (HK.out _ _ ⟨fun _ => ⟨Below.refl _ _, rfl⟩, fun h => absurd rfl h⟩)
        · refine wpOp_step (o := _) rfl fun K' hK => ?_
          rw [if_pos (by go_simp)]
          have e1 : a.tmps.getD 23 undef = .pointer (some ⟨w.heap.size + 1, 0, none⟩) := HAN.out 6 (by decide)
          have c0 : W.cell? ⟨w.heap.size + 1, 0, none⟩ = some (.slice (some ⟨bb, oo, none⟩) ins.length (k + 1)) := XU.out.cell 1 0 rfl rfl
          go_simp
          exact hK _ _ (HK.out _ _ ⟨fun _ => ⟨Below.refl _ _, rfl⟩, fun h => absurd rfl h⟩)
        · refine wpOp_step (o := _) rfl fun K' hK => ?_
          rw [if_pos (by go_simp)]
          have e1 : a.tmps.getD 9 undef = .int .i64 (k : Int) := (HRS.out 9 (by decide)).trans rfl
          go_simp
          exact hK _ _ (HK.out _ _ ⟨fun _ => ⟨Below.refl _ _, rfl⟩, fun h => absurd rfl h⟩)
        · refine wpOp_step (o := _) rfl fun K' hK => ?_
          rw [if_pos (by go_simp)]
          have e1 : a.tmps.getD 25 undef = .int .i64 (k : Int) := HAN.out 8 (by decide)
          go_simp
          exact hK _ _ (HK.out _ _ ⟨fun _ => ⟨Below.refl _ _, rfl⟩, fun h => absurd rfl h⟩)
        · refine wpOp_step (o := _) rfl fun K' hK => ?_
          rw [if_pos (by go_simp)]
          have e1 : a.tmps.getD 24 undef = .slice (some ⟨bb, oo, none⟩) ins.length (k + 1) := HAN.out 7 (by decide)
          have e2 : a.tmps.getD 26 undef = .int .i64 ((k : Int) + 1) := HAN.out 9 (by decide)
          go_simp
          exact hK _ _ (HK.out _ _ ⟨fun _ => ⟨Below.refl _ _, rfl⟩, fun h => absurd rfl h⟩)
      case fin =>
      intro a w5 iv I
      have hbY := I.below
      have F0 : ∃ g, slot a 17 = .slice (some ⟨g, 0, none⟩) 0 0 ∧ (iv 0).1 ≤ g ∧ g < (iv 0).2 ∧ w5.heap[g]? = some (.cells #[] 49 (0, 0)) := (I.fact 0 (by decide) rfl).2
      have F5 : ((ins.take k).length = 0 ∧ slot a 22 = slot a 17) ∨ Owi w5 (slot a 22) (ins.take k) (iv 5).1 (iv 5).2 := (I.fact 5 (by decide) rfl).2
      have F10 : slot a 27 = .slice (some ⟨bb, oo, none⟩) 0 0 := (I.fact 10 (by decide) rfl).2
      obtain ⟨iv0a, iv0b, iv0c⟩ := I.ivs 0 (by decide) rfl rfl
      obtain ⟨iv5a, iv5b, iv5c⟩ := I.ivs 5 (by decide) rfl rfl
      obtain ⟨g0, f1, f2, f3, f4⟩ := F0
      have R1 : ∃ n3 m3, Owi w5 (slot a 22) (ins.take k) n3 m3 ∧ w4.heap.size ≤ n3 := by
        rcases F5 with ⟨y1, y2⟩ | y1
        · have hn : ins.take k = [] := List.eq_nil_of_length_eq_zero y1
          rw [y2, f1, hn]
          exact ⟨_, _, Owi.empty f4, Nat.le_trans iv0a f2⟩
        · exact ⟨_, _, y1, iv5a⟩
      obtain ⟨n3, m3, O3, hn3⟩ := R1
      obtain ⟨x1, y1, hx1⟩ := O3.own.form
      rw [hx1] at O3
      have hfr := frame_of [17, 18, 19, 20, 21, 22, 23, 24, 25, 26, 27, 28, 29] I.size I.defers (fun s hs => I.rest s (rfDsts_spec (by kernel_rfl) hs))
      have XF := hide hfr
      have O3 := hide O3
      have HQ := hide hn3
      have Y := hide (X.out.up hbY)
      have O1 := hide (O1.out.below hbY)
      have O2 := hide (O2.out.below hbY)
      have N8 := hide hbY.size
      clear hfr I F5 iv0a iv0b iv0c iv5a iv5b iv5c f1 f2 f3 f4 hn3 X hbY
      rw [XF.out]
      simp only [List.foldl_cons, List.foldl_nil, List.setIfInBounds_toArray, List.set_cons_succ, List.set_cons_zero, hx1, F10]
      clear XF hx1 F10
      generalize slot a 17 = t17
      generalize slot a 18 = t18
      generalize slot a 19 = t19
      generalize slot a 20 = t20
      generalize slot a 21 = t21
      generalize slot a 23 = t23
      generalize slot a 24 = t24
      generalize slot a 25 = t25
      generalize slot a 26 = t26
      generalize slot a 28 = t28
      generalize slot a 29 = t29
      obtain ⟨iq, hiq0⟩ : ∃ q, q = adqI ins row := ⟨_, rfl⟩
      obtain ⟨dq, hdq0⟩ : ∃ q, q = adqD ins de row := ⟨_, rfl⟩
      have HIQ := hide hiq0
      have HDQ := hide hdq0
      have WF : Hid (PdWf iq dq) := hide (by rw [hiq0, hdq0]; exact pdWf_ax hwf h6 (by omega))
      have hiq : iq.length ≤ 1048577 := by rw [hiq0, HIQ0.out]; simp; omega
      have hii := hide (show iq = ins.take k ++ ins.drop (k + 1) by rw [hiq0, HIQ0.out])
      have hdd := hide (show dq = de by rw [hdq0, HDQ0.out])
      clear hiq0 hdq0
      show wpOp _ _ _ 11 _ _ w5
      refine wpOp_step (o := _) rfl fun K' hK => ?_
      rw [if_pos (by go_simp)]
      refine owi_app_wp w5 _ _ rfl _ (ins.take k) (ins.drop (k + 1)) n3 m3 O3.out rfl ⟨bb, oo, none⟩ 0 (by rw [show (ins.drop (k + 1)).length = 0 by rw [List.length_drop]; omega]; rfl) ((by intro j u hj; rw [List.drop_of_length_le (by omega)] at hj; simp [pvVs] at hj)) (by simp; omega) ?_
      intro v' w5' n1' m1' O1' hwh sg
      rw [← hii.out] at O1'
      have t1 := O3.out.le
      have t2 := O3.out.top
      have t3 := O2.out.top
      have t4 := O2.out.le
      have t5 := O1'.top
      have p1 := N1.out
      have p2 := N2.out
      have p3 := N3.out
      have p4 := N4.out
      have p5 := N5.out
      have p6 := N6.out
      have p7 := N7.out
      have p8 := N8.out
      have p9 := HQ.out
      have hs5 := sg.below.size
      have X := hide (Y.out.seg sg (by omega) (by simp; omega))
      have O2 := hide (O2.out.seg sg (by omega))
      obtain ⟨g1', s1', hf⟩ := O1'.own.form
      subst hf
      have M1 := hide (show w1.heap.size ≤ n1' ∧ w1.heap.size ≤ n2 ∧ (m1' ≤ n2 ∨ m2 ≤ n1') ∧ (bq < n1' ∨ m1' ≤ bq) ∧ m2 ≤ bq ∧ w.heap.size + 1 + 1 < n1' ∧ w.heap.size + 1 + 1 < n2 by omega)
      clear t1 t2 t3 t4 t5 p1 p2 p3 p4 p5 p6 p7 p8 p9 hs5 sg hwh O1 Y O3
      refine hK _ _ ?_
      clear hK K'
      simp only [Act.put, List.setIfInBounds_toArray, List.set_cons_zero, List.set_cons_succ]
      show wpOp _ _ _ 12 _ _ w5'
      refine wpOp_step (o := _) rfl fun K' hK => ?_
      rw [if_pos (by go_simp)]
      go_simp
      refine hK _ _ ?_
      clear hK K'
      have e0 := X.out.cell 3 0 rfl rfl
      have f0 := X.out.free 3 0 rfl
      have Z := hide (X.out.set 3 0 rfl (.slice g1' iq.length s1'))
      have sg := Seg.setCell w5' bq 0 (.slice g1' iq.length s1')
      obtain ⟨q1, q2, q3, q6, q7, q8, q9⟩ := M1.out
      have O1 := hide (O1'.seg sg (by omega))
      have O2 := hide (O2.out.seg sg (by omega))
      clear sg q1 q2 q3 q6 q7 q8 q9 O1'
      show wpOp _ _ _ 13 _ _ w5'
      refine wpOp_step (o := _) rfl fun K' hK => ?_
      rw [if_pos (by go_simp)]
      go_simp
      refine hK _ _ ?_
      clear hK K'
      simp only [rfTail]
      obtain ⟨w6, hw6⟩ : ∃ q, q = w5'.setCell ⟨bq, 0, none⟩ (.slice g1' iq.length s1') := ⟨_, rfl⟩
      rw [← hw6] at Z O1 O2 ⊢
      clear hw6 e0 f0 X
      have X := Z
      clear Z
      rw [← hdd.out] at O2
      have hgl : Hid (de.length = dq.length) := hide (by rw [hdd.out])
      obtain ⟨g2', s2', hgs⟩ : ∃ g s, g = g2 ∧ s = s2 := ⟨_, _, rfl, rfl⟩
      obtain ⟨rfl, rfl⟩ := hgs
      have X : Hid (Kn w w6 [(w.heap.size, #[.slice a1 l.length c1, .slice a2 r.length c2, .slice a3 ps.length c3], 27), (w.heap.size + 1, #[.slice (some ⟨bb, oo, none⟩) ins.length (k + 1), .slice b2 de.length d2], 70), (w.heap.size + 1 + 1, #[.slice none 0 0, .slice none 0 0], 70), (bq, #[.slice g1' iq.length s1', .slice g2' dq.length s2'], 70)]) := hide (by
        have h := X.out.sub (M := [(w.heap.size, #[.slice a1 l.length c1, .slice a2 r.length c2, .slice a3 ps.length c3], 27), (w.heap.size + 1, #[.slice (some ⟨bb, oo, none⟩) ins.length (k + 1), .slice b2 de.length d2], 70), (w.heap.size + 1 + 1, #[.slice none 0 0, .slice none 0 0], 70), (bq, #[.slice g1' iq.length s1', .slice g2' de.length s2'], 70)]) (List.Sublist.cons_cons _ (List.Sublist.cons_cons _ (List.Sublist.cons_cons _ (List.Sublist.cons_cons _ (List.nil_sublist _)))))
        rw [← hgl.out]; exact h)
      have z0 : w6.cell? ⟨w.heap.size, 0, none⟩ = some (.slice a1 l.length c1) := X.out.cell 0 0 rfl rfl
      have z1 : w6.cell? ⟨w.heap.size, 1, none⟩ = some (.slice a2 r.length c2) := X.out.cell 0 1 rfl rfl
      have z2 : w6.cell? ⟨w.heap.size, 2, none⟩ = some (.slice a3 ps.length c3) := X.out.cell 0 2 rfl rfl
      have y0 : w6.cell? ⟨w.heap.size + 1, 0, none⟩ = some (.slice (some ⟨bb, oo, none⟩) ins.length (k + 1)) := X.out.cell 1 0 rfl rfl
      have y1 : w6.cell? ⟨w.heap.size + 1, 1, none⟩ = some (.slice b2 de.length d2) := X.out.cell 1 1 rfl rfl
      go_wp2_with fail
      clear z0 z1 z2 y0 y1
      go_at_call 38
      refine (sIsPd_any _ _ l r ps ins de w6 w.heap.size (V.out _ X.out.below) (U.out _ X.out.below) X.out.below.size h1 (by omega)).mono ?_
      rintro e w7 ⟨rfl, hb⟩
      rw [← HBP.out]
      have X := hide (X.out.up hb)
      have O1 := hide (O1.out.below hb)
      have O2 := hide (O2.out.below hb)
      have N8 := hide hb.size
      clear hb
      cases bP
      · have HF := hide (fun (W : World) (u : Value) (h : PdOs W u ins de w.heap.size W.heap.size) (hb : Below w.heap.size w W) => show RetPB w (axI l r ps ins de row) (axD l r ps ins de row) (axB l r ps ins de row) (.returned (.tuple #[u, .bool false])) W by
          have hx : axB l r ps ins de row = false := by unfold axB; rw [← HBP.out]; rfl
          unfold axI axD
          rw [hx]
          exact ⟨_, rfl, h, hb⟩)
        have x0 : w7.cell? ⟨w.heap.size + 1, 0, none⟩ = some (.slice (some ⟨bb, oo, none⟩) ins.length (k + 1)) := X.out.cell 1 0 rfl rfl
        have x1 : w7.cell? ⟨w.heap.size + 1, 1, none⟩ = some (.slice b2 de.length d2) := X.out.cell 1 1 rfl rfl
        go_wp2_with fail
        clear x0 x1
        go_at_call 92
        refine (sPdCopy_any _ ins de w7 w.heap.size (U.out _ X.out.below) X.out.below.size (by omega) (by omega)).mono ?_
        rintro e w9 ⟨q, rfl, ⟨qx, qy, n3, m3, n4, m4, rfl, OQ⟩, hb⟩
        have hsz := X.out.below.size
        have hlo := X.out.lt 2 rfl
        have X := hide (X.out.up hb)
        obtain ⟨g3, s3, rfl⟩ := OQ.p1.own.form
        obtain ⟨g4, s4, rfl⟩ := OQ.p2.form
        have y0 := X.out.cell 2 0 rfl rfl
        have y1 := X.out.cell 2 1 rfl rfl
        have z0 := X.out.free 2 0 rfl
        have z1 := X.out.free 2 1 rfl
        go_wp2_with fail
        have Z := (X.out.set 2 0 rfl (.slice g3 ins.length s3)).set 2 1 rfl (.slice g4 de.length s4)
        have sg : Seg (w.heap.size + 1 + 1) (w.heap.size + 1 + 1 + 1) w9 ((w9.setCell ⟨w.heap.size + 1 + 1, 0, none⟩ (.slice g3 ins.length s3)).setCell ⟨w.heap.size + 1 + 1, 1, none⟩ (.slice g4 de.length s4)) := segS2 (Nat.le_refl _) (Nat.lt_succ_self _) _ _
        have OR := OQ.seg sg (.inr (by omega))
        have q0 := Z.cell 2 0 rfl rfl
        have q1 := Z.cell 2 1 rfl rfl
        have hfin : PdOs ((w9.setCell ⟨w.heap.size + 1 + 1, 0, none⟩ (.slice g3 ins.length s3)).setCell ⟨w.heap.size + 1 + 1, 1, none⟩ (.slice g4 de.length s4)) (.agg #[.slice g3 ins.length s3, .slice g4 de.length s4]) ins de w.heap.size ((w9.setCell ⟨w.heap.size + 1 + 1, 0, none⟩ (.slice g3 ins.length s3)).setCell ⟨w.heap.size + 1 + 1, 1, none⟩ (.slice g4 de.length s4)).heap.size := PdOs.mono ⟨_, _, _, _, _, _, rfl, OR⟩ hsz (by simp) (Nat.le_refl _)
        have hzb := Z.below
        clear y0 y1 z0 z1 sg OR OQ
        exact bodyPost_ret (v := .tuple #[.agg #[.slice g3 ins.length s3, .slice g4 de.length s4], .bool false]) (by simp [results, Try.results46, go_sem, q0, q1]) rfl (HF.out _ _ hfin hzb)
      have z0 : w7.cell? ⟨w.heap.size, 0, none⟩ = some (.slice a1 l.length c1) := X.out.cell 0 0 rfl rfl
      have z1 : w7.cell? ⟨w.heap.size, 1, none⟩ = some (.slice a2 r.length c2) := X.out.cell 0 1 rfl rfl
      have z2 : w7.cell? ⟨w.heap.size, 2, none⟩ = some (.slice a3 ps.length c3) := X.out.cell 0 2 rfl rfl
      have y0 : w7.cell? ⟨bq, 0, none⟩ = some (.slice g1' iq.length s1') := X.out.cell 3 0 rfl rfl
      have y1 : w7.cell? ⟨bq, 1, none⟩ = some (.slice g2' dq.length s2') := X.out.cell 3 1 rfl rfl
      have RQ := hide (show Pd w7 w7.heap.size (.agg #[.slice g1' iq.length s1', .slice g2' dq.length s2']) iq dq from ⟨_, _, rfl, O1.out.own.pvs (Nat.le_refl _) WF.out.1.1 WF.out.1.2, O2.out.ints WF.out.2, O1.out.cap, O2.out.cap⟩)
      obtain ⟨bQ, hbQ⟩ : ∃ q, q = isPd l r ps iq dq := ⟨_, rfl⟩
      have HBQ := hide hbQ
      go_wp2_with fail
      clear z0 z1 z2 y0 y1 hbQ
      go_at_call 38
      refine (sIsPd_any _ _ l r ps iq dq w7 w7.heap.size ((V.out _ X.out.below).mono X.out.below.size) RQ.out (Nat.le_refl _) h1 hiq).mono ?_
      rintro e w8 ⟨rfl, hb⟩
      rw [← HBQ.out]
      have X := hide (X.out.up hb)
      have O1 := hide (O1.out.below hb)
      have O2 := hide (O2.out.below hb)
      clear hb RQ
      cases bQ
      · have HF := hide (fun (W : World) (u : Value) (h : PdOs W u ins de w.heap.size W.heap.size) (hb : Below w.heap.size w W) => show RetPB w (axI l r ps ins de row) (axD l r ps ins de row) (axB l r ps ins de row) (.returned (.tuple #[u, .bool false])) W by
          have hx : axB l r ps ins de row = false := by unfold axB; rw [← HIQ.out, ← HDQ.out, ← HBQ.out]; simp
          unfold axI axD
          rw [hx]
          exact ⟨_, rfl, h, hb⟩)
        have x0 : w8.cell? ⟨w.heap.size + 1, 0, none⟩ = some (.slice (some ⟨bb, oo, none⟩) ins.length (k + 1)) := X.out.cell 1 0 rfl rfl
        have x1 : w8.cell? ⟨w.heap.size + 1, 1, none⟩ = some (.slice b2 de.length d2) := X.out.cell 1 1 rfl rfl
        go_wp2_with fail
        clear x0 x1
        go_at_call 92
        refine (sPdCopy_any _ ins de w8 w.heap.size (U.out _ X.out.below) X.out.below.size (by omega) (by omega)).mono ?_
        rintro e w9 ⟨q, rfl, ⟨qx, qy, n3, m3, n4, m4, rfl, OQ⟩, hb⟩
        have hsz := X.out.below.size
        have hlo := X.out.lt 2 rfl
        have X := hide (X.out.up hb)
        obtain ⟨g3, s3, rfl⟩ := OQ.p1.own.form
        obtain ⟨g4, s4, rfl⟩ := OQ.p2.form
        have y0 := X.out.cell 2 0 rfl rfl
        have y1 := X.out.cell 2 1 rfl rfl
        have z0 := X.out.free 2 0 rfl
        have z1 := X.out.free 2 1 rfl
        go_wp2_with fail
        have Z := (X.out.set 2 0 rfl (.slice g3 ins.length s3)).set 2 1 rfl (.slice g4 de.length s4)
        have sg : Seg (w.heap.size + 1 + 1) (w.heap.size + 1 + 1 + 1) w9 ((w9.setCell ⟨w.heap.size + 1 + 1, 0, none⟩ (.slice g3 ins.length s3)).setCell ⟨w.heap.size + 1 + 1, 1, none⟩ (.slice g4 de.length s4)) := segS2 (Nat.le_refl _) (Nat.lt_succ_self _) _ _
        have OR := OQ.seg sg (.inr (by omega))
        have q0 := Z.cell 2 0 rfl rfl
        have q1 := Z.cell 2 1 rfl rfl
        have hfin : PdOs ((w9.setCell ⟨w.heap.size + 1 + 1, 0, none⟩ (.slice g3 ins.length s3)).setCell ⟨w.heap.size + 1 + 1, 1, none⟩ (.slice g4 de.length s4)) (.agg #[.slice g3 ins.length s3, .slice g4 de.length s4]) ins de w.heap.size ((w9.setCell ⟨w.heap.size + 1 + 1, 0, none⟩ (.slice g3 ins.length s3)).setCell ⟨w.heap.size + 1 + 1, 1, none⟩ (.slice g4 de.length s4)).heap.size := PdOs.mono ⟨_, _, _, _, _, _, rfl, OR⟩ hsz (by simp) (Nat.le_refl _)
        have hzb := Z.below
        clear y0 y1 z0 z1 sg OR OQ
        exact bodyPost_ret (v := .tuple #[.agg #[.slice g3 ins.length s3, .slice g4 de.length s4], .bool false]) (by simp [results, Try.results46, go_sem, q0, q1]) rfl (HF.out _ _ hfin hzb)
      have HF := hide (fun (W : World) (u : Value) (h : PdOs W u iq dq w.heap.size W.heap.size) (hb : Below w.heap.size w W) => show RetPB w (axI l r ps ins de row) (axD l r ps ins de row) (axB l r ps ins de row) (.returned (.tuple #[u, .bool true])) W by
        have hx : axB l r ps ins de row = true := by unfold axB; rw [← HIQ.out, ← HDQ.out, ← HBP.out, ← HBQ.out]; rfl
        unfold axI axD
        rw [hx, ← HIQ.out, ← HDQ.out]
        exact ⟨_, rfl, h, hb⟩)
      have y0 : w8.cell? ⟨bq, 0, none⟩ = some (.slice g1' iq.length s1') := X.out.cell 3 0 rfl rfl
      have y1 : w8.cell? ⟨bq, 1, none⟩ = some (.slice g2' dq.length s2') := X.out.cell 3 1 rfl rfl
      have x0 := X.out.cell 2 0 rfl rfl
      have x1 := X.out.cell 2 1 rfl rfl
      have z0 := X.out.free 2 0 rfl
      have z1 := X.out.free 2 1 rfl
      go_wp2_with fail
      have Z := (X.out.set 2 0 rfl (.slice g1' iq.length s1')).set 2 1 rfl (.slice g2' dq.length s2')
      have sg : Seg (w.heap.size + 1 + 1) (w.heap.size + 1 + 1 + 1) w8 ((w8.setCell ⟨w.heap.size + 1 + 1, 0, none⟩ (.slice g1' iq.length s1')).setCell ⟨w.heap.size + 1 + 1, 1, none⟩ (.slice g2' dq.length s2')) := segS2 (Nat.le_refl _) (Nat.lt_succ_self _) _ _
      obtain ⟨q1, q2, q3, q6, q7, q8, q9⟩ := M1.out
      have O1 := O1.out.seg sg (.inr (by omega))
      have O2 := O2.out.seg sg (.inr (by omega))
      have p0 := Z.cell 2 0 rfl rfl
      have p1 := Z.cell 2 1 rfl rfl
      have t1 := O1.top
      have t2 := O2.top
      have t3 := Z.below.size
      have hfin : PdOs ((w8.setCell ⟨w.heap.size + 1 + 1, 0, none⟩ (.slice g1' iq.length s1')).setCell ⟨w.heap.size + 1 + 1, 1, none⟩ (.slice g2' dq.length s2')) (.agg #[.slice g1' iq.length s1', .slice g2' dq.length s2']) iq dq w.heap.size ((w8.setCell ⟨w.heap.size + 1 + 1, 0, none⟩ (.slice g1' iq.length s1')).setCell ⟨w.heap.size + 1 + 1, 1, none⟩ (.slice g2' dq.length s2')).heap.size := ⟨_, _, _, _, _, _, rfl, O1, O2, ⟨by omega, by omega⟩, ⟨t1, t2⟩, q3, t3, Nat.le_refl _⟩
      have hzb := Z.below
      clear x0 x1 y0 y1 z0 z1 sg O1 O2 q1 q2 q3 q6 q7 q8 q9 t1 t2 t3
      exact bodyPost_ret (v := .tuple #[.agg #[.slice g1' iq.length s1', .slice g2' dq.length s2'], .bool true]) (by simp [results, Try.results46, go_sem, p0, p1]) rfl (HF.out _ _ hfin hzb)
    · have q7 : ¬ (d1 = k + 1) := hce
      clear hce
      go_upto_region 4 with fail
      refine wp_region_any (by kernel_rfl) ?_
      refine wpAny_factsT (w0 := w4) (fun i => ([(fun lo hi s W => ∃ g, s 17 = .slice (some ⟨g, 0, none⟩) 0 0 ∧ lo ≤ g ∧ g < hi ∧ W.heap[g]? = some (.cells #[] 49 (0, 0))),
        (fun lo hi s W => s 18 = .pointer (some ⟨w.heap.size + 1, 0, none⟩)),
        (fun lo hi s W => s 19 = .slice (some ⟨bb, oo, none⟩) ins.length d1),
        (fun lo hi s W => s 20 = .int .i64 (k : Int)),
        (fun lo hi s W => s 21 = .slice (some ⟨bb, oo, none⟩) k d1),
        (fun lo hi s W => ((ins.take k).length = 0 ∧ s 22 = s 17) ∨ Owi W (s 22) (ins.take k) lo hi),
        (fun lo hi s W => s 23 = .pointer (some ⟨w.heap.size + 1, 0, none⟩)),
        (fun lo hi s W => s 24 = .slice (some ⟨bb, oo, none⟩) ins.length d1),
        (fun lo hi s W => s 25 = .int .i64 (k : Int)),
        (fun lo hi s W => s 26 = .int .i64 ((k : Int) + 1)),
        (fun lo hi s W => s 27 = .slice (some ⟨bb, oo + (k + 1) * 2, none⟩) (ins.length - (k + 1)) (d1 - (k + 1))),
        (fun lo hi s W => True),
        (fun lo hi s W => True),
        (fun lo hi s W => True)] : List (Nat → Nat → (Nat → Value) → World → Prop)).getD i (fun _ _ _ _ => True)) [[], [], [1], [], [1, 2, 3], [0, 1, 2, 3, 4], [], [6], [], [8], [6, 7, 8, 9], [0, 1, 2, 3, 4, 5, 6, 7, 8, 9, 10], [0, 1, 2, 3, 4, 5, 6, 7, 8, 9, 10, 11], [0, 1, 2, 3, 4, 5, 6, 7, 8, 9, 10, 11, 12]] [0, 1, 2, 3, 4, 5, 6, 7, 8, 9, 10, 11, 12, 13] [[17], [18], [19], [20], [21], [22, 17], [23], [24], [25], [26], [27], [], [], []] [[], [], [], [], [], [], [], [], [], [], [], [], [], []] (by kernel_rfl) (by kernel_rfl) 11 3 rfl (by kernel_rfl) ?st ?step ?fin
      case st =>
        intro i hi lo hi' s W W' h q1 q2 q3 q4 k'
        rcases (show i = 0 ∨ i = 1 ∨ i = 2 ∨ i = 3 ∨ i = 4 ∨ i = 5 ∨ i = 6 ∨ i = 7 ∨ i = 8 ∨ i = 9 ∨ i = 10 by omega) with rfl | rfl | rfl | rfl | rfl | rfl | rfl | rfl | rfl | rfl | rfl
        · have h : ∃ g, s 17 = .slice (some ⟨g, 0, none⟩) 0 0 ∧ lo ≤ g ∧ g < hi' ∧ W.heap[g]? = some (.cells #[] 49 (0, 0)) := h
          show ∃ g, s 17 = .slice (some ⟨g, 0, none⟩) 0 0 ∧ lo ≤ g ∧ g < hi' ∧ W'.heap[g]? = some (.cells #[] 49 (0, 0))
          obtain ⟨g, e1, e2, e3, e4⟩ := h; exact ⟨g, e1, e2, e3, (k'.own g e2 e3 (Array.getElem?_eq_some_iff.1 e4).1).trans e4⟩
        · have h : s 18 = .pointer (some ⟨w.heap.size + 1, 0, none⟩) := h
          show s 18 = .pointer (some ⟨w.heap.size + 1, 0, none⟩)
          exact h
        · have h : s 19 = .slice (some ⟨bb, oo, none⟩) ins.length d1 := h
          show s 19 = .slice (some ⟨bb, oo, none⟩) ins.length d1
          exact h
        · have h : s 20 = .int .i64 (k : Int) := h
          show s 20 = .int .i64 (k : Int)
          exact h
        · have h : s 21 = .slice (some ⟨bb, oo, none⟩) k d1 := h
          show s 21 = .slice (some ⟨bb, oo, none⟩) k d1
          exact h
        · have h : ((ins.take k).length = 0 ∧ s 22 = s 17) ∨ Owi W (s 22) (ins.take k) lo hi' := h
          show ((ins.take k).length = 0 ∧ s 22 = s 17) ∨ Owi W' (s 22) (ins.take k) lo hi'
          exact h.imp id (fun h => h.on k'.size k'.own)
        · have h : s 23 = .pointer (some ⟨w.heap.size + 1, 0, none⟩) := h
          show s 23 = .pointer (some ⟨w.heap.size + 1, 0, none⟩)
          exact h
        · have h : s 24 = .slice (some ⟨bb, oo, none⟩) ins.length d1 := h
          show s 24 = .slice (some ⟨bb, oo, none⟩) ins.length d1
          exact h
        · have h : s 25 = .int .i64 (k : Int) := h
          show s 25 = .int .i64 (k : Int)
          exact h
        · have h : s 26 = .int .i64 ((k : Int) + 1) := h
          show s 26 = .int .i64 ((k : Int) + 1)
          exact h
        · have h : s 27 = .slice (some ⟨bb, oo + (k + 1) * 2, none⟩) (ins.length - (k + 1)) (d1 - (k + 1)) := h
          show s 27 = .slice (some ⟨bb, oo + (k + 1) * 2, none⟩) (ins.length - (k + 1)) (d1 - (k + 1))
          exact h
      case step =>
        intro i hi a W iv hb hsz hdf hrest hanc hivs hap K HK
        have HK := hide HK
        have HAN := hide hanc
        have HRS := hide hrest
        have XU := hide (X.out.up hb)
        have HB := hide hb
        clear hanc hivs hap hrest hb hsz hdf
        rcases (show i = 0 ∨ i = 1 ∨ i = 2 ∨ i = 3 ∨ i = 4 ∨ i = 5 ∨ i = 6 ∨ i = 7 ∨ i = 8 ∨ i = 9 ∨ i = 10 by omega) with rfl | rfl | rfl | rfl | rfl | rfl | rfl | rfl | rfl | rfl | rfl
        · refine wpOp_step (o := _) rfl fun K' hK => ?_
          rw [if_pos (by go_simp)]
          go_simp
          exact hK _ _ (HK.out _ _ ⟨fun _ => ⟨below1 W _, ⟨W.heap.size, rfl, Nat.le_refl _, by simp, heap_alloc_new W _⟩⟩, fun h => absurd rfl h⟩)
        · refine wpOp_step (o := _) rfl fun K' hK => ?_
          rw [if_pos (by go_simp)]
          have e1 : a.tmps.getD 4 undef = .pointer (some ⟨w.heap.size + 1, 0, none⟩) := (HRS.out 4 (by decide)).trans rfl
          go_simp
          exact hK _ _ (HK.out _ _ ⟨fun _ => ⟨Below.refl _ _, rfl⟩, fun h => absurd rfl h⟩)
        · refine wpOp_step (o := _) rfl fun K' hK => ?_
          rw [if_pos (by go_simp)]
          have e1 : a.tmps.getD 18 undef = .pointer (some ⟨w.heap.size + 1, 0, none⟩) := HAN.out 1 (by decide)
          have c0 : W.cell? ⟨w.heap.size + 1, 0, none⟩ = some (.slice (some ⟨bb, oo, none⟩) ins.length d1) := XU.out.cell 1 0 rfl rfl
          go_simp
          exact hK _ _ (HK.out _ _ ⟨fun _ => ⟨Below.refl _ _, rfl⟩, fun h => absurd rfl h⟩)
        · refine wpOp_step (o := _) rfl fun K' hK => ?_
          rw [if_pos (by go_simp)]
          have e1 : a.tmps.getD 9 undef = .int .i64 (k : Int) := (HRS.out 9 (by decide)).trans rfl
          go_simp
          exact hK _ _ (HK.out _ _ ⟨fun _ => ⟨Below.refl _ _, rfl⟩, fun h => absurd rfl h⟩)
        · refine wpOp_step (o := _) rfl fun K' hK => ?_
          rw [if_pos (by go_simp)]
          have e1 : a.tmps.getD 19 undef = .slice (some ⟨bb, oo, none⟩) ins.length d1 := HAN.out 2 (by decide)
          have e2 : a.tmps.getD 20 undef = .int .i64 (k : Int) := HAN.out 3 (by decide)
          go_simp
          exact hK _ _ (HK.out _ _ ⟨fun _ => ⟨Below.refl _ _, rfl⟩, fun h => absurd rfl h⟩)
        · refine wpOp_step (o := _) rfl fun K' hK => ?_
          rw [if_pos (by go_simp)]
          obtain ⟨g, e1, -⟩ : ∃ g, a.tmps.getD 17 undef = .slice (some ⟨g, 0, none⟩) 0 0 ∧ _ := HAN.out 0 (by decide)
          have e2 : a.tmps.getD 21 undef = .slice (some ⟨bb, oo, none⟩) k d1 := HAN.out 4 (by decide)
          have hlk : (ins.take k).length = k := by simp; omega
          obtain ⟨i0, hi0, hi1, hi2, hi3⟩ := info_parts infoIt
          refine append0_wp W _ _ 68 rfl 49 i0 _ 2 16 Try.underlying68 hi0 hi1 hi2 hi3 (by first | rfl | decide) (by decide) (by decide) g e1 (some ⟨bb, oo, none⟩) k d1 (pvVs (ins.take k)) e2 (fun h => by cases h) (by rw [pvVs_length, hlk]) (pvs_news (pvs_take (I1.out W XU.out.below) k d1 (by omega))) (pvVs_cell _) (by omega) ?_
          intro v' W' hbl hor
          refine hK _ _ (HK.out _ _ ⟨fun _ => ⟨hbl, ?_⟩, fun h => absurd rfl h⟩)
          rcases hor with ⟨h1, h2⟩ | h1
          · exact .inl ⟨hlk.trans h1, h2.trans e1.symm⟩
          · exact .inr (Owi.of (show Oi W' W.heap.size v' (ins.take k) by unfold Oi; rw [hlk]; exact h1) hbl.size)
        · refine wpOp_step (o := _) rfl fun K' hK => ?_
          rw [if_pos (by go_simp)]
          have e1 : a.tmps.getD 4 undef = .pointer (some ⟨w.heap.size + 1, 0, none⟩) := (HRS.out 4 (by decide)).trans rfl
          go_simp
          exact hK _ _ (HK.out _ _ ⟨fun _ => ⟨Below.refl _ _, rfl⟩, fun h => absurd rfl h⟩)
        · refine wpOp_step (o := _) rfl fun K' hK => ?_
          rw [if_pos (by go_simp)]
          have e1 : a.tmps.getD 23 undef = .pointer (some ⟨w.heap.size + 1, 0, none⟩) := HAN.out 6 (by decide)
          have c0 : W.cell? ⟨w.heap.size + 1, 0, none⟩ = some (.slice (some ⟨bb, oo, none⟩) ins.length d1) := XU.out.cell 1 0 rfl rfl
          go_simp
          exact hK _ _ (HK.out _ _ ⟨fun _ => ⟨Below.refl _ _, rfl⟩, fun h => absurd rfl h⟩)
        · refine wpOp_step (o := _) rfl fun K' hK => ?_
          rw [if_pos (by go_simp)]
          have e1 : a.tmps.getD 9 undef = .int .i64 (k : Int) := (HRS.out 9 (by decide)).trans rfl
          go_simp
          exact hK _ _ (HK.out _ _ ⟨fun _ => ⟨Below.refl _ _, rfl⟩, fun h => absurd rfl h⟩)
        · refine wpOp_step (o := _) rfl fun K' hK => ?_
          rw [if_pos (by go_simp)]
          have e1 : a.tmps.getD 25 undef = .int .i64 (k : Int) := HAN.out 8 (by decide)
          go_simp
          exact hK _ _ (HK.out _ _ ⟨fun _ => ⟨Below.refl _ _, rfl⟩, fun h => absurd rfl h⟩)
        · refine wpOp_step (o := _) rfl fun K' hK => ?_
          rw [if_pos (by go_simp)]
          have e1 : a.tmps.getD 24 undef = .slice (some ⟨bb, oo, none⟩) ins.length d1 := HAN.out 7 (by decide)
          have e2 : a.tmps.getD 26 undef = .int .i64 ((k : Int) + 1) := HAN.out 9 (by decide)
          go_simp
          exact hK _ _ (HK.out _ _ ⟨fun _ => ⟨Below.refl _ _, rfl⟩, fun h => absurd rfl h⟩)
      case fin =>
      intro a w5 iv I
      have hbY := I.below
      have F0 : ∃ g, slot a 17 = .slice (some ⟨g, 0, none⟩) 0 0 ∧ (iv 0).1 ≤ g ∧ g < (iv 0).2 ∧ w5.heap[g]? = some (.cells #[] 49 (0, 0)) := (I.fact 0 (by decide) rfl).2
      have F5 : ((ins.take k).length = 0 ∧ slot a 22 = slot a 17) ∨ Owi w5 (slot a 22) (ins.take k) (iv 5).1 (iv 5).2 := (I.fact 5 (by decide) rfl).2
      have F10 : slot a 27 = .slice (some ⟨bb, oo + (k + 1) * 2, none⟩) (ins.length - (k + 1)) (d1 - (k + 1)) := (I.fact 10 (by decide) rfl).2
      obtain ⟨iv0a, iv0b, iv0c⟩ := I.ivs 0 (by decide) rfl rfl
      obtain ⟨iv5a, iv5b, iv5c⟩ := I.ivs 5 (by decide) rfl rfl
      obtain ⟨g0, f1, f2, f3, f4⟩ := F0
      have R1 : ∃ n3 m3, Owi w5 (slot a 22) (ins.take k) n3 m3 ∧ w4.heap.size ≤ n3 := by
        rcases F5 with ⟨y1, y2⟩ | y1
        · have hn : ins.take k = [] := List.eq_nil_of_length_eq_zero y1
          rw [y2, f1, hn]
          exact ⟨_, _, Owi.empty f4, Nat.le_trans iv0a f2⟩
        · exact ⟨_, _, y1, iv5a⟩
      obtain ⟨n3, m3, O3, hn3⟩ := R1
      obtain ⟨x1, y1, hx1⟩ := O3.own.form
      rw [hx1] at O3
      have hfr := frame_of [17, 18, 19, 20, 21, 22, 23, 24, 25, 26, 27, 28, 29] I.size I.defers (fun s hs => I.rest s (rfDsts_spec (by kernel_rfl) hs))
      have XF := hide hfr
      have O3 := hide O3
      have HQ := hide hn3
      have Y := hide (X.out.up hbY)
      have O1 := hide (O1.out.below hbY)
      have O2 := hide (O2.out.below hbY)
      have N8 := hide hbY.size
      clear hfr I F5 iv0a iv0b iv0c iv5a iv5b iv5c f1 f2 f3 f4 hn3 X hbY
      rw [XF.out]
      simp only [List.foldl_cons, List.foldl_nil, List.setIfInBounds_toArray, List.set_cons_succ, List.set_cons_zero, hx1, F10]
      clear XF hx1 F10
      generalize slot a 17 = t17
      generalize slot a 18 = t18
      generalize slot a 19 = t19
      generalize slot a 20 = t20
      generalize slot a 21 = t21
      generalize slot a 23 = t23
      generalize slot a 24 = t24
      generalize slot a 25 = t25
      generalize slot a 26 = t26
      generalize slot a 28 = t28
      generalize slot a 29 = t29
      obtain ⟨iq, hiq0⟩ : ∃ q, q = adqI ins row := ⟨_, rfl⟩
      obtain ⟨dq, hdq0⟩ : ∃ q, q = adqD ins de row := ⟨_, rfl⟩
      have HIQ := hide hiq0
      have HDQ := hide hdq0
      have WF : Hid (PdWf iq dq) := hide (by rw [hiq0, hdq0]; exact pdWf_ax hwf h6 (by omega))
      have hiq : iq.length ≤ 1048577 := by rw [hiq0, HIQ0.out]; simp; omega
      have hii := hide (show iq = ins.take k ++ ins.drop (k + 1) by rw [hiq0, HIQ0.out])
      have hdd := hide (show dq = de by rw [hdq0, HDQ0.out])
      clear hiq0 hdq0
      show wpOp _ _ _ 11 _ _ w5
      refine wpOp_step (o := _) rfl fun K' hK => ?_
      rw [if_pos (by go_simp)]
      refine owi_app_wp w5 _ _ rfl _ (ins.take k) (ins.drop (k + 1)) n3 m3 O3.out rfl ⟨bb, oo + (k + 1) * 2, none⟩ (d1 - (k + 1)) (by rw [show (ins.drop (k + 1)).length = (ins.length - (k + 1)) by rw [List.length_drop]]; rfl) (pvs_news (pvs_rest (I1.out w5 Y.out.below) (k + 1) 0) _ rfl) (by simp; omega) ?_
      intro v' w5' n1' m1' O1' hwh sg
      rw [← hii.out] at O1'
      have t1 := O3.out.le
      have t2 := O3.out.top
      have t3 := O2.out.top
      have t4 := O2.out.le
      have t5 := O1'.top
      have p1 := N1.out
      have p2 := N2.out
      have p3 := N3.out
      have p4 := N4.out
      have p5 := N5.out
      have p6 := N6.out
      have p7 := N7.out
      have p8 := N8.out
      have p9 := HQ.out
      have hs5 := sg.below.size
      have X := hide (Y.out.seg sg (by omega) (by simp; omega))
      have O2 := hide (O2.out.seg sg (by omega))
      obtain ⟨g1', s1', hf⟩ := O1'.own.form
      subst hf
      have M1 := hide (show w1.heap.size ≤ n1' ∧ w1.heap.size ≤ n2 ∧ (m1' ≤ n2 ∨ m2 ≤ n1') ∧ (bq < n1' ∨ m1' ≤ bq) ∧ m2 ≤ bq ∧ w.heap.size + 1 + 1 < n1' ∧ w.heap.size + 1 + 1 < n2 by omega)
      clear t1 t2 t3 t4 t5 p1 p2 p3 p4 p5 p6 p7 p8 p9 hs5 sg hwh O1 Y O3
      refine hK _ _ ?_
      clear hK K'
      simp only [Act.put, List.setIfInBounds_toArray, List.set_cons_zero, List.set_cons_succ]
      show wpOp _ _ _ 12 _ _ w5'
      refine wpOp_step (o := _) rfl fun K' hK => ?_
      rw [if_pos (by go_simp)]
      go_simp
      refine hK _ _ ?_
      clear hK K'
      have e0 := X.out.cell 3 0 rfl rfl
      have f0 := X.out.free 3 0 rfl
      have Z := hide (X.out.set 3 0 rfl (.slice g1' iq.length s1'))
      have sg := Seg.setCell w5' bq 0 (.slice g1' iq.length s1')
      obtain ⟨q1, q2, q3, q6, q7, q8, q9⟩ := M1.out
      have O1 := hide (O1'.seg sg (by omega))
      have O2 := hide (O2.out.seg sg (by omega))
      clear sg q1 q2 q3 q6 q7 q8 q9 O1'
      show wpOp _ _ _ 13 _ _ w5'
      refine wpOp_step (o := _) rfl fun K' hK => ?_
      rw [if_pos (by go_simp)]
      go_simp
      refine hK _ _ ?_
      clear hK K'
      simp only [rfTail]
      obtain ⟨w6, hw6⟩ : ∃ q, q = w5'.setCell ⟨bq, 0, none⟩ (.slice g1' iq.length s1') := ⟨_, rfl⟩
      rw [← hw6] at Z O1 O2 ⊢
      clear hw6 e0 f0 X
      have X := Z
      clear Z
      rw [← hdd.out] at O2
      have hgl : Hid (de.length = dq.length) := hide (by rw [hdd.out])
      obtain ⟨g2', s2', hgs⟩ : ∃ g s, g = g2 ∧ s = s2 := ⟨_, _, rfl, rfl⟩
      obtain ⟨rfl, rfl⟩ := hgs
      have X : Hid (Kn w w6 [(w.heap.size, #[.slice a1 l.length c1, .slice a2 r.length c2, .slice a3 ps.length c3], 27), (w.heap.size + 1, #[.slice (some ⟨bb, oo, none⟩) ins.length d1, .slice b2 de.length d2], 70), (w.heap.size + 1 + 1, #[.slice none 0 0, .slice none 0 0], 70), (bq, #[.slice g1' iq.length s1', .slice g2' dq.length s2'], 70)]) := hide (by
        have h := X.out.sub (M := [(w.heap.size, #[.slice a1 l.length c1, .slice a2 r.length c2, .slice a3 ps.length c3], 27), (w.heap.size + 1, #[.slice (some ⟨bb, oo, none⟩) ins.length d1, .slice b2 de.length d2], 70), (w.heap.size + 1 + 1, #[.slice none 0 0, .slice none 0 0], 70), (bq, #[.slice g1' iq.length s1', .slice g2' de.length s2'], 70)]) (List.Sublist.cons_cons _ (List.Sublist.cons_cons _ (List.Sublist.cons_cons _ (List.Sublist.cons_cons _ (List.nil_sublist _)))))
        rw [← hgl.out]; exact h)
      have z0 : w6.cell? ⟨w.heap.size, 0, none⟩ = some (.slice a1 l.length c1) := X.out.cell 0 0 rfl rfl
      have z1 : w6.cell? ⟨w.heap.size, 1, none⟩ = some (.slice a2 r.length c2) := X.out.cell 0 1 rfl rfl
      have z2 : w6.cell? ⟨w.heap.size, 2, none⟩ = some (.slice a3 ps.length c3) := X.out.cell 0 2 rfl rfl
      have y0 : w6.cell? ⟨w.heap.size + 1, 0, none⟩ = some (.slice (some ⟨bb, oo, none⟩) ins.length d1) := X.out.cell 1 0 rfl rfl
      have y1 : w6.cell? ⟨w.heap.size + 1, 1, none⟩ = some (.slice b2 de.length d2) := X.out.cell 1 1 rfl rfl
      go_wp2_with fail
      clear z0 z1 z2 y0 y1
      go_at_call 38
      refine (sIsPd_any _ _ l r ps ins de w6 w.heap.size (V.out _ X.out.below) (U.out _ X.out.below) X.out.below.size h1 (by omega)).mono ?_
      rintro e w7 ⟨rfl, hb⟩
      rw [← HBP.out]
      have X := hide (X.out.up hb)
      have O1 := hide (O1.out.below hb)
      have O2 := hide (O2.out.below hb)
      have N8 := hide hb.size
      clear hb
      cases bP
      · have HF := hide (fun (W : World) (u : Value) (h : PdOs W u ins de w.heap.size W.heap.size) (hb : Below w.heap.size w W) => show RetPB w (axI l r ps ins de row) (axD l r ps ins de row) (axB l r ps ins de row) (.returned (.tuple #[u, .bool false])) W by
          have hx : axB l r ps ins de row = false := by unfold axB; rw [← HBP.out]; rfl
          unfold axI axD
          rw [hx]
          exact ⟨_, rfl, h, hb⟩)
        have x0 : w7.cell? ⟨w.heap.size + 1, 0, none⟩ = some (.slice (some ⟨bb, oo, none⟩) ins.length d1) := X.out.cell 1 0 rfl rfl
        have x1 : w7.cell? ⟨w.heap.size + 1, 1, none⟩ = some (.slice b2 de.length d2) := X.out.cell 1 1 rfl rfl
        go_wp2_with fail
        clear x0 x1
        go_at_call 92
        refine (sPdCopy_any _ ins de w7 w.heap.size (U.out _ X.out.below) X.out.below.size (by omega) (by omega)).mono ?_
        rintro e w9 ⟨q, rfl, ⟨qx, qy, n3, m3, n4, m4, rfl, OQ⟩, hb⟩
        have hsz := X.out.below.size
        have hlo := X.out.lt 2 rfl
        have X := hide (X.out.up hb)
        obtain ⟨g3, s3, rfl⟩ := OQ.p1.own.form
        obtain ⟨g4, s4, rfl⟩ := OQ.p2.form
        have y0 := X.out.cell 2 0 rfl rfl
        have y1 := X.out.cell 2 1 rfl rfl
        have z0 := X.out.free 2 0 rfl
        have z1 := X.out.free 2 1 rfl
        go_wp2_with fail
        have Z := (X.out.set 2 0 rfl (.slice g3 ins.length s3)).set 2 1 rfl (.slice g4 de.length s4)
        have sg : Seg (w.heap.size + 1 + 1) (w.heap.size + 1 + 1 + 1) w9 ((w9.setCell ⟨w.heap.size + 1 + 1, 0, none⟩ (.slice g3 ins.length s3)).setCell ⟨w.heap.size + 1 + 1, 1, none⟩ (.slice g4 de.length s4)) := segS2 (Nat.le_refl _) (Nat.lt_succ_self _) _ _
        have OR := OQ.seg sg (.inr (by omega))
        have q0 := Z.cell 2 0 rfl rfl
        have q1 := Z.cell 2 1 rfl rfl
        have hfin : PdOs ((w9.setCell ⟨w.heap.size + 1 + 1, 0, none⟩ (.slice g3 ins.length s3)).setCell ⟨w.heap.size + 1 + 1, 1, none⟩ (.slice g4 de.length s4)) (.agg #[.slice g3 ins.length s3, .slice g4 de.length s4]) ins de w.heap.size ((w9.setCell ⟨w.heap.size + 1 + 1, 0, none⟩ (.slice g3 ins.length s3)).setCell ⟨w.heap.size + 1 + 1, 1, none⟩ (.slice g4 de.length s4)).heap.size := PdOs.mono ⟨_, _, _, _, _, _, rfl, OR⟩ hsz (by simp) (Nat.le_refl _)
        have hzb := Z.below
        clear y0 y1 z0 z1 sg OR OQ
        exact bodyPost_ret (v := .tuple #[.agg #[.slice g3 ins.length s3, .slice g4 de.length s4], .bool false]) (by simp [results, Try.results46, go_sem, q0, q1]) rfl (HF.out _ _ hfin hzb)
      have z0 : w7.cell? ⟨w.heap.size, 0, none⟩ = some (.slice a1 l.length c1) := X.out.cell 0 0 rfl rfl
      have z1 : w7.cell? ⟨w.heap.size, 1, none⟩ = some (.slice a2 r.length c2) := X.out.cell 0 1 rfl rfl
      have z2 : w7.cell? ⟨w.heap.size, 2, none⟩ = some (.slice a3 ps.length c3) := X.out.cell 0 2 rfl rfl
      have y0 : w7.cell? ⟨bq, 0, none⟩ = some (.slice g1' iq.length s1') := X.out.cell 3 0 rfl rfl
      have y1 : w7.cell? ⟨bq, 1, none⟩ = some (.slice g2' dq.length s2') := X.out.cell 3 1 rfl rfl
      have RQ := hide (show Pd w7 w7.heap.size (.agg #[.slice g1' iq.length s1', .slice g2' dq.length s2']) iq dq from ⟨_, _, rfl, O1.out.own.pvs (Nat.le_refl _) WF.out.1.1 WF.out.1.2, O2.out.ints WF.out.2, O1.out.cap, O2.out.cap⟩)
      obtain ⟨bQ, hbQ⟩ : ∃ q, q = isPd l r ps iq dq := ⟨_, rfl⟩
      have HBQ := hide hbQ
      go_wp2_with fail
      clear z0 z1 z2 y0 y1 hbQ
      go_at_call 38
      refine (sIsPd_any _ _ l r ps iq dq w7 w7.heap.size ((V.out _ X.out.below).mono X.out.below.size) RQ.out (Nat.le_refl _) h1 hiq).mono ?_
      rintro e w8 ⟨rfl, hb⟩
      rw [← HBQ.out]
      have X := hide (X.out.up hb)
      have O1 := hide (O1.out.below hb)
      have O2 := hide (O2.out.below hb)
      clear hb RQ
      cases bQ
      · have HF := hide (fun (W : World) (u : Value) (h : PdOs W u ins de w.heap.size W.heap.size) (hb : Below w.heap.size w W) => show RetPB w (axI l r ps ins de row) (axD l r ps ins de row) (axB l r ps ins de row) (.returned (.tuple #[u, .bool false])) W by
          have hx : axB l r ps ins de row = false := by unfold axB; rw [← HIQ.out, ← HDQ.out, ← HBQ.out]; simp
          unfold axI axD
          rw [hx]
          exact ⟨_, rfl, h, hb⟩)
        have x0 : w8.cell? ⟨w.heap.size + 1, 0, none⟩ = some (.slice (some ⟨bb, oo, none⟩) ins.length d1) := X.out.cell 1 0 rfl rfl
        have x1 : w8.cell? ⟨w.heap.size + 1, 1, none⟩ = some (.slice b2 de.length d2) := X.out.cell 1 1 rfl rfl
        go_wp2_with fail
        clear x0 x1
        go_at_call 92
        refine (sPdCopy_any _ ins de w8 w.heap.size (U.out _ X.out.below) X.out.below.size (by omega) (by omega)).mono ?_
        rintro e w9 ⟨q, rfl, ⟨qx, qy, n3, m3, n4, m4, rfl, OQ⟩, hb⟩
        have hsz := X.out.below.size
        have hlo := X.out.lt 2 rfl
        have X := hide (X.out.up hb)
        obtain ⟨g3, s3, rfl⟩ := OQ.p1.own.form
        obtain ⟨g4, s4, rfl⟩ := OQ.p2.form
        have y0 := X.out.cell 2 0 rfl rfl
        have y1 := X.out.cell 2 1 rfl rfl
        have z0 := X.out.free 2 0 rfl
        have z1 := X.out.free 2 1 rfl
        go_wp2_with fail
        have Z := (X.out.set 2 0 rfl (.slice g3 ins.length s3)).set 2 1 rfl (.slice g4 de.length s4)
        have sg : Seg (w.heap.size + 1 + 1) (w.heap.size + 1 + 1 + 1) w9 ((w9.setCell ⟨w.heap.size + 1 + 1, 0, none⟩ (.slice g3 ins.length s3)).setCell ⟨w.heap.size + 1 + 1, 1, none⟩ (.slice g4 de.length s4)) := segS2 (Nat.le_refl _) (Nat.lt_succ_self _) _ _
        have OR := OQ.seg sg (.inr (by omega))
        have q0 := Z.cell 2 0 rfl rfl
        have q1 := Z.cell 2 1 rfl rfl
        have hfin : PdOs ((w9.setCell ⟨w.heap.size + 1 + 1, 0, none⟩ (.slice g3 ins.length s3)).setCell ⟨w.heap.size + 1 + 1, 1, none⟩ (.slice g4 de.length s4)) (.agg #[.slice g3 ins.length s3, .slice g4 de.length s4]) ins de w.heap.size ((w9.setCell ⟨w.heap.size + 1 + 1, 0, none⟩ (.slice g3 ins.length s3)).setCell ⟨w.heap.size + 1 + 1, 1, none⟩ (.slice g4 de.length s4)).heap.size := PdOs.mono ⟨_, _, _, _, _, _, rfl, OR⟩ hsz (by simp) (Nat.le_refl _)
        have hzb := Z.below
        clear y0 y1 z0 z1 sg OR OQ
        exact bodyPost_ret (v := .tuple #[.agg #[.slice g3 ins.length s3, .slice g4 de.length s4], .bool false]) (by simp [results, Try.results46, go_sem, q0, q1]) rfl (HF.out _ _ hfin hzb)
      have HF := hide (fun (W : World) (u : Value) (h : PdOs W u iq dq w.heap.size W.heap.size) (hb : Below w.heap.size w W) => show RetPB w (axI l r ps ins de row) (axD l r ps ins de row) (axB l r ps ins de row) (.returned (.tuple #[u, .bool true])) W by
        have hx : axB l r ps ins de row = true := by unfold axB; rw [← HIQ.out, ← HDQ.out, ← HBP.out, ← HBQ.out]; rfl
        unfold axI axD
        rw [hx, ← HIQ.out, ← HDQ.out]
        exact ⟨_, rfl, h, hb⟩)
      have y0 : w8.cell? ⟨bq, 0, none⟩ = some (.slice g1' iq.length s1') := X.out.cell 3 0 rfl rfl
      have y1 : w8.cell? ⟨bq, 1, none⟩ = some (.slice g2' dq.length s2') := X.out.cell 3 1 rfl rfl
      have x0 := X.out.cell 2 0 rfl rfl
      have x1 := X.out.cell 2 1 rfl rfl
      have z0 := X.out.free 2 0 rfl
      have z1 := X.out.free 2 1 rfl
      go_wp2_with fail
      have Z := (X.out.set 2 0 rfl (.slice g1' iq.length s1')).set 2 1 rfl (.slice g2' dq.length s2')
      have sg : Seg (w.heap.size + 1 + 1) (w.heap.size + 1 + 1 + 1) w8 ((w8.setCell ⟨w.heap.size + 1 + 1, 0, none⟩ (.slice g1' iq.length s1')).setCell ⟨w.heap.size + 1 + 1, 1, none⟩ (.slice g2' dq.length s2')) := segS2 (Nat.le_refl _) (Nat.lt_succ_self _) _ _
      obtain ⟨q1, q2, q3, q6, q7, q8, q9⟩ := M1.out
      have O1 := O1.out.seg sg (.inr (by omega))
      have O2 := O2.out.seg sg (.inr (by omega))
      have p0 := Z.cell 2 0 rfl rfl
      have p1 := Z.cell 2 1 rfl rfl
      have t1 := O1.top
      have t2 := O2.top
      have t3 := Z.below.size
      have hfin : PdOs ((w8.setCell ⟨w.heap.size + 1 + 1, 0, none⟩ (.slice g1' iq.length s1')).setCell ⟨w.heap.size + 1 + 1, 1, none⟩ (.slice g2' dq.length s2')) (.agg #[.slice g1' iq.length s1', .slice g2' dq.length s2']) iq dq w.heap.size ((w8.setCell ⟨w.heap.size + 1 + 1, 0, none⟩ (.slice g1' iq.length s1')).setCell ⟨w.heap.size + 1 + 1, 1, none⟩ (.slice g2' dq.length s2')).heap.size := ⟨_, _, _, _, _, _, rfl, O1, O2, ⟨by omega, by omega⟩, ⟨t1, t2⟩, q3, t3, Nat.le_refl _⟩
      have hzb := Z.below
      clear x0 x1 y0 y1 z0 z1 sg O1 O2 q1 q2 q3 q6 q7 q8 q9 t1 t2 t3
      exact bodyPost_ret (v := .tuple #[.agg #[.slice g1' iq.length s1', .slice g2' dq.length s2'], .bool true]) (by simp [results, Try.results46, go_sem, p0, p1]) rfl (HF.out _ _ hfin hzb)
  · have t0 : decide (0 ≤ kk) = false := decide_eq_false hk0
    have HIQ0 := hide (show adqI ins row = ins by unfold adqI; rw [← HK.out, if_neg hk0])
    have HDQ0 := hide (show adqD ins de row = de ++ [row] by unfold adqD; rw [← HK.out, if_neg hk0])
    clear hk0
    obtain ⟨iq, hiq0⟩ : ∃ q, q = adqI ins row := ⟨_, rfl⟩
    obtain ⟨dq, hdq0⟩ : ∃ q, q = adqD ins de row := ⟨_, rfl⟩
    have HIQ := hide hiq0
    have HDQ := hide hdq0
    have WF : Hid (PdWf iq dq) := hide (by rw [hiq0, hdq0]; exact pdWf_ax hwf h6 (by omega))
    have hiq : iq.length ≤ 1048577 := by rw [hiq0, HIQ0.out]; omega
    have hii := hide (show iq = ins by rw [hiq0, HIQ0.out])
    have hdd := hide (show dq = de ++ [row] by rw [hdq0, HDQ0.out])
    clear hiq0 hdq0
    have bl := below1 w4 (.cells #[.int .i64 row] 3)
    have O1 := hide (O1.out.below bl)
    have O2 := hide (O2.out.below bl)
    have Y := hide (X.out.alloc #[.int .i64 row] 3)
    obtain ⟨w5, hw5⟩ : ∃ q, q = w4.alloc (.cells #[.int .i64 row] 3) := ⟨_, rfl⟩
    obtain ⟨gi, hgi⟩ : ∃ q, q = w4.heap.size := ⟨_, rfl⟩
    have N8 := hide (show gi = w4.heap.size ∧ w5.heap.size = w4.heap.size + 1 by rw [hw5, hgi]; simp)
    rw [← hw5] at Y O1 O2
    rw [← hgi] at Y
    simp only [List.cons_append, List.nil_append] at Y
    clear bl
    have e0 : w4.cell? ⟨bq, 1, none⟩ = some (.slice g2 de.length s2) := X.out.cell 3 1 rfl rfl
    go_wp2_with (first | (at_builtin; apply Hid.out) | fail)
    refine hide ?_
    rw [← hgi, ← hw5]
    clear hw5 hgi e0 X
    refine owint_app_list w5 rfl _ _ rfl _ de [row] n2 m2 O2.out rfl ⟨gi, 0, none⟩ 1 rfl (int_news (Y.out.mem 4 rfl)) (by simp; omega) ?_
    intro v' w5' n2' m2' O2' hwh sg
    rw [← hdd.out] at O2'
    have t1 := O1.out.le
    have t2 := O1.out.top
    have t3 := O2.out.top
    have t4 := O2.out.le
    have t5 := O2'.top
    have p1 := N1.out
    have p2 := N2.out
    have p3 := N3.out
    have p4 := N4.out
    have p5 := N5.out
    have p6 := N6.out
    have p7 := N7.out
    have p8 := N8.out
    have hs5 := sg.below.size
    have X := hide (Y.out.seg sg (by omega) (by simp; omega))
    have O1 := hide (O1.out.seg sg (by omega))
    obtain ⟨g2', s2', hf⟩ := O2'.form
    subst hf
    have M1 := hide (show w1.heap.size ≤ n1 ∧ w1.heap.size ≤ n2' ∧ (m1 ≤ n2' ∨ m2' ≤ n1) ∧ (bq < n2' ∨ m2' ≤ bq) ∧ m1 ≤ bq ∧ w.heap.size + 1 + 1 < n1 ∧ w.heap.size + 1 + 1 < n2' by omega)
    clear t1 t2 t3 t4 t5 p1 p2 p3 p4 p5 p6 p7 p8 hs5 sg hwh O2 Y
    have e0 := X.out.cell 3 1 rfl rfl
    have f0 := X.out.free 3 1 rfl
    have Z := hide (X.out.set 3 1 rfl (.slice g2' dq.length s2'))
    have sg := Seg.setCell w5' bq 1 (.slice g2' dq.length s2')
    obtain ⟨q1, q2, q3, q6, q7, q8, q9⟩ := M1.out
    have O1 := hide (O1.out.seg sg (by omega))
    have O2 := hide (O2'.seg sg (by omega))
    clear sg q1 q2 q3 q6 q7 q8 q9 O2'
    obtain ⟨w6, hw6⟩ : ∃ q, q = w5'.setCell ⟨bq, 1, none⟩ (.slice g2' dq.length s2') := ⟨_, rfl⟩
    rw [← hw6] at Z O1 O2
    have z0 : w6.cell? ⟨w.heap.size, 0, none⟩ = some (.slice a1 l.length c1) := Z.out.cell 0 0 rfl rfl
    have z1 : w6.cell? ⟨w.heap.size, 1, none⟩ = some (.slice a2 r.length c2) := Z.out.cell 0 1 rfl rfl
    have z2 : w6.cell? ⟨w.heap.size, 2, none⟩ = some (.slice a3 ps.length c3) := Z.out.cell 0 2 rfl rfl
    have y0 : w6.cell? ⟨w.heap.size + 1, 0, none⟩ = some (.slice b1 ins.length d1) := Z.out.cell 1 0 rfl rfl
    have y1 : w6.cell? ⟨w.heap.size + 1, 1, none⟩ = some (.slice b2 de.length d2) := Z.out.cell 1 1 rfl rfl
    rw [hw6] at z0 z1 z2 y0 y1
    go_upto_region 6 with fail
    rw [← hw6]
    clear hw6 z0 z1 z2 y0 y1 e0 f0 X
    have X := Z
    clear Z
    rw [← hii.out] at O1
    have hgl : Hid (ins.length = iq.length) := hide (by rw [hii.out])
    obtain ⟨g1', s1', hgs⟩ : ∃ g s, g = g1 ∧ s = s1 := ⟨_, _, rfl, rfl⟩
    obtain ⟨rfl, rfl⟩ := hgs
    have X : Hid (Kn w w6 [(w.heap.size, #[.slice a1 l.length c1, .slice a2 r.length c2, .slice a3 ps.length c3], 27), (w.heap.size + 1, #[.slice b1 ins.length d1, .slice b2 de.length d2], 70), (w.heap.size + 1 + 1, #[.slice none 0 0, .slice none 0 0], 70), (bq, #[.slice g1' iq.length s1', .slice g2' dq.length s2'], 70)]) := hide (by
      have h := X.out.sub (M := [(w.heap.size, #[.slice a1 l.length c1, .slice a2 r.length c2, .slice a3 ps.length c3], 27), (w.heap.size + 1, #[.slice b1 ins.length d1, .slice b2 de.length d2], 70), (w.heap.size + 1 + 1, #[.slice none 0 0, .slice none 0 0], 70), (bq, #[.slice g1' ins.length s1', .slice g2' dq.length s2'], 70)]) (List.Sublist.cons_cons _ (List.Sublist.cons_cons _ (List.Sublist.cons_cons _ (List.Sublist.cons_cons _ (List.nil_sublist _)))))
      rw [← hgl.out]; exact h)
    have z0 : w6.cell? ⟨w.heap.size, 0, none⟩ = some (.slice a1 l.length c1) := X.out.cell 0 0 rfl rfl
    have z1 : w6.cell? ⟨w.heap.size, 1, none⟩ = some (.slice a2 r.length c2) := X.out.cell 0 1 rfl rfl
    have z2 : w6.cell? ⟨w.heap.size, 2, none⟩ = some (.slice a3 ps.length c3) := X.out.cell 0 2 rfl rfl
    have y0 : w6.cell? ⟨w.heap.size + 1, 0, none⟩ = some (.slice b1 ins.length d1) := X.out.cell 1 0 rfl rfl
    have y1 : w6.cell? ⟨w.heap.size + 1, 1, none⟩ = some (.slice b2 de.length d2) := X.out.cell 1 1 rfl rfl
    go_wp2_with fail
    clear z0 z1 z2 y0 y1
    go_at_call 38
    refine (sIsPd_any _ _ l r ps ins de w6 w.heap.size (V.out _ X.out.below) (U.out _ X.out.below) X.out.below.size h1 (by omega)).mono ?_
    rintro e w7 ⟨rfl, hb⟩
    rw [← HBP.out]
    have X := hide (X.out.up hb)
    have O1 := hide (O1.out.below hb)
    have O2 := hide (O2.out.below hb)
    have N8 := hide hb.size
    clear hb
    cases bP
    · have HF := hide (fun (W : World) (u : Value) (h : PdOs W u ins de w.heap.size W.heap.size) (hb : Below w.heap.size w W) => show RetPB w (axI l r ps ins de row) (axD l r ps ins de row) (axB l r ps ins de row) (.returned (.tuple #[u, .bool false])) W by
        have hx : axB l r ps ins de row = false := by unfold axB; rw [← HBP.out]; rfl
        unfold axI axD
        rw [hx]
        exact ⟨_, rfl, h, hb⟩)
      have x0 : w7.cell? ⟨w.heap.size + 1, 0, none⟩ = some (.slice b1 ins.length d1) := X.out.cell 1 0 rfl rfl
      have x1 : w7.cell? ⟨w.heap.size + 1, 1, none⟩ = some (.slice b2 de.length d2) := X.out.cell 1 1 rfl rfl
      go_wp2_with fail
      clear x0 x1
      go_at_call 92
      refine (sPdCopy_any _ ins de w7 w.heap.size (U.out _ X.out.below) X.out.below.size (by omega) (by omega)).mono ?_
      rintro e w9 ⟨q, rfl, ⟨qx, qy, n3, m3, n4, m4, rfl, OQ⟩, hb⟩
      have hsz := X.out.below.size
      have hlo := X.out.lt 2 rfl
      have X := hide (X.out.up hb)
      obtain ⟨g3, s3, rfl⟩ := OQ.p1.own.form
      obtain ⟨g4, s4, rfl⟩ := OQ.p2.form
      have y0 := X.out.cell 2 0 rfl rfl
      have y1 := X.out.cell 2 1 rfl rfl
      have z0 := X.out.free 2 0 rfl
      have z1 := X.out.free 2 1 rfl
      go_wp2_with fail
      have Z := (X.out.set 2 0 rfl (.slice g3 ins.length s3)).set 2 1 rfl (.slice g4 de.length s4)
      have sg : Seg (w.heap.size + 1 + 1) (w.heap.size + 1 + 1 + 1) w9 ((w9.setCell ⟨w.heap.size + 1 + 1, 0, none⟩ (.slice g3 ins.length s3)).setCell ⟨w.heap.size + 1 + 1, 1, none⟩ (.slice g4 de.length s4)) := segS2 (Nat.le_refl _) (Nat.lt_succ_self _) _ _
      have OR := OQ.seg sg (.inr (by omega))
      have q0 := Z.cell 2 0 rfl rfl
      have q1 := Z.cell 2 1 rfl rfl
      have hfin : PdOs ((w9.setCell ⟨w.heap.size + 1 + 1, 0, none⟩ (.slice g3 ins.length s3)).setCell ⟨w.heap.size + 1 + 1, 1, none⟩ (.slice g4 de.length s4)) (.agg #[.slice g3 ins.length s3, .slice g4 de.length s4]) ins de w.heap.size ((w9.setCell ⟨w.heap.size + 1 + 1, 0, none⟩ (.slice g3 ins.length s3)).setCell ⟨w.heap.size + 1 + 1, 1, none⟩ (.slice g4 de.length s4)).heap.size := PdOs.mono ⟨_, _, _, _, _, _, rfl, OR⟩ hsz (by simp) (Nat.le_refl _)
      have hzb := Z.below
      clear y0 y1 z0 z1 sg OR OQ
      exact bodyPost_ret (v := .tuple #[.agg #[.slice g3 ins.length s3, .slice g4 de.length s4], .bool false]) (by simp [results, Try.results46, go_sem, q0, q1]) rfl (HF.out _ _ hfin hzb)
    have z0 : w7.cell? ⟨w.heap.size, 0, none⟩ = some (.slice a1 l.length c1) := X.out.cell 0 0 rfl rfl
    have z1 : w7.cell? ⟨w.heap.size, 1, none⟩ = some (.slice a2 r.length c2) := X.out.cell 0 1 rfl rfl
    have z2 : w7.cell? ⟨w.heap.size, 2, none⟩ = some (.slice a3 ps.length c3) := X.out.cell 0 2 rfl rfl
    have y0 : w7.cell? ⟨bq, 0, none⟩ = some (.slice g1' iq.length s1') := X.out.cell 3 0 rfl rfl
    have y1 : w7.cell? ⟨bq, 1, none⟩ = some (.slice g2' dq.length s2') := X.out.cell 3 1 rfl rfl
    have RQ := hide (show Pd w7 w7.heap.size (.agg #[.slice g1' iq.length s1', .slice g2' dq.length s2']) iq dq from ⟨_, _, rfl, O1.out.own.pvs (Nat.le_refl _) WF.out.1.1 WF.out.1.2, O2.out.ints WF.out.2, O1.out.cap, O2.out.cap⟩)
    obtain ⟨bQ, hbQ⟩ : ∃ q, q = isPd l r ps iq dq := ⟨_, rfl⟩
    have HBQ := hide hbQ
    go_wp2_with fail
    clear z0 z1 z2 y0 y1 hbQ
    go_at_call 38
    refine (sIsPd_any _ _ l r ps iq dq w7 w7.heap.size ((V.out _ X.out.below).mono X.out.below.size) RQ.out (Nat.le_refl _) h1 hiq).mono ?_
    rintro e w8 ⟨rfl, hb⟩
    rw [← HBQ.out]
    have X := hide (X.out.up hb)
    have O1 := hide (O1.out.below hb)
    have O2 := hide (O2.out.below hb)
    clear hb RQ
    cases bQ
    · have HF := hide (fun (W : World) (u : Value) (h : PdOs W u ins de w.heap.size W.heap.size) (hb : Below w.heap.size w W) => show RetPB w (axI l r ps ins de row) (axD l r ps ins de row) (axB l r ps ins de row) (.returned (.tuple #[u, .bool false])) W by
        have hx : axB l r ps ins de row = false := by unfold axB; rw [← HIQ.out, ← HDQ.out, ← HBQ.out]; simp
        unfold axI axD
        rw [hx]
        exact ⟨_, rfl, h, hb⟩)
      have x0 : w8.cell? ⟨w.heap.size + 1, 0, none⟩ = some (.slice b1 ins.length d1) := X.out.cell 1 0 rfl rfl
      have x1 : w8.cell? ⟨w.heap.size + 1, 1, none⟩ = some (.slice b2 de.length d2) := X.out.cell 1 1 rfl rfl
      go_wp2_with fail
      clear x0 x1
      go_at_call 92
      refine (sPdCopy_any _ ins de w8 w.heap.size (U.out _ X.out.below) X.out.below.size (by omega) (by omega)).mono ?_
      rintro e w9 ⟨q, rfl, ⟨qx, qy, n3, m3, n4, m4, rfl, OQ⟩, hb⟩
      have hsz := X.out.below.size
      have hlo := X.out.lt 2 rfl
      have X := hide (X.out.up hb)
      obtain ⟨g3, s3, rfl⟩ := OQ.p1.own.form
      obtain ⟨g4, s4, rfl⟩ := OQ.p2.form
      have y0 := X.out.cell 2 0 rfl rfl
      have y1 := X.out.cell 2 1 rfl rfl
      have z0 := X.out.free 2 0 rfl
      have z1 := X.out.free 2 1 rfl
      go_wp2_with fail
      have Z := (X.out.set 2 0 rfl (.slice g3 ins.length s3)).set 2 1 rfl (.slice g4 de.length s4)
      have sg : Seg (w.heap.size + 1 + 1) (w.heap.size + 1 + 1 + 1) w9 ((w9.setCell ⟨w.heap.size + 1 + 1, 0, none⟩ (.slice g3 ins.length s3)).setCell ⟨w.heap.size + 1 + 1, 1, none⟩ (.slice g4 de.length s4)) := segS2 (Nat.le_refl _) (Nat.lt_succ_self _) _ _
      have OR := OQ.seg sg (.inr (by omega))
      have q0 := Z.cell 2 0 rfl rfl
      have q1 := Z.cell 2 1 rfl rfl
      have hfin : PdOs ((w9.setCell ⟨w.heap.size + 1 + 1, 0, none⟩ (.slice g3 ins.length s3)).setCell ⟨w.heap.size + 1 + 1, 1, none⟩ (.slice g4 de.length s4)) (.agg #[.slice g3 ins.length s3, .slice g4 de.length s4]) ins de w.heap.size ((w9.setCell ⟨w.heap.size + 1 + 1, 0, none⟩ (.slice g3 ins.length s3)).setCell ⟨w.heap.size + 1 + 1, 1, none⟩ (.slice g4 de.length s4)).heap.size := PdOs.mono ⟨_, _, _, _, _, _, rfl, OR⟩ hsz (by simp) (Nat.le_refl _)
      have hzb := Z.below
      clear y0 y1 z0 z1 sg OR OQ
      exact bodyPost_ret (v := .tuple #[.agg #[.slice g3 ins.length s3, .slice g4 de.length s4], .bool false]) (by simp [results, Try.results46, go_sem, q0, q1]) rfl (HF.out _ _ hfin hzb)
    have HF := hide (fun (W : World) (u : Value) (h : PdOs W u iq dq w.heap.size W.heap.size) (hb : Below w.heap.size w W) => show RetPB w (axI l r ps ins de row) (axD l r ps ins de row) (axB l r ps ins de row) (.returned (.tuple #[u, .bool true])) W by
      have hx : axB l r ps ins de row = true := by unfold axB; rw [← HIQ.out, ← HDQ.out, ← HBP.out, ← HBQ.out]; rfl
      unfold axI axD
      rw [hx, ← HIQ.out, ← HDQ.out]
      exact ⟨_, rfl, h, hb⟩)
    have y0 : w8.cell? ⟨bq, 0, none⟩ = some (.slice g1' iq.length s1') := X.out.cell 3 0 rfl rfl
    have y1 : w8.cell? ⟨bq, 1, none⟩ = some (.slice g2' dq.length s2') := X.out.cell 3 1 rfl rfl
    have x0 := X.out.cell 2 0 rfl rfl
    have x1 := X.out.cell 2 1 rfl rfl
    have z0 := X.out.free 2 0 rfl
    have z1 := X.out.free 2 1 rfl
    go_wp2_with fail
    have Z := (X.out.set 2 0 rfl (.slice g1' iq.length s1')).set 2 1 rfl (.slice g2' dq.length s2')
    have sg : Seg (w.heap.size + 1 + 1) (w.heap.size + 1 + 1 + 1) w8 ((w8.setCell ⟨w.heap.size + 1 + 1, 0, none⟩ (.slice g1' iq.length s1')).setCell ⟨w.heap.size + 1 + 1, 1, none⟩ (.slice g2' dq.length s2')) := segS2 (Nat.le_refl _) (Nat.lt_succ_self _) _ _
    obtain ⟨q1, q2, q3, q6, q7, q8, q9⟩ := M1.out
    have O1 := O1.out.seg sg (.inr (by omega))
    have O2 := O2.out.seg sg (.inr (by omega))
    have p0 := Z.cell 2 0 rfl rfl
    have p1 := Z.cell 2 1 rfl rfl
    have t1 := O1.top
    have t2 := O2.top
    have t3 := Z.below.size
    have hfin : PdOs ((w8.setCell ⟨w.heap.size + 1 + 1, 0, none⟩ (.slice g1' iq.length s1')).setCell ⟨w.heap.size + 1 + 1, 1, none⟩ (.slice g2' dq.length s2')) (.agg #[.slice g1' iq.length s1', .slice g2' dq.length s2']) iq dq w.heap.size ((w8.setCell ⟨w.heap.size + 1 + 1, 0, none⟩ (.slice g1' iq.length s1')).setCell ⟨w.heap.size + 1 + 1, 1, none⟩ (.slice g2' dq.length s2')).heap.size := ⟨_, _, _, _, _, _, rfl, O1, O2, ⟨by omega, by omega⟩, ⟨t1, t2⟩, q3, t3, Nat.le_refl _⟩
    have hzb := Z.below
    clear x0 x1 y0 y1 z0 z1 sg O1 O2 q1 q2 q3 q6 q7 q8 q9 t1 t2 t3
    exact bodyPost_ret (v := .tuple #[.agg #[.slice g1' iq.length s1', .slice g2' dq.length s2'], .bool true]) (by simp [results, Try.results46, go_sem, p0, p1]) rfl (HF.out _ _ hfin hzb)

end Go.Proofs.Ytajfhalalnlejaa
