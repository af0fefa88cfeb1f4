/- What withInserts of the program returns (gen_iwi.py; promise 7). -/
import Derived.Test.YtajfhalalnlejaaPd
import Derived.Test.YtajfhalalnlejaaRf2
import Derived.Test.YtajfhalalnlejaaClt
import Derived.Test.YtajfhalalnlejaaIw
namespace Go.Proofs.Ytajfhalalnlejaa
open Go.RowKit Go.ChangeShapes
set_option linter.unusedSimpArgs false
set_option linter.unusedVariables false
set_option maxRecDepth 100000

theorem Ow.pos {w : World} {v : Value} {l : List Int} {lo hi : Nat} (h : Ow w v l lo hi) (hl : 0 < l.length) : lo < hi := by
  obtain ⟨⟨F, ⟨o, rfl⟩, hF⟩, _, _⟩ := h
  rcases o.2 with ⟨_, hn⟩ | ⟨g, cap, cur, rfl, _⟩
  · omega
  · have := hF g (by simp [Value.ownBlock]); omega
theorem ord_of {n h n' h' : Nat} (hd : ∀ b, (n ≤ b ∧ b < h) → ¬ (n' ≤ b ∧ b < h')) (h1 : n < h) (h2 : n' < h') : h ≤ n' ∨ h' ≤ n := by
  have := hd (max n n')
  omega
theorem one_news {W : World} {g : Nat} {x : Int} (h : W.heap[g]? = some (.cells #[.int .i64 x] 3 (0, 0))) : ∀ j u, (intVs [x])[j]? = some u → W.cell? ((⟨g, 0, none⟩ : Addr).add j) = some u := by
  intro j u hj
  rw [addr_add, cell_of_row W g (0 + j) _ _ (0, 0) h, Nat.zero_add]
  simpa [intVs] using hj

set_option maxHeartbeats 16000000 in
theorem iWi_any (v u : Value) (l r : List Int) (ps : List Pv) (ins : List Pv) (w : World) (B : Nat) (hv : Ck w B v l r ps) (hu : Pvs w B u ins) (hB : B ≤ w.heap.size) (hl : l.length ≤ 1048576) (hr : r.length ≤ 1048576) (hi : ins.length ≤ 1048577) :
    Calls Try.prog 90 #[v, u] w (RetOc w (l ++ ins.map (·.1)) (r ++ ins.map (·.2)) []) := by
  obtain ⟨a1, c1, a2, c2, a3, c3, rfl, i1, i2, -⟩ := hv.form
  obtain ⟨b1, d1, rfl⟩ := hu.form
  obtain ⟨z1, z2, -⟩ := hv.nils
  have X : Hid (Kn w ((w.alloc (.cells #[.slice a1 l.length c1, .slice a2 r.length c2, .slice a3 ps.length c3] 27)).alloc (.cells #[.slice none 0 0, .slice none 0 0, .slice none 0 0] 27)) [(w.heap.size, #[.slice a1 l.length c1, .slice a2 r.length c2, .slice a3 ps.length c3], 27), (w.heap.size + 1, #[.slice none 0 0, .slice none 0 0, .slice none 0 0], 27)]) := hide (Kn.two w _ _ _ _)
  obtain ⟨w1, hw1⟩ : ∃ w1, w1 = (w.alloc (.cells #[.slice a1 l.length c1, .slice a2 r.length c2, .slice a3 ps.length c3] 27)).alloc (.cells #[.slice none 0 0, .slice none 0 0, .slice none 0 0] 27) := ⟨_, rfl⟩
  have hz1 := hide (show w1.heap.size = w.heap.size + 1 + 1 by rw [hw1]; simp)
  rw [← hw1] at X
  have C1 := hide (fun (W : World) (h : Below w1.heap.size w1 W) => clone_i a1 c1 l W B ((i1.below X.out.below hB).below h (Nat.le_trans hB X.out.below.size)) z1 (Nat.le_trans hB (Nat.le_trans X.out.below.size h.size)) hl)
  have C2 := hide (fun (W : World) (h : Below w1.heap.size w1 W) => clone_i a2 c2 r W B ((i2.below X.out.below hB).below h (Nat.le_trans hB X.out.below.size)) z2 (Nat.le_trans hB (Nat.le_trans X.out.below.size h.size)) hr)
  have IU := hide (fun (W : World) (h : Below w.heap.size w W) => hu.below h hB)
  clear i1 i2 hv hu z1 z2
  go_enter Try.func90, Try.ntmps90
  go_wp2_with fail
  rw [← hw1]
  clear hw1
  refine wp_region_any (by kernel_rfl) ?_
  refine wpAny_factsT (w0 := w1) (fun i => ([(fun lo hi s W => s 8 = .pointer (some ⟨w.heap.size, 0, none⟩)),
    (fun lo hi s W => s 9 = .slice a1 l.length c1),
    (fun lo hi s W => Ow W (s 10) l lo hi),
    (fun lo hi s W => s 11 = .pointer (some ⟨w.heap.size, 1, none⟩)),
    (fun lo hi s W => s 12 = .slice a2 r.length c2),
    (fun lo hi s W => Ow W (s 13) r lo hi),
    (fun lo hi s W => s 14 = .agg #[s 10, s 13, .slice none 0 0]),
    (fun lo hi s W => ∃ g, s 5 = .pointer (some ⟨g, 0, none⟩) ∧ lo ≤ g ∧ g < hi ∧ W.heap[g]? = some (.cells #[.slice none 0 0, .slice none 0 0, .slice none 0 0] 27 (0, 0))),
    (fun lo hi s W => True)] : List (Nat → Nat → (Nat → Value) → World → Prop)).getD i (fun _ _ _ _ => True)) [[], [0], [0, 1], [], [3], [0, 1, 2, 3, 4], [0, 1, 2, 3, 4, 5], [], [0, 1, 2, 3, 4, 5, 6, 7]] [0, 1, 2, 3, 4, 5, 6, 7, 8] [[8], [9], [10], [11], [12], [13], [14, 10, 13], [5], []] [[], [], [], [], [], [], [], [], []] (by kernel_rfl) (by kernel_rfl) 8 1 rfl (by kernel_rfl) ?st ?step ?fin
  case st => as_aux_lemma =>
    intro i hi lo hi' s W W' h q1 q2 q3 q4 k
    rcases (show i = 0 ∨ i = 1 ∨ i = 2 ∨ i = 3 ∨ i = 4 ∨ i = 5 ∨ i = 6 ∨ i = 7 by omega) with rfl | rfl | rfl | rfl | rfl | rfl | rfl | rfl
    · have h : s 8 = .pointer (some ⟨w.heap.size, 0, none⟩) := h
      show s 8 = .pointer (some ⟨w.heap.size, 0, none⟩)
      exact h
    · have h : s 9 = .slice a1 l.length c1 := h
      show s 9 = .slice a1 l.length c1
      exact h
    · have h : Ow W (s 10) l lo hi' := h
      show Ow W' (s 10) l lo hi'
      exact h.on k.size k.own
    · have h : s 11 = .pointer (some ⟨w.heap.size, 1, none⟩) := h
      show s 11 = .pointer (some ⟨w.heap.size, 1, none⟩)
      exact h
    · have h : s 12 = .slice a2 r.length c2 := h
      show s 12 = .slice a2 r.length c2
      exact h
    · have h : Ow W (s 13) r lo hi' := h
      show Ow W' (s 13) r lo hi'
      exact h.on k.size k.own
    · have h : s 14 = .agg #[s 10, s 13, .slice none 0 0] := h
      show s 14 = .agg #[s 10, s 13, .slice none 0 0]
      exact h
    · have h : ∃ g, s 5 = .pointer (some ⟨g, 0, none⟩) ∧ lo ≤ g ∧ g < hi' ∧ W.heap[g]? = some (.cells #[.slice none 0 0, .slice none 0 0, .slice none 0 0] 27 (0, 0)) := h
      show ∃ g, s 5 = .pointer (some ⟨g, 0, none⟩) ∧ lo ≤ g ∧ g < hi' ∧ W'.heap[g]? = some (.cells #[.slice none 0 0, .slice none 0 0, .slice none 0 0] 27 (0, 0))
      obtain ⟨g, e1, e2, e3, e4⟩ := h; exact ⟨g, e1, e2, e3, (k.own g e2 e3 (Array.getElem?_eq_some_iff.1 e4).1).trans e4⟩
  case step => as_aux_lemma =>
    intro i hi a W iv hb hsz hdf hrest hanc hivs hap K HK
    have HK := hide HK
    have HAN := hide hanc
    have HRS := hide hrest
    have XU := hide (X.out.up hb)
    have HB := hide hb
    clear hanc hivs hap hrest hb hsz hdf X
    rcases (show i = 0 ∨ i = 1 ∨ i = 2 ∨ i = 3 ∨ i = 4 ∨ i = 5 ∨ i = 6 ∨ i = 7 by omega) with rfl | rfl | rfl | rfl | rfl | rfl | rfl | rfl
    · refine wpOp_step (o := _) rfl fun K' hK => ?_
      rw [if_pos (by go_simp)]
      have e1 : a.tmps.getD 2 undef = .pointer (some ⟨w.heap.size, 0, none⟩) := (HRS.out 2 (by decide)).trans rfl
      go_simp
      exact hK _ _ (HK.out _ _ ⟨fun _ => ⟨Below.refl _ _, rfl⟩, fun h => absurd rfl h⟩)
    · refine wpOp_step (o := _) rfl fun K' hK => ?_
      rw [if_pos (by go_simp)]
      have e1 : a.tmps.getD 8 undef = .pointer (some ⟨w.heap.size, 0, none⟩) := HAN.out 0 (by decide)
      have c0 : W.cell? ⟨w.heap.size, 0, none⟩ = some (.slice a1 l.length c1) := XU.out.cell 0 0 rfl rfl
      go_simp
      exact hK _ _ (HK.out _ _ ⟨fun _ => ⟨Below.refl _ _, rfl⟩, fun h => absurd rfl h⟩)
    · refine wpOp_step (o := _) rfl fun K' hK => ?_
      rw [if_pos (by go_simp)]
      have e1 : a.tmps.getD 9 undef = .slice a1 l.length c1 := HAN.out 1 (by decide)
      go_simp
      go_at_call 102
      refine (C1.out _ HB.out).mono ?_
      rintro e W' ⟨vv, rfl, ho, hbb⟩
      exact hK _ _ (HK.out _ _ ⟨fun _ => ⟨hbb, Ow.of ho hbb.size⟩, fun h => absurd rfl h⟩)
    · refine wpOp_step (o := _) rfl fun K' hK => ?_
      rw [if_pos (by go_simp)]
      have e1 : a.tmps.getD 2 undef = .pointer (some ⟨w.heap.size, 0, none⟩) := (HRS.out 2 (by decide)).trans rfl
      go_simp
      exact hK _ _ (HK.out _ _ ⟨fun _ => ⟨Below.refl _ _, rfl⟩, fun h => absurd rfl h⟩)
    · refine wpOp_step (o := _) rfl fun K' hK => ?_
      rw [if_pos (by go_simp)]
      have e1 : a.tmps.getD 11 undef = .pointer (some ⟨w.heap.size, 1, none⟩) := HAN.out 3 (by decide)
      have c0 : W.cell? ⟨w.heap.size, 1, none⟩ = some (.slice a2 r.length c2) := XU.out.cell 0 1 rfl rfl
      go_simp
      exact hK _ _ (HK.out _ _ ⟨fun _ => ⟨Below.refl _ _, rfl⟩, fun h => absurd rfl h⟩)
    · refine wpOp_step (o := _) rfl fun K' hK => ?_
      rw [if_pos (by go_simp)]
      have e1 : a.tmps.getD 12 undef = .slice a2 r.length c2 := HAN.out 4 (by decide)
      go_simp
      go_at_call 102
      refine (C2.out _ HB.out).mono ?_
      rintro e W' ⟨vv, rfl, ho, hbb⟩
      exact hK _ _ (HK.out _ _ ⟨fun _ => ⟨hbb, Ow.of ho hbb.size⟩, fun h => absurd rfl h⟩)
    · refine wpOp_step (o := _) rfl fun K' hK => ?_
      rw [if_pos (by go_simp)]
      obtain ⟨x1, m1, e1⟩ : ∃ x m, a.tmps.getD 10 undef = .slice x l.length m := (show Ow W (a.tmps.getD 10 undef) l _ _ from HAN.out 2 (by decide)).form
      obtain ⟨x2, m2, e2⟩ : ∃ x m, a.tmps.getD 13 undef = .slice x r.length m := (show Ow W (a.tmps.getD 13 undef) r _ _ from HAN.out 5 (by decide)).form
      have e1' := e1
      have e2' := e2
      rw [Array.getD_eq_getD_getElem?] at e1' e2'
      go_simp
      exact hK _ _ (HK.out _ _ ⟨fun _ => ⟨Below.refl _ _, (show Value.agg #[.slice x1 l.length m1, .slice x2 r.length m2, .slice none 0 0] = Value.agg #[a.tmps.getD 10 undef, a.tmps.getD 13 undef, .slice none 0 0] by rw [e1, e2])⟩, fun h => absurd rfl h⟩)
    · refine wpOp_step (o := _) rfl fun K' hK => ?_
      rw [if_pos (by go_simp)]
      go_simp
      exact hK _ _ (HK.out _ _ ⟨fun _ => ⟨below1 W _, ⟨W.heap.size, rfl, Nat.le_refl _, by simp, heap_alloc_new W _⟩⟩, fun h => absurd rfl h⟩)
  case fin =>
  intro a w2 iv I
  have hbY := I.below
  have O1 : Ow w2 (slot a 10) l (iv 2).1 (iv 2).2 := (I.fact 2 (by decide) rfl).2
  have O2 : Ow w2 (slot a 13) r (iv 5).1 (iv 5).2 := (I.fact 5 (by decide) rfl).2
  have F8 : slot a 14 = .agg #[slot a 10, slot a 13, .slice none 0 0] := (I.fact 6 (by decide) rfl).2
  obtain ⟨g, F5, f2, f3, f4⟩ : ∃ g, slot a 5 = .pointer (some ⟨g, 0, none⟩) ∧ (iv 7).1 ≤ g ∧ g < (iv 7).2 ∧ w2.heap[g]? = some (.cells #[.slice none 0 0, .slice none 0 0, .slice none 0 0] 27 (0, 0)) := (I.fact 7 (by decide) rfl).2
  obtain ⟨iv2a, iv2b, iv2c⟩ := I.ivs 2 (by decide) rfl rfl
  obtain ⟨iv5a, iv5b, iv5c⟩ := I.ivs 5 (by decide) rfl rfl
  obtain ⟨iv7a, iv7b, iv7c⟩ := I.ivs 7 (by decide) rfl rfl
  have ap := I.apart 2 5 (by decide) (by decide) rfl rfl rfl rfl (by decide)
  have ap2 := I.apart 2 7 (by decide) (by decide) rfl rfl rfl rfl (by decide)
  have ap3 := I.apart 5 7 (by decide) (by decide) rfl rfl rfl rfl (by decide)
  obtain ⟨n1, hn1⟩ : ∃ q, q = (iv 2).1 := ⟨_, rfl⟩
  obtain ⟨h1, hh1⟩ : ∃ q, q = (iv 2).2 := ⟨_, rfl⟩
  obtain ⟨n2, hn2⟩ : ∃ q, q = (iv 5).1 := ⟨_, rfl⟩
  obtain ⟨h2, hh2⟩ : ∃ q, q = (iv 5).2 := ⟨_, rfl⟩
  rw [← hn1, ← hh1] at O1
  rw [← hn2, ← hh2] at O2
  have NQ := hide (show w1.heap.size ≤ n1 ∧ w1.heap.size ≤ n2 ∧ (h1 ≤ n2 ∨ h2 ≤ n1) ∧ w1.heap.size ≤ g ∧ (g < n1 ∨ h1 ≤ g) ∧ (g < n2 ∨ h2 ≤ g) by omega)
  obtain ⟨gx, kx, hx1⟩ := O1.form
  obtain ⟨gy, ky, hx2⟩ := O2.form
  rw [hx1] at O1 F8
  rw [hx2] at O2 F8
  have hfr := frame_of [8, 9, 10, 11, 12, 13, 14, 5] I.size I.defers (fun s hs => I.rest s (rfDsts_spec (by kernel_rfl) hs))
  have XN := Kn.add (Kn.none hbY) f4 (Nat.le_trans iv7a f2) (fun e he => by simp at he)
  have X := hide (Kn.joinR X.out XN)
  simp only [List.cons_append, List.nil_append] at X
  have O1 := hide O1
  have O2 := hide O2
  clear I iv2a iv2b iv2c iv5a iv5b iv5c iv7a iv7b iv7c ap ap2 ap3 hn1 hn2 hh1 hh2 f2 f3 f4 XN hbY C1 C2
  rw [hfr]
  simp only [List.foldl_cons, List.foldl_nil, List.setIfInBounds_toArray, List.set_cons_succ, List.set_cons_zero, F5, F8]
  clear hfr F5 F8 hx1 hx2
  generalize slot a 8 = t8
  generalize slot a 9 = t9
  generalize slot a 10 = t10
  generalize slot a 11 = t11
  generalize slot a 12 = t12
  generalize slot a 13 = t13
  show wpOp _ _ _ 8 _ _ w2
  refine wpOp_step (o := _) rfl fun K' hK => ?_
  rw [if_pos (by go_simp)]
  have c0 := X.out.cell 2 0 rfl rfl
  have c1' := X.out.cell 2 1 rfl rfl
  have c2' := X.out.cell 2 2 rfl rfl
  have u0 := X.out.free 2 0 rfl
  have u1 := X.out.free 2 1 rfl
  have u2 := X.out.free 2 2 rfl
  go_simp
  refine hK _ _ ?_
  clear hK K' c0 c1' c2' u0 u1 u2
  have Y := hide (((X.out.set 2 0 rfl (.slice gx l.length kx)).set 2 1 rfl (.slice gy r.length ky)).set 2 2 rfl (.slice none 0 0))
  have sg : Seg g (g + 1) w2 (((w2.setCell ⟨g, 0, none⟩ (.slice gx l.length kx)).setCell ⟨g, 1, none⟩ (.slice gy r.length ky)).setCell ⟨g, 2, none⟩ (.slice none 0 0)) := segS3 (Nat.le_refl _) (Nat.lt_succ_self _) _ _ _
  obtain ⟨q1, q2, q3, q4, q5, q6⟩ := NQ.out
  have O1 := hide (O1.out.seg sg (by omega))
  have O2 := hide (O2.out.seg sg (by omega))
  clear sg q1 q2 q3 q4 q5 q6 X
  obtain ⟨w3, hw3⟩ : ∃ q, q = ((w2.setCell ⟨g, 0, none⟩ (.slice gx l.length kx)).setCell ⟨g, 1, none⟩ (.slice gy r.length ky)).setCell ⟨g, 2, none⟩ (.slice none 0 0) := ⟨_, rfl⟩
  rw [← hw3] at Y O1 O2 ⊢
  clear hw3
  simp only [rfTail]
  have hil : ins.length ≤ 9223372036854775807 := by omega
  go_wp2_with fail
  go_loopw [17] (fun i wr => ∃ (k : Nat) (L R : List Int) (gx gy : Option Addr) (kx ky n1 h1 n2 h2 : Nat), k ≤ ins.length ∧ i = .int .i64 k ∧ Hid (L = l ++ (ins.take k).map (·.1)) ∧ Hid (R = r ++ (ins.take k).map (·.2)) ∧ Hid (Kn w wr [(w.heap.size, #[.slice a1 l.length c1, .slice a2 r.length c2, .slice a3 ps.length c3], 27), (w.heap.size + 1, #[.slice none 0 0, .slice none 0 0, .slice none 0 0], 27), (g, #[.slice gx L.length kx, .slice gy R.length ky, .slice none 0 0], 27)]) ∧ Hid (Ow wr (.slice gx L.length kx) L n1 h1) ∧ Hid (Ow wr (.slice gy R.length ky) R n2 h2) ∧ Hid (w1.heap.size ≤ n1 ∧ w1.heap.size ≤ n2 ∧ (h1 ≤ n2 ∨ h2 ≤ n1) ∧ w1.heap.size ≤ g ∧ (g < n1 ∨ h1 ≤ g) ∧ (g < n2 ∨ h2 ≤ g))) (fun i _ => ins.length - (intOf i).toNat)
  case atStart => exact ⟨0, l, r, gx, gy, kx, ky, n1, h1, n2, h2, by omega, rfl, by simp [Hid], by simp [Hid], Y.out, O1.out, O2.out, NQ.out⟩
  case round =>
    clear Y O1 O2 NQ
    obtain ⟨k, L, R, gx, gy, kx, ky, n1, h1, n2, h2, hk, rfl, HL, HR, X, O1, O2, NQ⟩ := hrel
    by_cases hlt : k < ins.length
    · obtain ⟨bb, oo, rfl, hbB, hc, hc'⟩ : ∃ bb oo, b1 = some ⟨bb, oo, none⟩ ∧ bb < B ∧ wr.cell? ⟨bb, oo + k * 2, none⟩ = some (.int .i64 ins[k].1) ∧ wr.cell? ⟨bb, oo + k * 2 + 1, none⟩ = some (.int .i64 ins[k].2) := by
        obtain ⟨a', c', he, -, -, h3⟩ := IU.out _ X.out.below
        simp only [Value.slice.injEq] at he
        obtain ⟨rfl, -, -⟩ := he
        exact h3 k hlt
      obtain ⟨p, hp⟩ : ∃ p, p = ins[k] := ⟨_, rfl⟩
      rw [← hp] at hc hc'
      obtain ⟨x, y⟩ := p
      simp only at hc hc'
      have HL1 := hide (show L ++ [x] = l ++ (ins.take (k + 1)).map (·.1) by rw [HL.out, List.take_succ_eq_append_getElem hlt, ← hp]; simp)
      have HR1 := hide (show R ++ [y] = r ++ (ins.take (k + 1)).map (·.2) by rw [HR.out, List.take_succ_eq_append_getElem hlt, ← hp]; simp)
      have HLn := hide (show L.length ≤ 2097153 ∧ R.length ≤ 2097153 by rw [HL.out, HR.out]; simp; omega)
      obtain ⟨L2, hL2⟩ : ∃ q, q = L ++ [x] := ⟨_, rfl⟩
      obtain ⟨R2, hR2⟩ : ∃ q, q = R ++ [y] := ⟨_, rfl⟩
      rw [← hL2] at HL1
      rw [← hR2] at HR1
      have HL2 := hide hL2
      have HR2 := hide hR2
      clear hp HL HR hL2 hR2
      have O1a := O1
      have XA0 := X
      have O2a := O2
      have bl := below1 wr (.cells #[.int .i64 x, .int .i64 y] 49)
      have X := hide (X.out.alloc #[.int .i64 x, .int .i64 y] 49)
      have O1 := hide (O1.out.below bl)
      have O2 := hide (O2.out.below bl)
      have TT := hide (show h1 ≤ wr.heap.size ∧ h2 ≤ wr.heap.size ∧ g < wr.heap.size from ⟨O1a.out.top, O2a.out.top, XA0.out.lt 2 rfl⟩)
      clear O1a O2a XA0
      obtain ⟨w4, hw4⟩ : ∃ q, q = wr.alloc (.cells #[.int .i64 x, .int .i64 y] 49) := ⟨_, rfl⟩
      obtain ⟨gi, hgi⟩ : ∃ q, q = wr.heap.size := ⟨_, rfl⟩
      have N4 := hide (show gi = wr.heap.size ∧ w4.heap.size = gi + 1 by rw [hw4, hgi]; simp)
      rw [← hw4] at X O1 O2
      rw [← hgi] at X
      simp only [List.cons_append, List.nil_append] at X
      clear bl
      go_upto_region 5 with fail
      rw [← hgi, ← hw4]
      clear hw4 hgi hc hc'
      refine wp_region_any (by kernel_rfl) ?_
      have NX := hide (show g < w4.heap.size ∧ gi < w4.heap.size ∧ g ≠ gi ∧ h1 ≤ gi ∧ h2 ≤ gi ∧ w1.heap.size ≤ gi ∧ w1.heap.size ≤ w4.heap.size by
        have q1 := X.out.lt 2 rfl
        have q3 := N4.out
        have q4 := NQ.out
        have q5 := TT.out
        omega)
      refine wpAny_own (w0 := w4) w1.heap.size 4 (fun i => ([(fun own s W => s 21 = .pointer (some ⟨g, 0, none⟩)),
        (fun own s W => s 22 = .slice gx L.length kx),
        (fun own s W => s 23 = .pointer (some ⟨gi, 0, none⟩)),
        (fun own s W => s 24 = .int .i64 x),
        (fun own s W => ∃ b, s 25 = .slice (some ⟨b, 0, none⟩) 1 1 ∧ own b ∧ W.heap[b]? = some (.cells #[.int .i64 x] 3 (0, 0))),
        (fun own s W => ∃ n h, Ow W (s 26) L2 n h ∧ (∀ b, n ≤ b → b < h → own b)),
        (fun own s W => s 27 = .pointer (some ⟨g, 1, none⟩)),
        (fun own s W => s 28 = .slice gy R.length ky),
        (fun own s W => s 29 = .pointer (some ⟨gi, 1, none⟩)),
        (fun own s W => s 30 = .int .i64 y),
        (fun own s W => ∃ b, s 31 = .slice (some ⟨b, 0, none⟩) 1 1 ∧ own b ∧ W.heap[b]? = some (.cells #[.int .i64 y] 3 (0, 0))),
        (fun own s W => ∃ n h, Ow W (s 32) R2 n h ∧ (∀ b, n ≤ b → b < h → own b)),
        (fun own s W => s 33 = .pointer (some ⟨g, 0, none⟩)),
        (fun own s W => True),
        (fun own s W => True),
        (fun own s W => True),
        (fun own s W => Ow W (.slice gx L.length kx) L n1 h1 ∧ (∀ b, n1 ≤ b → b < h1 → own b)),
        (fun own s W => Ow W (.slice gy R.length ky) R n2 h2 ∧ (∀ b, n2 ≤ b → b < h2 → own b)),
        (fun own s W => W.heap[g]? = some (.cells #[.slice gx L.length kx, .slice gy R.length ky, .slice none 0 0] 27 (0, 0)) ∧ own g),
        (fun own s W => W.heap[gi]? = some (.cells #[.int .i64 x, .int .i64 y] 49 (0, 0)) ∧ own gi)] : List ((Nat → Prop) → (Nat → Value) → World → Prop)).getD i (fun _ _ _ => True)) [[], [0], [], [2], [2, 3], [0, 1, 2, 3, 4], [], [6], [], [8], [8, 9], [0, 1, 2, 3, 4, 5, 6, 7, 8, 9, 10], [0, 1, 2, 3, 4, 5, 6, 7], [0, 1, 2, 3, 4, 5, 6, 7, 8, 9, 10, 11, 12], [0, 1, 2, 3, 4, 5, 6, 7, 8, 9, 10, 11, 12, 13], [0, 1, 2, 3, 4, 5, 6, 7, 8, 9, 10, 11, 12, 13, 14]] [[21], [22], [23], [24], [25], [26], [27], [28], [29], [30], [31], [32], [33], [], [], []] [none, none, none, none, none, some 16, none, none, none, none, none, some 17, none, none, none, none] [[], [0, 18], [], [2, 19], [3], [1, 4, 16], [], [6, 18], [], [8, 19], [9], [7, 10, 17], [], [], [], []] (fun i b => if i = 16 then n1 ≤ b ∧ b < h1 else if i = 17 then n2 ≤ b ∧ b < h2 else if i = 18 then b = g else b = gi) (by kernel_rfl) (by kernel_rfl) 13 3 rfl (by kernel_rfl) NX.out.2.2.2.2.2.2 ?h0 ?h0a (fun i hi => by rw [List.getD_eq_getElem?_getD, List.getElem?_eq_none (by simpa using hi)]; rfl) ?st ?step ?fin
      case h0 => as_aux_lemma =>
        intro i h1' h2'
        have h1' : 16 ≤ i := h1'
        have h2' : i < 16 + 4 := h2'
        have q4 := NQ.out
        have q5 := NX.out
        have q6 := O1.out.top
        have q7 := O2.out.top
        rcases (show i = 16 ∨ i = 17 ∨ i = 18 ∨ i = 19 by omega) with rfl | rfl | rfl | rfl
        · exact ⟨⟨O1.out, fun b p1 p2 => ⟨p1, p2⟩⟩, fun b (hb : n1 ≤ b ∧ b < h1) => by omega⟩
        · exact ⟨⟨O2.out, fun b p1 p2 => ⟨p1, p2⟩⟩, fun b (hb : n2 ≤ b ∧ b < h2) => by omega⟩
        · exact ⟨⟨X.out.mem 2 rfl, rfl⟩, fun b (hb : b = g) => by omega⟩
        · exact ⟨⟨X.out.mem 3 rfl, rfl⟩, fun b (hb : b = gi) => by omega⟩
      case h0a => as_aux_lemma =>
        intro i j h1' h2' h3' h4' hne b hb hb'
        have h1' : 16 ≤ i := h1'
        have h2' : i < 16 + 4 := h2'
        have h3' : 16 ≤ j := h3'
        have h4' : j < 16 + 4 := h4'
        have q4 := NQ.out
        have q5 := NX.out
        rcases (show i = 16 ∨ i = 17 ∨ i = 18 ∨ i = 19 by omega) with rfl | rfl | rfl | rfl <;> rcases (show j = 16 ∨ j = 17 ∨ j = 18 ∨ j = 19 by omega) with rfl | rfl | rfl | rfl <;> first
          | exact hne rfl
          | (have hb : n1 ≤ b ∧ b < h1 := hb; first | (have hb' : n2 ≤ b ∧ b < h2 := hb'; omega) | (have hb' : b = g := hb'; omega) | (have hb' : b = gi := hb'; omega))
          | (have hb : n2 ≤ b ∧ b < h2 := hb; first | (have hb' : n1 ≤ b ∧ b < h1 := hb'; omega) | (have hb' : b = g := hb'; omega) | (have hb' : b = gi := hb'; omega))
          | (have hb : b = g := hb; first | (have hb' : n1 ≤ b ∧ b < h1 := hb'; omega) | (have hb' : n2 ≤ b ∧ b < h2 := hb'; omega) | (have hb' : b = gi := hb'; omega))
          | (have hb : b = gi := hb; first | (have hb' : n1 ≤ b ∧ b < h1 := hb'; omega) | (have hb' : n2 ≤ b ∧ b < h2 := hb'; omega) | (have hb' : b = g := hb'; omega))
      case st => as_aux_lemma =>
        intro i hi0 hi ow s W W' h hlt' hGW k'
        have hi : i < 16 + 4 := hi
        have hi0 : i < 13 ∨ 16 ≤ i := hi0
        rcases (show i = 0 ∨ i = 1 ∨ i = 2 ∨ i = 3 ∨ i = 4 ∨ i = 5 ∨ i = 6 ∨ i = 7 ∨ i = 8 ∨ i = 9 ∨ i = 10 ∨ i = 11 ∨ i = 12 ∨ i = 16 ∨ i = 17 ∨ i = 18 ∨ i = 19 by omega) with rfl | rfl | rfl | rfl | rfl | rfl | rfl | rfl | rfl | rfl | rfl | rfl | rfl | rfl | rfl | rfl | rfl
        · have h : s 21 = .pointer (some ⟨g, 0, none⟩) := h
          show s 21 = .pointer (some ⟨g, 0, none⟩)
          exact h
        · have h : s 22 = .slice gx L.length kx := h
          show s 22 = .slice gx L.length kx
          exact h
        · have h : s 23 = .pointer (some ⟨gi, 0, none⟩) := h
          show s 23 = .pointer (some ⟨gi, 0, none⟩)
          exact h
        · have h : s 24 = .int .i64 x := h
          show s 24 = .int .i64 x
          exact h
        · have h : ∃ b, s 25 = .slice (some ⟨b, 0, none⟩) 1 1 ∧ ow b ∧ W.heap[b]? = some (.cells #[.int .i64 x] 3 (0, 0)) := h
          show ∃ b, s 25 = .slice (some ⟨b, 0, none⟩) 1 1 ∧ ow b ∧ W'.heap[b]? = some (.cells #[.int .i64 x] 3 (0, 0))
          obtain ⟨b, e1, e2, e3⟩ := h; exact ⟨b, e1, e2, (k'.block b (hlt' b e2) (.inr e2)).trans e3⟩
        · have h : ∃ n h, Ow W (s 26) L2 n h ∧ (∀ b, n ≤ b → b < h → ow b) := h
          show ∃ n h, Ow W' (s 26) L2 n h ∧ (∀ b, n ≤ b → b < h → ow b)
          obtain ⟨n, h', e1, e2⟩ := h; exact ⟨n, h', e1.on k'.size (fun b p1 p2 p3 => k'.block b p3 (.inr (e2 b p1 p2))), e2⟩
        · have h : s 27 = .pointer (some ⟨g, 1, none⟩) := h
          show s 27 = .pointer (some ⟨g, 1, none⟩)
          exact h
        · have h : s 28 = .slice gy R.length ky := h
          show s 28 = .slice gy R.length ky
          exact h
        · have h : s 29 = .pointer (some ⟨gi, 1, none⟩) := h
          show s 29 = .pointer (some ⟨gi, 1, none⟩)
          exact h
        · have h : s 30 = .int .i64 y := h
          show s 30 = .int .i64 y
          exact h
        · have h : ∃ b, s 31 = .slice (some ⟨b, 0, none⟩) 1 1 ∧ ow b ∧ W.heap[b]? = some (.cells #[.int .i64 y] 3 (0, 0)) := h
          show ∃ b, s 31 = .slice (some ⟨b, 0, none⟩) 1 1 ∧ ow b ∧ W'.heap[b]? = some (.cells #[.int .i64 y] 3 (0, 0))
          obtain ⟨b, e1, e2, e3⟩ := h; exact ⟨b, e1, e2, (k'.block b (hlt' b e2) (.inr e2)).trans e3⟩
        · have h : ∃ n h, Ow W (s 32) R2 n h ∧ (∀ b, n ≤ b → b < h → ow b) := h
          show ∃ n h, Ow W' (s 32) R2 n h ∧ (∀ b, n ≤ b → b < h → ow b)
          obtain ⟨n, h', e1, e2⟩ := h; exact ⟨n, h', e1.on k'.size (fun b p1 p2 p3 => k'.block b p3 (.inr (e2 b p1 p2))), e2⟩
        · have h : s 33 = .pointer (some ⟨g, 0, none⟩) := h
          show s 33 = .pointer (some ⟨g, 0, none⟩)
          exact h
        · have h : Ow W (.slice gx L.length kx) L n1 h1 ∧ (∀ b, n1 ≤ b → b < h1 → ow b) := h
          show Ow W' (.slice gx L.length kx) L n1 h1 ∧ (∀ b, n1 ≤ b → b < h1 → ow b)
          exact ⟨h.1.on k'.size (fun b p1 p2 p3 => k'.block b p3 (.inr (h.2 b p1 p2))), h.2⟩
        · have h : Ow W (.slice gy R.length ky) R n2 h2 ∧ (∀ b, n2 ≤ b → b < h2 → ow b) := h
          show Ow W' (.slice gy R.length ky) R n2 h2 ∧ (∀ b, n2 ≤ b → b < h2 → ow b)
          exact ⟨h.1.on k'.size (fun b p1 p2 p3 => k'.block b p3 (.inr (h.2 b p1 p2))), h.2⟩
        · have h : W.heap[g]? = some (.cells #[.slice gx L.length kx, .slice gy R.length ky, .slice none 0 0] 27 (0, 0)) ∧ ow g := h
          show W'.heap[g]? = some (.cells #[.slice gx L.length kx, .slice gy R.length ky, .slice none 0 0] 27 (0, 0)) ∧ ow g
          exact ⟨(k'.block _ (hlt' _ h.2) (.inr h.2)).trans h.1, h.2⟩
        · have h : W.heap[gi]? = some (.cells #[.int .i64 x, .int .i64 y] 49 (0, 0)) ∧ ow gi := h
          show W'.heap[gi]? = some (.cells #[.int .i64 x, .int .i64 y] 49 (0, 0)) ∧ ow gi
          exact ⟨(k'.block _ (hlt' _ h.2) (.inr h.2)).trans h.1, h.2⟩
      case step => as_aux_lemma =>
        intro i hi a W own hb hGW hsz hdf hrest huse hdom hap K HK
        have HK := hide HK
        have HU := hide huse
        have HD := hide hdom
        have HAP := hide hap
        have HRS := hide hrest
        clear huse hdom hap hrest hsz hdf
        rcases (show i = 0 ∨ i = 1 ∨ i = 2 ∨ i = 3 ∨ i = 4 ∨ i = 5 ∨ i = 6 ∨ i = 7 ∨ i = 8 ∨ i = 9 ∨ i = 10 ∨ i = 11 ∨ i = 12 by omega) with rfl | rfl | rfl | rfl | rfl | rfl | rfl | rfl | rfl | rfl | rfl | rfl | rfl
        · refine wpOp_step (o := _) rfl fun K' hK => ?_
          rw [if_pos (by go_simp)]
          have e1 : a.tmps.getD 5 undef = .pointer (some ⟨g, 0, none⟩) := (HRS.out 5 (by decide)).trans rfl
          go_simp
          exact hK _ _ (HK.out _ _ ⟨Below.refl _ _, fun b _ _ => rfl, rfl⟩)
        · refine wpOp_step (o := _) rfl fun K' hK => ?_
          rw [if_pos (by go_simp)]
          have e1 : a.tmps.getD 21 undef = .pointer (some ⟨g, 0, none⟩) := HU.out 0 (by decide)
          have hg : W.heap[g]? = some (.cells #[.slice gx L.length kx, .slice gy R.length ky, .slice none 0 0] 27 (0, 0)) := (show W.heap[g]? = some (.cells #[.slice gx L.length kx, .slice gy R.length ky, .slice none 0 0] 27 (0, 0)) ∧ own 18 g from HU.out 18 (by decide)).1
          have c0 : W.cell? ⟨g, 0, none⟩ = some (.slice gx L.length kx) := cell_of_row W g 0 _ _ (0, 0) hg
          clear hg
          go_simp
          exact hK _ _ (HK.out _ _ ⟨Below.refl _ _, fun b _ _ => rfl, rfl⟩)
        · refine wpOp_step (o := _) rfl fun K' hK => ?_
          rw [if_pos (by go_simp)]
          have e1 : a.tmps.getD 7 undef = .pointer (some ⟨gi, 0, none⟩) := (HRS.out 7 (by decide)).trans rfl
          go_simp
          exact hK _ _ (HK.out _ _ ⟨Below.refl _ _, fun b _ _ => rfl, rfl⟩)
        · refine wpOp_step (o := _) rfl fun K' hK => ?_
          rw [if_pos (by go_simp)]
          have e1 : a.tmps.getD 23 undef = .pointer (some ⟨gi, 0, none⟩) := HU.out 2 (by decide)
          have hg : W.heap[gi]? = some (.cells #[.int .i64 x, .int .i64 y] 49 (0, 0)) := (show W.heap[gi]? = some (.cells #[.int .i64 x, .int .i64 y] 49 (0, 0)) ∧ own 19 gi from HU.out 19 (by decide)).1
          have c0 : W.cell? ⟨gi, 0, none⟩ = some (.int .i64 x) := cell_of_row W gi 0 _ _ (0, 0) hg
          clear hg
          go_simp
          exact hK _ _ (HK.out _ _ ⟨Below.refl _ _, fun b _ _ => rfl, rfl⟩)
        · refine wpOp_step (o := _) rfl fun K' hK => ?_
          rw [if_pos (by go_simp)]
          have e1 : a.tmps.getD 24 undef = .int .i64 x := HU.out 3 (by decide)
          have e1' := e1
          rw [Array.getD_eq_getD_getElem?] at e1'
          go_simp
          exact hK _ _ (HK.out _ _ ⟨(below1 W _).mono (Nat.zero_le _), fun b hb' _ => heap_alloc_old W _ hb', ⟨W.heap.size, rfl, .inl ⟨Nat.le_refl _, by simp⟩, heap_alloc_new W _⟩⟩)
        · refine wpOp_step (o := _) rfl fun K' hK => ?_
          rw [if_pos (by go_simp)]
          have e1 : a.tmps.getD 22 undef = .slice gx L.length kx := HU.out 1 (by decide)
          obtain ⟨b, e2, eb, hb2⟩ : ∃ b, a.tmps.getD 25 undef = .slice (some ⟨b, 0, none⟩) 1 1 ∧ own 4 b ∧ W.heap[b]? = some (.cells #[.int .i64 x] 3 (0, 0)) := HU.out 4 (by decide)
          obtain ⟨hO, hO2⟩ : Ow W (.slice gx L.length kx) L n1 h1 ∧ (∀ b, n1 ≤ b → b < h1 → own 16 b) := HU.out 16 (by decide)
          refine owint_app_wp W _ _ rfl _ L [x] n1 h1 hO e1 ⟨b, 0, none⟩ 1 e2 (one_news hb2) (by have := HLn.out; simp; omega) ?_
          intro v' W' n3 h3 O3 hwh sg
          rw [← HL2.out] at O3
          refine hK _ _ (HK.out _ _ ⟨⟨sg.below.os, sg.below.tape, sg.below.output, sg.below.size, fun k hk => absurd hk (Nat.not_lt_zero _)⟩, fun b' hb' hno => ?_, ⟨n3, h3, O3, fun b' p1 p2 => ?_⟩⟩)
          · have hn : ¬ own 16 b' := hno 16 rfl
            rcases Nat.lt_or_ge b' n1 with p | p
            · exact sg.below.block b' p
            · rcases Nat.lt_or_ge b' h1 with p2 | p2
              · exact absurd (hO2 b' p p2) hn
              · exact sg.over b' p2 hb'
          · rcases hwh with ⟨rfl, rfl⟩ | ⟨p3, p4⟩
            · exact .inr ⟨16, rfl, hO2 b' p1 p2⟩
            · exact .inl ⟨Nat.le_trans p3 p1, Nat.lt_of_lt_of_le p2 p4⟩
        · refine wpOp_step (o := _) rfl fun K' hK => ?_
          rw [if_pos (by go_simp)]
          have e1 : a.tmps.getD 5 undef = .pointer (some ⟨g, 0, none⟩) := (HRS.out 5 (by decide)).trans rfl
          go_simp
          exact hK _ _ (HK.out _ _ ⟨Below.refl _ _, fun b _ _ => rfl, rfl⟩)
        · refine wpOp_step (o := _) rfl fun K' hK => ?_
          rw [if_pos (by go_simp)]
          have e1 : a.tmps.getD 27 undef = .pointer (some ⟨g, 1, none⟩) := HU.out 6 (by decide)
          have hg : W.heap[g]? = some (.cells #[.slice gx L.length kx, .slice gy R.length ky, .slice none 0 0] 27 (0, 0)) := (show W.heap[g]? = some (.cells #[.slice gx L.length kx, .slice gy R.length ky, .slice none 0 0] 27 (0, 0)) ∧ own 18 g from HU.out 18 (by decide)).1
          have c0 : W.cell? ⟨g, 1, none⟩ = some (.slice gy R.length ky) := cell_of_row W g 1 _ _ (0, 0) hg
          clear hg
          go_simp
          exact hK _ _ (HK.out _ _ ⟨Below.refl _ _, fun b _ _ => rfl, rfl⟩)
        · refine wpOp_step (o := _) rfl fun K' hK => ?_
          rw [if_pos (by go_simp)]
          have e1 : a.tmps.getD 7 undef = .pointer (some ⟨gi, 0, none⟩) := (HRS.out 7 (by decide)).trans rfl
          go_simp
          exact hK _ _ (HK.out _ _ ⟨Below.refl _ _, fun b _ _ => rfl, rfl⟩)
        · refine wpOp_step (o := _) rfl fun K' hK => ?_
          rw [if_pos (by go_simp)]
          have e1 : a.tmps.getD 29 undef = .pointer (some ⟨gi, 1, none⟩) := HU.out 8 (by decide)
          have hg : W.heap[gi]? = some (.cells #[.int .i64 x, .int .i64 y] 49 (0, 0)) := (show W.heap[gi]? = some (.cells #[.int .i64 x, .int .i64 y] 49 (0, 0)) ∧ own 19 gi from HU.out 19 (by decide)).1
          have c0 : W.cell? ⟨gi, 1, none⟩ = some (.int .i64 y) := cell_of_row W gi 1 _ _ (0, 0) hg
          clear hg
          go_simp
          exact hK _ _ (HK.out _ _ ⟨Below.refl _ _, fun b _ _ => rfl, rfl⟩)
        · refine wpOp_step (o := _) rfl fun K' hK => ?_
          rw [if_pos (by go_simp)]
          have e1 : a.tmps.getD 30 undef = .int .i64 y := HU.out 9 (by decide)
          have e1' := e1
          rw [Array.getD_eq_getD_getElem?] at e1'
          go_simp
          exact hK _ _ (HK.out _ _ ⟨(below1 W _).mono (Nat.zero_le _), fun b hb' _ => heap_alloc_old W _ hb', ⟨W.heap.size, rfl, .inl ⟨Nat.le_refl _, by simp⟩, heap_alloc_new W _⟩⟩)
        · refine wpOp_step (o := _) rfl fun K' hK => ?_
          rw [if_pos (by go_simp)]
          have e1 : a.tmps.getD 28 undef = .slice gy R.length ky := HU.out 7 (by decide)
          obtain ⟨b, e2, eb, hb2⟩ : ∃ b, a.tmps.getD 31 undef = .slice (some ⟨b, 0, none⟩) 1 1 ∧ own 10 b ∧ W.heap[b]? = some (.cells #[.int .i64 y] 3 (0, 0)) := HU.out 10 (by decide)
          obtain ⟨hO, hO2⟩ : Ow W (.slice gy R.length ky) R n2 h2 ∧ (∀ b, n2 ≤ b → b < h2 → own 17 b) := HU.out 17 (by decide)
          refine owint_app_wp W _ _ rfl _ R [y] n2 h2 hO e1 ⟨b, 0, none⟩ 1 e2 (one_news hb2) (by have := HLn.out; simp; omega) ?_
          intro v' W' n3 h3 O3 hwh sg
          rw [← HR2.out] at O3
          refine hK _ _ (HK.out _ _ ⟨⟨sg.below.os, sg.below.tape, sg.below.output, sg.below.size, fun k hk => absurd hk (Nat.not_lt_zero _)⟩, fun b' hb' hno => ?_, ⟨n3, h3, O3, fun b' p1 p2 => ?_⟩⟩)
          · have hn : ¬ own 17 b' := hno 17 rfl
            rcases Nat.lt_or_ge b' n2 with p | p
            · exact sg.below.block b' p
            · rcases Nat.lt_or_ge b' h2 with p2 | p2
              · exact absurd (hO2 b' p p2) hn
              · exact sg.over b' p2 hb'
          · rcases hwh with ⟨rfl, rfl⟩ | ⟨p3, p4⟩
            · exact .inr ⟨17, rfl, hO2 b' p1 p2⟩
            · exact .inl ⟨Nat.le_trans p3 p1, Nat.lt_of_lt_of_le p2 p4⟩
        · refine wpOp_step (o := _) rfl fun K' hK => ?_
          rw [if_pos (by go_simp)]
          have e1 : a.tmps.getD 5 undef = .pointer (some ⟨g, 0, none⟩) := (HRS.out 5 (by decide)).trans rfl
          go_simp
          exact hK _ _ (HK.out _ _ ⟨Below.refl _ _, fun b _ _ => rfl, rfl⟩)
      case fin =>
      intro a w5 own I
      have lv : ∀ i, i < 20 → (i = 5 ∨ i = 11 ∨ i = 18 ∨ i = 19) → OLive 16 [none, none, none, none, none, some 16, none, none, none, none, none, some 17, none, none, none, none] (fun i => decide (i < 13)) i := by
        intro i _ h
        rcases h with rfl | rfl | rfl | rfl <;> exact ⟨fun h => by first | rfl | omega, by decide⟩
      obtain ⟨n3, h3, O3, P3'⟩ : ∃ n h, Ow w5 (slot a 26) L2 n h ∧ (∀ b, n ≤ b → b < h → own 5 b) := I.fact 5 (by decide) (lv 5 (by omega) (by omega))
      obtain ⟨n4, h4, O4, P4'⟩ : ∃ n h, Ow w5 (slot a 32) R2 n h ∧ (∀ b, n ≤ b → b < h → own 11 b) := I.fact 11 (by decide) (lv 11 (by omega) (by omega))
      obtain ⟨G1, G2⟩ : w5.heap[g]? = some (.cells #[.slice gx L.length kx, .slice gy R.length ky, .slice none 0 0] 27 (0, 0)) ∧ own 18 g := I.fact 18 (by decide) (lv 18 (by omega) (by omega))
      have hL0 : 0 < L2.length := by rw [HL2.out]; simp
      have hR0 : 0 < R2.length := by rw [HR2.out]; simp
      have m3 := O3.pos hL0
      have m4 := O4.pos hR0
      have d1' := I.dom 5 (by decide) (lv 5 (by omega) (by omega)) n3 (P3' n3 (Nat.le_refl _) m3)
      have d2' := I.dom 11 (by decide) (lv 11 (by omega) (by omega)) n4 (P4' n4 (Nat.le_refl _) m4)
      have av1 := I.apart 5 11 (by decide) (by decide) (lv 5 (by omega) (by omega)) (lv 11 (by omega) (by omega)) (by decide)
      have av2 := I.apart 18 5 (by decide) (by decide) (lv 18 (by omega) (by omega)) (lv 5 (by omega) (by omega)) (by decide) g G2
      have av3 := I.apart 18 11 (by decide) (by decide) (lv 18 (by omega) (by omega)) (lv 11 (by omega) (by omega)) (by decide) g G2
      have o1 := ord_of (n := n3) (h := h3) (n' := n4) (h' := h4) (fun b p1 p2 => av1 b (P3' b p1.1 p1.2) (P4' b p2.1 p2.2)) m3 m4
      have o2 : g < n3 ∨ h3 ≤ g := by
        rcases Nat.lt_or_ge g n3 with p | p
        · exact .inl p
        · rcases Nat.lt_or_ge g h3 with p2 | p2
          · exact absurd (P3' g p p2) av2
          · exact .inr p2
      have o3 : g < n4 ∨ h4 ≤ g := by
        rcases Nat.lt_or_ge g n4 with p | p
        · exact .inl p
        · rcases Nat.lt_or_ge g h4 with p2 | p2
          · exact absurd (P4' g p p2) av3
          · exact .inr p2
      have NQ2 := hide (show w1.heap.size ≤ n3 ∧ w1.heap.size ≤ n4 ∧ (h3 ≤ n4 ∨ h4 ≤ n3) ∧ w1.heap.size ≤ g ∧ (g < n3 ∨ h3 ≤ g) ∧ (g < n4 ∨ h4 ≤ g) from ⟨d1'.1, d2'.1, o1, NQ.out.2.2.2.1, o2, o3⟩)
      obtain ⟨gx', kx', hx1⟩ := O3.form
      obtain ⟨gy', ky', hx2⟩ := O4.form
      rw [hx1] at O3
      rw [hx2] at O4
      have hx3 : slot a 33 = .pointer (some ⟨g, 0, none⟩) := I.fact 12 (by decide) ⟨fun _ => rfl, by decide⟩
      have hfr := frame_of [21, 22, 23, 24, 25, 26, 27, 28, 29, 30, 31, 32, 33, 34] I.size I.defers (fun s hs => I.rest s (rfDsts_spec (by kernel_rfl) hs))
      have hbw := I.below
      have X0 := X.out.sub (M := [(w.heap.size, #[.slice a1 l.length c1, .slice a2 r.length c2, .slice a3 ps.length c3], 27), (w.heap.size + 1, #[.slice none 0 0, .slice none 0 0, .slice none 0 0], 27)]) (List.Sublist.cons_cons _ (List.Sublist.cons_cons _ (List.nil_sublist _)))
      have XA : Kn w w5 [(w.heap.size, #[.slice a1 l.length c1, .slice a2 r.length c2, .slice a3 ps.length c3], 27), (w.heap.size + 1, #[.slice none 0 0, .slice none 0 0, .slice none 0 0], 27)] := ⟨X0.below.trans (hbw.mono (by have := hz1.out; omega)), fun e he => by
        have hlt' : e.1 < w1.heap.size := by have := hz1.out; simp at he; rcases he with rfl | rfl <;> simp <;> omega
        rw [hbw.block _ hlt']
        exact X0.hold e he, X0.high, X0.nodup⟩
      have X := hide (Kn.add XA G1 (by have := hz1.out; have := NQ.out; omega) (by have q1 := hz1.out; have q2 := NQ.out; intro e he; simp at he; rcases he with rfl | rfl <;> simp <;> omega))
      simp only [List.cons_append, List.nil_append] at X
      have O1 := hide O3
      have O2 := hide O4
      clear I lv O3 O4 P3' P4' G1 G2 hL0 hR0 m3 m4 d1' d2' av1 av2 av3 o1 o2 o3 X0 XA hbw NX TT N4
      rw [hfr]
      simp only [List.foldl_cons, List.foldl_nil, List.setIfInBounds_toArray, List.set_cons_succ, List.set_cons_zero, hx1, hx2, hx3]
      clear hfr hx1 hx2 hx3
      generalize slot a 21 = t21
      generalize slot a 22 = t22
      generalize slot a 23 = t23
      generalize slot a 24 = t24
      generalize slot a 25 = t25
      generalize slot a 27 = t27
      generalize slot a 28 = t28
      generalize slot a 29 = t29
      generalize slot a 30 = t30
      generalize slot a 31 = t31
      generalize slot a 34 = t34
      show wpOp _ _ _ 13 _ _ w5
      refine wpOp_step (o := _) rfl fun K' hK => ?_
      rw [if_pos (by go_simp)]
      have c0 := X.out.cell 2 0 rfl rfl
      have u0 := X.out.free 2 0 rfl
      go_simp
      refine hK _ _ ?_
      clear hK K' c0 u0
      have Y := hide (X.out.set 2 0 rfl (.slice gx' L2.length kx'))
      have sg := Seg.setCell w5 g 0 (.slice gx' L2.length kx')
      obtain ⟨q1, q2, q3, q4, q5, q6⟩ := NQ2.out
      have O1 := hide (O1.out.seg sg (by omega))
      have O2 := hide (O2.out.seg sg (by omega))
      clear sg X
      obtain ⟨w6, hw6⟩ : ∃ q, q = w5.setCell ⟨g, 0, none⟩ (.slice gx' L2.length kx') := ⟨_, rfl⟩
      rw [← hw6] at Y O1 O2 ⊢
      clear hw6
      show wpOp _ _ _ 14 _ _ w6
      refine wpOp_step (o := _) rfl fun K' hK => ?_
      rw [if_pos (by go_simp)]
      go_simp
      refine hK _ _ ?_
      clear hK K'
      show wpOp _ _ _ 15 _ _ w6
      refine wpOp_step (o := _) rfl fun K' hK => ?_
      rw [if_pos (by go_simp)]
      have c0 := Y.out.cell 2 1 rfl rfl
      have u0 := Y.out.free 2 1 rfl
      go_simp
      refine hK _ _ ?_
      clear hK K' c0 u0
      have X := hide (Y.out.set 2 1 rfl (.slice gy' R2.length ky'))
      have sg := Seg.setCell w6 g 1 (.slice gy' R2.length ky')
      have O1 := hide (O1.out.seg sg (by omega))
      have O2 := hide (O2.out.seg sg (by omega))
      clear sg Y q1 q2 q3 q4 q5 q6
      obtain ⟨w7, hw7⟩ : ∃ q, q = w6.setCell ⟨g, 1, none⟩ (.slice gy' R2.length ky') := ⟨_, rfl⟩
      rw [← hw7] at X O1 O2 ⊢
      clear hw7
      simp only [rfTail]
      go_wp2_with fail
      go_roundw
      case rel => exact ⟨k + 1, L2, R2, gx', gy', kx', ky', n3, h3, n4, h4, by omega, by go_num, HL1, HR1, X, O1, O2, NQ2⟩
      case measure => simp [intOf]; omega
    · have hke : k = ins.length := by omega
      subst hke
      have HLL := hide (show L = l ++ ins.map (·.1) by rw [HL.out, List.take_of_length_le (Nat.le_refl _)])
      have HRR := hide (show R = r ++ ins.map (·.2) by rw [HR.out, List.take_of_length_le (Nat.le_refl _)])
      clear HL HR
      have x0 := X.out.cell 2 0 rfl rfl
      have x1 := X.out.cell 2 1 rfl rfl
      have x2 := X.out.cell 2 2 rfl rfl
      have y0 := X.out.cell 1 0 rfl rfl
      have y1 := X.out.cell 1 1 rfl rfl
      have y2 := X.out.cell 1 2 rfl rfl
      have f0 := X.out.free 1 0 rfl
      have f1 := X.out.free 1 1 rfl
      have f2 := X.out.free 1 2 rfl
      go_wp2_with fail
      have Y := ((X.out.set 1 0 rfl (.slice gx L.length kx)).set 1 1 rfl (.slice gy R.length ky)).set 1 2 rfl (.slice none 0 0)
      have sg : Seg (w.heap.size + 1) (w.heap.size + 1 + 1) wr (((wr.setCell ⟨w.heap.size + 1, 0, none⟩ (.slice gx L.length kx)).setCell ⟨w.heap.size + 1, 1, none⟩ (.slice gy R.length ky)).setCell ⟨w.heap.size + 1, 2, none⟩ (.slice none 0 0)) := segS3 (Nat.le_refl _) (Nat.lt_succ_self _) _ _ _
      obtain ⟨q1, q2, q3, q4, q5, q6⟩ := NQ.out
      have q0 := hz1.out
      have O1 := O1.out.seg sg (.inr (by omega))
      have O2 := O2.out.seg sg (.inr (by omega))
      have p0 := Y.cell 1 0 rfl rfl
      have p1 := Y.cell 1 1 rfl rfl
      have p2 := Y.cell 1 2 rfl rfl
      have t1 := O1.top
      have t2 := O2.top
      have t3 := O1.le
      have t4 := O2.le
      have t5 := Y.below
      have hfin : Oc (((wr.setCell ⟨w.heap.size + 1, 0, none⟩ (.slice gx L.length kx)).setCell ⟨w.heap.size + 1, 1, none⟩ (.slice gy R.length ky)).setCell ⟨w.heap.size + 1, 2, none⟩ (.slice none 0 0)) (.agg #[.slice gx L.length kx, .slice gy R.length ky, .slice none 0 0]) L R [] w.heap.size (((wr.setCell ⟨w.heap.size + 1, 0, none⟩ (.slice gx L.length kx)).setCell ⟨w.heap.size + 1, 1, none⟩ (.slice gy R.length ky)).setCell ⟨w.heap.size + 1, 2, none⟩ (.slice none 0 0)).heap.size := by
        have O3 := Owp.nil (w := ((wr.setCell ⟨w.heap.size + 1, 0, none⟩ (.slice gx L.length kx)).setCell ⟨w.heap.size + 1, 1, none⟩ (.slice gy R.length ky)).setCell ⟨w.heap.size + 1, 2, none⟩ (.slice none 0 0)) (n := w.heap.size) t5.size
        have t6 := t5.size
        exact ⟨_, _, _, _, _, _, _, _, _, rfl, O1, O2, O3, ⟨by omega, by omega, Nat.le_refl _⟩, ⟨t1, t2, t6⟩, ⟨q3, .inr (by omega), .inr (by omega)⟩, t6, Nat.le_refl _⟩
      clear x0 x1 x2 y0 y1 y2 f0 f1 f2 sg q0 q1 q2 q3 q4 q5 q6 O1 O2 t1 t2 t3 t4
      exact bodyPost_ret (v := .agg #[.slice gx L.length kx, .slice gy R.length ky, .slice none 0 0]) (by simp [results, Try.results90, go_sem, p0, p1, p2]) rfl ⟨_, rfl, (by rw [← HLL.out, ← HRR.out]; exact hfin), t5⟩

end Go.Proofs.Ytajfhalalnlejaa
