/- Several texts in one: CmD, CmI, CmL. -/
import Derived.Test.YtepkkeclkdlheaaMpM
import Derived.Test.YtepkkeclkdlheaaZa
import Derived.Test.YtepkkeclkdlheaaMpB
/- What divide of a carrier does (gen_cmi.py; promise 8). -/
namespace Go.Proofs.Ytepkkeclkdlheaa
open Go.RowKit Go.ChangeShapes
set_option linter.unusedSimpArgs false
set_option linter.unusedVariables false
set_option maxRecDepth 100000

theorem Seg.hold {a b g : Nat} {w w' : World} {c : Obj} (s : Seg a b w w') (h : w.heap[g]? = some c) (d : g < a ∨ b ≤ g) : w'.heap[g]? = some c := by
  have hlt := (Array.getElem?_eq_some_iff.1 h).1
  rcases d with d | d
  · rw [s.below.block g d]; exact h
  · rw [s.over g d hlt]; exact h
theorem hold_below {g : Nat} {w w' : World} {c : Obj} (s : Below w.heap.size w w') (h : w.heap[g]? = some c) : w'.heap[g]? = some c := by
  rw [s.block g (Array.getElem?_eq_some_iff.1 h).1]; exact h

/-- Two elements of a list of the call's own change places, one behind the other. -/
theorem Ow.exch {w : World} {v : Value} {l : List Int} {lo hi i j : Nat} (h : Ow w v l lo hi) (hi' : i < l.length) (hj' : j < l.length) :
    ∃ gt cap x y c t, v = .slice (some ⟨gt, 0, none⟩) l.length cap ∧ lo ≤ gt ∧ gt < hi ∧ w.heap[gt]? = some (.cells c t (0, 0)) ∧
      (w.cell? ⟨gt, i, none⟩ = some (.int .i64 x) ∧ w.cell? ⟨gt, j, none⟩ = some (.int .i64 y) ∧ w.frozen? ⟨gt, i, none⟩ = false) ∧
      ∀ W : World, W.heap[gt]? = some (.cells (c.setIfInBounds i (.int .i64 y)) t (0, 0)) → w.heap.size ≤ W.heap.size → W.frozen? ⟨gt, j, none⟩ = false ∧ (∃ q, W.cell? ⟨gt, j, none⟩ = some q) ∧ Ow (W.setCell ⟨gt, j, none⟩ (.int .i64 x)) v (swapAt l i j) lo hi := by
  obtain ⟨⟨F, ⟨o, rfl⟩, hF⟩, hle, htop⟩ := h
  obtain ⟨a, cap, rfl⟩ := Is.form o
  rcases o.2 with ⟨e, hn⟩ | ⟨g, cap', cur, e, h1, h2, hrest⟩
  · exfalso
    injection e with e1 e2 e3
    omega
  injection e with e1 e2 e3
  subst e1 e3
  have hg := hF g (by simp [Value.ownBlock])
  obtain ⟨ci, fi, gi, gs, -⟩ := o.cell i hi'
  obtain ⟨cj, fj, -⟩ := o.cell j hj'
  have O1 := o.store rfl i (l[j]'hj')
  have O2 := O1.store (by simp) j (l[i]'hi')
  obtain ⟨cj1, fj1, -⟩ := O1.cell j (by simp; exact hj')
  have E1 : swapAt l i j = (l.set i (l[j]'hj')).set j (l[i]'hi') := by simp [swapAt, List.getD, hi', hj']
  refine ⟨g, cap, l[i]'hi', l[j]'hj', _, _, rfl, hg.1, hg.2, h2, ⟨ci, cj, fi⟩, fun W hW hs => ?_⟩
  have hsame : W.heap[g]? = (w.setCell ⟨g, i, none⟩ (.int .i64 (l[j]'hj'))).heap[g]? := by rw [hW, heap_setCell_same w g i _ _ _ h2]
  have hs2 : (W.setCell ⟨g, j, none⟩ (.int .i64 (l[i]'hi'))).heap[g]? = ((w.setCell ⟨g, i, none⟩ (.int .i64 (l[j]'hj'))).setCell ⟨g, j, none⟩ (.int .i64 (l[i]'hi'))).heap[g]? := by
    rw [heap_setCell_same W g j _ _ _ hW, heap_setCell_same _ g j _ _ _ (heap_setCell_same w g i _ _ _ h2)]
  refine ⟨(World.frozen?_of_block (a := ⟨g, j, none⟩) hsame).trans fj1, ⟨_, (World.cell?_of_block (a := ⟨g, j, none⟩) hsame).trans cj1⟩, ?_⟩
  rw [E1]
  have O3 : OI ((w.setCell ⟨g, i, none⟩ (.int .i64 (l[j]'hj'))).setCell ⟨g, j, none⟩ (.int .i64 (l[i]'hi'))) 3 _ _ _ := ⟨O2, rfl⟩
  have sg := Seg.setCell W g j (.int .i64 (l[i]'hi'))
  exact ⟨⟨_, O3.eq (fun b hb => by
    obtain rfl : b = g := by simpa [Value.ownBlock] using hb
    exact hs2), hF⟩, hle, Nat.le_trans htop (Nat.le_trans hs sg.below.size)⟩

/-- A bool is returned; the carrier's column is a new one, its list has turned with it. -/
def RetDiv (w : World) (g : Nat) (s4 : Value) (l r : List Int) (ps : List Pv) (t : List Int) (n2 h2 : Nat) (b : Bool) (e : Ending) (w' : World) : Prop :=
  ∃ y1 y2 y3 lo hi, e = .returned (.bool b) ∧ w'.heap[g]? = some (.cells #[y1, y2, y3, s4] 113 (0, 0)) ∧ Oc w' (.agg #[y1, y2, y3]) l r ps lo hi ∧ Ow w' s4 t n2 h2 ∧ (w.heap.size ≤ lo ∧ hi ≤ w'.heap.size) ∧ ∀ G, G ≤ g → G ≤ n2 → G ≤ w.heap.size → Below G w w'

set_option maxHeartbeats 8000000 in
theorem iDiv_any (g B : Nat) (q1 q2 q3 s4 : Value) (l r : List Int) (ps : List Pv) (t : List Int) (v : Int) (n2 h2 : Nat) (w : World) (hg : w.heap[g]? = some (.cells #[q1, q2, q3, s4] 113 (0, 0))) (hc : Ck w B (.agg #[q1, q2, q3]) l r ps) (hB : B ≤ w.heap.size) (ht : Ow w s4 t n2 h2) (hgn : g < n2 ∨ h2 ≤ g) (k1 : l.length ≤ 1048576) (k2 : r.length ≤ 1048576) (k3 : ps.length ≤ 1048576) (hv : I64 v) (hl : t.length = l.length) :
    Calls Try.prog 86 #[.pointer (some ⟨g, 0, none⟩), .int .i64 v] w (RetDiv w g s4 (crL l r ps v) (crR l r ps v) (crP l r ps v) (swaps t (crS l r ps v)) n2 h2 (crOk l r ps v)) := by
  obtain ⟨a1, c1, a2, c2, a3, c3, e, -⟩ := hc.form
  injection e with e
  injection e with e
  injection e with e1 e
  injection e with e2 e
  injection e with e3 e
  subst e1 e2 e3
  obtain ⟨wl, wr_, wpl, wp⟩ : CkWf l r ps := hc.wf
  have HCK := hide (fun (W : World) (h : Below w.heap.size w W) => iCrack_any _ l r ps v W B (hc.below h hB) (Nat.le_trans hB h.size) k1 k2 k3 hv)
  have HCW := hide (crack_wf l r ps v k1 k2 k3 wl wr_ wp hv)
  have HSI := hide (crS_in (r := r) (ps := ps) (v := v) k1)
  have HLT := hide hl
  obtain ⟨L, hL⟩ : ∃ q, q = crL l r ps v := ⟨_, rfl⟩
  obtain ⟨R, hR⟩ : ∃ q, q = crR l r ps v := ⟨_, rfl⟩
  obtain ⟨P, hP⟩ : ∃ q, q = crP l r ps v := ⟨_, rfl⟩
  obtain ⟨sw, hS⟩ : ∃ q, q = crS l r ps v := ⟨_, rfl⟩
  obtain ⟨ok, hO⟩ : ∃ q, q = crOk l r ps v := ⟨_, rfl⟩
  rw [← hL, ← hR, ← hP, ← hS, ← hO] at HCK
  rw [← hS] at HSI HCW
  rw [← hL, ← hR, ← hP, ← hS, ← hO]
  clear hL hR hP hS hO hc hl wl wr_ wpl wp
  obtain ⟨s4a, s4c, rfl⟩ := ht.form
  have HT := hide ht
  have HG := hide hg
  have d0 : w.cell? ⟨g, 0, none⟩ = some (.slice a1 l.length c1) := cell_of_row w g 0 _ _ (0, 0) hg
  have d1 : w.cell? ⟨g, 1, none⟩ = some (.slice a2 r.length c2) := cell_of_row w g 1 _ _ (0, 0) hg
  have d2 : w.cell? ⟨g, 2, none⟩ = some (.slice a3 ps.length c3) := cell_of_row w g 2 _ _ (0, 0) hg
  have hgs := (Array.getElem?_eq_some_iff.1 hg).1
  clear hg ht
  go_enter Try.func86, Try.ntmps86
  go_wp2_with fail
  go_at_call 145
  refine (HCK.out _ (Below.refl _ _)).mono ?_
  rintro e u1 ⟨v1, v2, v3, sv, lo, hi, n1', h1', n2', h2', n3', h3', slo, shi, rfl, ⟨g1, g2⟩, ⟨g3, g4⟩, oc, os, ap, hb⟩
  have OC1 := Oc.of oc (Nat.le_refl _) (Nat.le_refl _) g3
  have htop := oc.top
  clear oc d0 d1 d2
  obtain ⟨w1, r1, w2, r2, w3, r3, e⟩ := OC1.form
  injection e with e
  injection e with e
  injection e with e1 e
  injection e with e2 e
  injection e with e3 e
  subst e1 e2 e3
  clear e
  obtain ⟨sa, sc, rfl⟩ := os.own.form
  have HG1 := hold_below hb HG.out
  have HT1 := HT.out.below hb
  have htle := HT.out.le
  have httop := HT.out.top
  have hsz := hb.size
  have HBL := hide hb
  clear hb HG HT
  have q9 := os.le
  have q8 := os.top
  have hbl := below1 u1 (.cells #[.slice w1 L.length r1, .slice w2 R.length r2, .slice w3 P.length r3] 25)
  have GD := hide (hold_below hbl HG1)
  have OT := hide (HT1.below hbl)
  have OC1 := hide (OC1.below hbl)
  have OS := hide (os.below hbl)
  have GY := hide (heap_alloc_new u1 (.cells #[.slice w1 L.length r1, .slice w2 R.length r2, .slice w3 P.length r3] 25))
  have HBL := hide (fun (G : Nat) (h : G ≤ w.heap.size) => (HBL.out.mono h).trans (hbl.mono (Nat.le_trans h hsz)))
  clear os HG1 HT1 hbl
  obtain ⟨u2, hu2⟩ : ∃ q, q = u1.alloc (.cells #[.slice w1 L.length r1, .slice w2 R.length r2, .slice w3 P.length r3] 25) := ⟨_, rfl⟩
  obtain ⟨b5, hb5⟩ : ∃ q, q = u1.heap.size := ⟨_, rfl⟩
  have z5 : b5 = u1.heap.size ∧ u2.heap.size = b5 + 1 := by rw [hu2, hb5]; simp
  rw [← hu2] at GD OT OC1 OS GY HBL
  rw [← hb5] at GY
  have HN := hide (show g < w.heap.size ∧ n2 ≤ h2 ∧ h2 ≤ w.heap.size ∧ w.heap.size ≤ lo ∧ lo ≤ hi ∧ hi ≤ b5 ∧ w.heap.size ≤ slo ∧ slo ≤ shi ∧ shi ≤ b5 ∧ (hi ≤ slo ∨ shi ≤ lo) ∧ u2.heap.size = b5 + 1 ∧ (g < n2 ∨ h2 ≤ g) ∧ w.heap.size ≤ b5 by omega)
  clear q9 q8 z5 g1 g2 g3 g4 ap htop htle httop hsz hgs hgn
  go_upto_region 3 with fail
  try rw [← hu2]
  try rw [← hb5]
  clear hu2 hb5

  go_loopw [22] (fun u wr => ∃ (k : Nat), k ≤ sw.length ∧ u = .int .i64 k ∧ Hid (wr.heap[g]? = some (.cells #[.slice a1 l.length c1, .slice a2 r.length c2, .slice a3 ps.length c3, .slice s4a t.length s4c] 113 (0, 0))) ∧ Hid (wr.heap[b5]? = some (.cells #[.slice w1 L.length r1, .slice w2 R.length r2, .slice w3 P.length r3] 25 (0, 0))) ∧ Hid (Ow wr (.slice s4a t.length s4c) (swaps t (sw.take k)) n2 h2) ∧ Hid (Oc wr (.agg #[.slice w1 L.length r1, .slice w2 R.length r2, .slice w3 P.length r3]) L R P lo hi) ∧ Hid (Osw wr (.slice sa sw.length sc) sw slo shi) ∧ Hid (u2.heap.size ≤ wr.heap.size) ∧ Hid (∀ G, G ≤ g → G ≤ n2 → G ≤ w.heap.size → Below G w wr)) (fun u _ => sw.length - (intOf u).toNat)
  case atStart => exact ⟨0, by omega, rfl, GD.out, GY.out, by simpa [Hid, swaps] using OT.out, OC1.out, OS.out, Nat.le_refl _, fun G h1 h2 h3 => HBL.out G h3⟩
  case round =>
    clear GD GY OT OC1 OS HBL
    obtain ⟨k, hk, rfl, GD, GY, OT, OC1, OS, HZ, HBL⟩ := hrel
    have hswl := HCW.out.2.2.2.2.2.2.1
    by_cases hlt : k < sw.length
    · have es := hide (swaps_take t sw k hlt)
      obtain ⟨ad, cap, e, -, -, hcell⟩ := OS.out.own.pvs (Nat.le_refl _) (by omega) HCW.out.2.2.2.2.2.2.2
      simp only [Value.slice.injEq, true_and] at e
      obtain ⟨rfl, -⟩ := e
      obtain ⟨b1, o1, rfl, hb1, hc1, hc2⟩ := hcell k hlt
      have hq := HSI.out sw[k] (List.getElem_mem hlt)
      obtain ⟨x, hx⟩ : ∃ x, x = sw[k].1 := ⟨_, rfl⟩
      obtain ⟨y, hy⟩ : ∃ y, y = sw[k].2 := ⟨_, rfl⟩
      rw [← hx, ← hy] at hq
      rw [← hx] at hc1
      rw [← hy] at hc2
      obtain ⟨ii, rfl⟩ := Int.eq_ofNat_of_zero_le hq.1
      obtain ⟨jj, rfl⟩ := Int.eq_ofNat_of_zero_le (show 0 ≤ y by omega)
      have ES := hide (show swaps t (sw.take (k + 1)) = swapAt (swaps t (sw.take k)) ii jj by rw [es.out, ← hx, ← hy]; rfl)
      have hsl : (swaps t (sw.take k)).length = t.length := swaps_length _ _
      have hlt2 := HLT.out
      obtain ⟨gt, cap, x, y, tcs, tty, e, gl, gh, grow, gread, hex⟩ := OT.out.exch (i := ii) (j := jj) (by omega) (by omega)
      have gs := (Array.getElem?_eq_some_iff.1 grow).1
      simp only [Value.slice.injEq] at e
      obtain ⟨rfl, -, rfl⟩ := e
      have HEX := hide hex
      have HGT := hide (And.intro gl (And.intro gh gs))
      have HRD := hide gread
      have GR := hide grow
      have hij : ii < t.length ∧ jj < t.length := by omega
      clear hcell hx hy es hq hsl hlt2 gl gh gs hex gread grow
      have C1 := hide hc1
      have C2 := hide hc2
      go_upto_region 5 with fail
      clear hc1 hc2
      have GD := hide (hold_below (below1 wr (.cells #[.int .i64 (ii : Int), .int .i64 (jj : Int)] 111)) GD.out)
      have GY := hide (hold_below (below1 wr (.cells #[.int .i64 (ii : Int), .int .i64 (jj : Int)] 111)) GY.out)
      have GS := hide (heap_alloc_new wr (.cells #[.int .i64 (ii : Int), .int .i64 (jj : Int)] 111))
      have HB1 := hide (below1 wr (.cells #[.int .i64 (ii : Int), .int .i64 (jj : Int)] 111))
      have GR0 := GR
      have GR := hide (hold_below (below1 wr (.cells #[.int .i64 (ii : Int), .int .i64 (jj : Int)] 111)) GR.out)
      obtain ⟨u3, hu3⟩ : ∃ q, q = wr.alloc (.cells #[.int .i64 (ii : Int), .int .i64 (jj : Int)] 111) := ⟨_, rfl⟩
      obtain ⟨b9, hb9⟩ : ∃ q, q = wr.heap.size := ⟨_, rfl⟩
      rw [← hu3] at GD GY GS HB1 GR
      rw [← hb9] at GS
      rw [← hu3]
      try rw [← hb9]
      have H9 := hide hb9
      have z3 := hide (show u3.heap.size = b9 + 1 by rw [hu3, hb9]; simp)
      clear hu3 hb9
      refine wp_region_any (by kernel_rfl) ?_
      have NX := hide (show gt < u3.heap.size ∧ g < u3.heap.size ∧ b9 < u3.heap.size ∧ g ≠ gt ∧ b9 ≠ gt by
        have q1 := (Array.getElem?_eq_some_iff.1 GR.out).1
        have q2 := (Array.getElem?_eq_some_iff.1 GD.out).1
        have q3 := (Array.getElem?_eq_some_iff.1 GS.out).1
        have q4 := HN.out
        have q5 := HGT.out
        have q6 := H9.out
        omega)
      refine wpAny_own (w0 := u3) 0 2 (fun i => ([(fun own s W => s 26 = .pointer (some ⟨g, 0, none⟩)),
        (fun own s W => s 27 = .pointer (some ⟨g, 0, none⟩)),
        (fun own s W => s 28 = .pointer (some ⟨g, 3, none⟩)),
        (fun own s W => s 29 = .slice (some ⟨gt, 0, none⟩) t.length s4c),
        (fun own s W => s 30 = .pointer (some ⟨b9, 0, none⟩)),
        (fun own s W => s 31 = .int .i64 (ii : Int)),
        (fun own s W => s 32 = .pointer (some ⟨g, 0, none⟩)),
        (fun own s W => s 33 = .pointer (some ⟨g, 0, none⟩)),
        (fun own s W => s 34 = .pointer (some ⟨g, 3, none⟩)),
        (fun own s W => s 35 = .slice (some ⟨gt, 0, none⟩) t.length s4c),
        (fun own s W => s 36 = .pointer (some ⟨b9, 1, none⟩)),
        (fun own s W => s 37 = .int .i64 (jj : Int)),
        (fun own s W => s 38 = .pointer (some ⟨g, 0, none⟩)),
        (fun own s W => s 39 = .pointer (some ⟨g, 0, none⟩)),
        (fun own s W => s 40 = .pointer (some ⟨g, 3, none⟩)),
        (fun own s W => s 41 = .slice (some ⟨gt, 0, none⟩) t.length s4c),
        (fun own s W => s 42 = .pointer (some ⟨b9, 1, none⟩)),
        (fun own s W => s 43 = .int .i64 (jj : Int)),
        (fun own s W => s 44 = .pointer (some ⟨gt, jj, none⟩)),
        (fun own s W => s 45 = .int .i64 y),
        (fun own s W => s 46 = .pointer (some ⟨g, 0, none⟩)),
        (fun own s W => s 47 = .pointer (some ⟨g, 0, none⟩)),
        (fun own s W => s 48 = .pointer (some ⟨g, 3, none⟩)),
        (fun own s W => s 49 = .slice (some ⟨gt, 0, none⟩) t.length s4c),
        (fun own s W => s 50 = .pointer (some ⟨b9, 0, none⟩)),
        (fun own s W => s 51 = .int .i64 (ii : Int)),
        (fun own s W => s 52 = .pointer (some ⟨gt, ii, none⟩)),
        (fun own s W => s 53 = .int .i64 x),
        (fun own s W => s 54 = .pointer (some ⟨gt, ii, none⟩)),
        (fun own s W => (own gt ∧ W.heap[gt]? = some (.cells (tcs.setIfInBounds ii (.int .i64 y)) tty (0, 0)))),
        (fun own s W => True),
        (fun own s W => True),
        (fun own s W => (own gt ∧ W.heap[gt]? = some (.cells tcs tty (0, 0)))),
        (fun own s W => ((∀ b, b < u3.heap.size → b ≠ gt → own b) ∧ ∀ b, b < u3.heap.size → b ≠ gt → W.heap[b]? = u3.heap[b]?))] : List ((Nat → Prop) → (Nat → Value) → World → Prop)).getD i (fun _ _ _ => True)) [[], [0], [0, 1], [0, 1, 2], [], [4], [], [6], [6, 7], [6, 7, 8], [], [10], [], [12], [12, 13], [12, 13, 14], [], [16], [12, 13, 14, 15, 16, 17], [12, 13, 14, 15, 16, 17, 18], [], [20], [20, 21], [20, 21, 22], [], [24], [20, 21, 22, 23, 24, 25], [20, 21, 22, 23, 24, 25, 26], [0, 1, 2, 3, 4, 5, 6, 7, 8, 9, 12, 13, 14, 15, 16, 17, 18, 19, 20, 21, 22, 23, 24, 25, 26, 27], [0, 1, 2, 3, 4, 5, 6, 7, 8, 9, 12, 13, 14, 15, 16, 17, 18, 19, 20, 21, 22, 23, 24, 25, 26, 27, 28], [0, 1, 2, 3, 4, 5, 6, 7, 8, 9, 10, 11, 12, 13, 14, 15, 16, 17, 18, 19, 20, 21, 22, 23, 24, 25, 26, 27, 28, 29], [0, 1, 2, 3, 4, 5, 6, 7, 8, 9, 10, 11, 12, 13, 14, 15, 16, 17, 18, 19, 20, 21, 22, 23, 24, 25, 26, 27, 28, 29, 30]] [[26], [27], [28], [29], [30], [31], [32], [33], [34], [35], [36], [37], [38], [39], [40], [41], [42], [43], [44], [45], [46], [47], [48], [49], [50], [51], [52], [53], [54], [], [], []] [none, none, none, none, none, none, none, none, none, none, none, none, none, none, none, none, none, none, none, none, none, none, none, none, none, none, none, none, none, some 32, none, none] [[], [0], [1], [2, 33], [], [4, 33], [], [6], [7], [8, 33], [], [10, 33], [], [12], [13], [14, 33], [], [16, 33], [15, 17], [18, 32], [], [20], [21], [22, 33], [], [24, 33], [23, 25], [26, 32], [3, 5], [28, 19, 32], [], []] (fun i b => if i = 32 then b = gt else b ≠ gt ∧ b < u3.heap.size) (by kernel_rfl) (by kernel_rfl) 30 2 rfl (by kernel_rfl) (Nat.zero_le _) ?h0 ?h0a (fun i hi => by rw [List.getD_eq_getElem?_getD, List.getElem?_eq_none (by simpa using hi)]; rfl) ?st ?step ?fin
      case h0 =>
        intro i h1' h2'
        have h1' : 32 ≤ i := h1'
        have h2' : i < 32 + 2 := h2'
        have q5 := NX.out
        rcases (show i = 32 ∨ i = 33 by omega) with rfl | rfl
        · exact ⟨⟨rfl, GR.out⟩, fun b (hb : b = gt) => by omega⟩
        · exact ⟨⟨fun b p1 p2 => ⟨p2, p1⟩, fun b _ _ => rfl⟩, fun b (hb : b ≠ gt ∧ b < u3.heap.size) => ⟨Nat.zero_le _, hb.2⟩⟩
      case h0a =>
        intro i j h1' h2' h3' h4' hne b hb hb'
        have h1' : 32 ≤ i := h1'
        have h2' : i < 32 + 2 := h2'
        have h3' : 32 ≤ j := h3'
        have h4' : j < 32 + 2 := h4'
        rcases (show i = 32 ∨ i = 33 by omega) with rfl | rfl <;> rcases (show j = 32 ∨ j = 33 by omega) with rfl | rfl
        · exact hne rfl
        · exact (show b ≠ gt ∧ b < u3.heap.size from hb').1 (show b = gt from hb)
        · exact (show b ≠ gt ∧ b < u3.heap.size from hb).1 (show b = gt from hb')
        · exact hne rfl
      case st =>
        intro i hi0 hi ow s W W' h hlt' hGW k'
        have hi : i < 32 + 2 := hi
        have hi0 : i < 30 ∨ 32 ≤ i := hi0
        rcases (show i = 0 ∨ i = 1 ∨ i = 2 ∨ i = 3 ∨ i = 4 ∨ i = 5 ∨ i = 6 ∨ i = 7 ∨ i = 8 ∨ i = 9 ∨ i = 10 ∨ i = 11 ∨ i = 12 ∨ i = 13 ∨ i = 14 ∨ i = 15 ∨ i = 16 ∨ i = 17 ∨ i = 18 ∨ i = 19 ∨ i = 20 ∨ i = 21 ∨ i = 22 ∨ i = 23 ∨ i = 24 ∨ i = 25 ∨ i = 26 ∨ i = 27 ∨ i = 28 ∨ i = 29 ∨ i = 32 ∨ i = 33 by omega) with rfl | rfl | rfl | rfl | rfl | rfl | rfl | rfl | rfl | rfl | rfl | rfl | rfl | rfl | rfl | rfl | rfl | rfl | rfl | rfl | rfl | rfl | rfl | rfl | rfl | rfl | rfl | rfl | rfl | rfl | rfl | rfl
        · have h : s 26 = .pointer (some ⟨g, 0, none⟩) := h
          show s 26 = .pointer (some ⟨g, 0, none⟩)
          exact h
        · have h : s 27 = .pointer (some ⟨g, 0, none⟩) := h
          show s 27 = .pointer (some ⟨g, 0, none⟩)
          exact h
        · have h : s 28 = .pointer (some ⟨g, 3, none⟩) := h
          show s 28 = .pointer (some ⟨g, 3, none⟩)
          exact h
        · have h : s 29 = .slice (some ⟨gt, 0, none⟩) t.length s4c := h
          show s 29 = .slice (some ⟨gt, 0, none⟩) t.length s4c
          exact h
        · have h : s 30 = .pointer (some ⟨b9, 0, none⟩) := h
          show s 30 = .pointer (some ⟨b9, 0, none⟩)
          exact h
        · have h : s 31 = .int .i64 (ii : Int) := h
          show s 31 = .int .i64 (ii : Int)
          exact h
        · have h : s 32 = .pointer (some ⟨g, 0, none⟩) := h
          show s 32 = .pointer (some ⟨g, 0, none⟩)
          exact h
        · have h : s 33 = .pointer (some ⟨g, 0, none⟩) := h
          show s 33 = .pointer (some ⟨g, 0, none⟩)
          exact h
        · have h : s 34 = .pointer (some ⟨g, 3, none⟩) := h
          show s 34 = .pointer (some ⟨g, 3, none⟩)
          exact h
        · have h : s 35 = .slice (some ⟨gt, 0, none⟩) t.length s4c := h
          show s 35 = .slice (some ⟨gt, 0, none⟩) t.length s4c
          exact h
        · have h : s 36 = .pointer (some ⟨b9, 1, none⟩) := h
          show s 36 = .pointer (some ⟨b9, 1, none⟩)
          exact h
        · have h : s 37 = .int .i64 (jj : Int) := h
          show s 37 = .int .i64 (jj : Int)
          exact h
        · have h : s 38 = .pointer (some ⟨g, 0, none⟩) := h
          show s 38 = .pointer (some ⟨g, 0, none⟩)
          exact h
        · have h : s 39 = .pointer (some ⟨g, 0, none⟩) := h
          show s 39 = .pointer (some ⟨g, 0, none⟩)
          exact h
        · have h : s 40 = .pointer (some ⟨g, 3, none⟩) := h
          show s 40 = .pointer (some ⟨g, 3, none⟩)
          exact h
        · have h : s 41 = .slice (some ⟨gt, 0, none⟩) t.length s4c := h
          show s 41 = .slice (some ⟨gt, 0, none⟩) t.length s4c
          exact h
        · have h : s 42 = .pointer (some ⟨b9, 1, none⟩) := h
          show s 42 = .pointer (some ⟨b9, 1, none⟩)
          exact h
        · have h : s 43 = .int .i64 (jj : Int) := h
          show s 43 = .int .i64 (jj : Int)
          exact h
        · have h : s 44 = .pointer (some ⟨gt, jj, none⟩) := h
          show s 44 = .pointer (some ⟨gt, jj, none⟩)
          exact h
        · have h : s 45 = .int .i64 y := h
          show s 45 = .int .i64 y
          exact h
        · have h : s 46 = .pointer (some ⟨g, 0, none⟩) := h
          show s 46 = .pointer (some ⟨g, 0, none⟩)
          exact h
        · have h : s 47 = .pointer (some ⟨g, 0, none⟩) := h
          show s 47 = .pointer (some ⟨g, 0, none⟩)
          exact h
        · have h : s 48 = .pointer (some ⟨g, 3, none⟩) := h
          show s 48 = .pointer (some ⟨g, 3, none⟩)
          exact h
        · have h : s 49 = .slice (some ⟨gt, 0, none⟩) t.length s4c := h
          show s 49 = .slice (some ⟨gt, 0, none⟩) t.length s4c
          exact h
        · have h : s 50 = .pointer (some ⟨b9, 0, none⟩) := h
          show s 50 = .pointer (some ⟨b9, 0, none⟩)
          exact h
        · have h : s 51 = .int .i64 (ii : Int) := h
          show s 51 = .int .i64 (ii : Int)
          exact h
        · have h : s 52 = .pointer (some ⟨gt, ii, none⟩) := h
          show s 52 = .pointer (some ⟨gt, ii, none⟩)
          exact h
        · have h : s 53 = .int .i64 x := h
          show s 53 = .int .i64 x
          exact h
        · have h : s 54 = .pointer (some ⟨gt, ii, none⟩) := h
          show s 54 = .pointer (some ⟨gt, ii, none⟩)
          exact h
        · have h : (ow gt ∧ W.heap[gt]? = some (.cells (tcs.setIfInBounds ii (.int .i64 y)) tty (0, 0))) := h
          show (ow gt ∧ W'.heap[gt]? = some (.cells (tcs.setIfInBounds ii (.int .i64 y)) tty (0, 0)))
          exact ⟨h.1, (k'.block _ (hlt' _ h.1) (.inr h.1)).trans h.2⟩
        · have h : (ow gt ∧ W.heap[gt]? = some (.cells tcs tty (0, 0))) := h
          show (ow gt ∧ W'.heap[gt]? = some (.cells tcs tty (0, 0)))
          exact ⟨h.1, (k'.block _ (hlt' _ h.1) (.inr h.1)).trans h.2⟩
        · have h : ((∀ b, b < u3.heap.size → b ≠ gt → ow b) ∧ ∀ b, b < u3.heap.size → b ≠ gt → W.heap[b]? = u3.heap[b]?) := h
          show ((∀ b, b < u3.heap.size → b ≠ gt → ow b) ∧ ∀ b, b < u3.heap.size → b ≠ gt → W'.heap[b]? = u3.heap[b]?)
          exact ⟨h.1, fun b p1 p2 => (k'.block _ (hlt' _ (h.1 b p1 p2)) (.inr (h.1 b p1 p2))).trans (h.2 b p1 p2)⟩
      case step =>
        intro i hi ac W own hb hGW hsz hdf hrest huse hdom hap K HK
        have HK := hide HK
        have HU := hide huse
        have HRS := hide hrest
        clear huse hdom hap hrest hsz hdf
        rcases (show i = 0 ∨ i = 1 ∨ i = 2 ∨ i = 3 ∨ i = 4 ∨ i = 5 ∨ i = 6 ∨ i = 7 ∨ i = 8 ∨ i = 9 ∨ i = 10 ∨ i = 11 ∨ i = 12 ∨ i = 13 ∨ i = 14 ∨ i = 15 ∨ i = 16 ∨ i = 17 ∨ i = 18 ∨ i = 19 ∨ i = 20 ∨ i = 21 ∨ i = 22 ∨ i = 23 ∨ i = 24 ∨ i = 25 ∨ i = 26 ∨ i = 27 ∨ i = 28 ∨ i = 29 by omega) with rfl | rfl | rfl | rfl | rfl | rfl | rfl | rfl | rfl | rfl | rfl | rfl | rfl | rfl | rfl | rfl | rfl | rfl | rfl | rfl | rfl | rfl | rfl | rfl | rfl | rfl | rfl | rfl | rfl | rfl
        · refine wpOp_step (o := _) rfl fun K' hK => ?_
          rw [if_pos (by go_simp)]
          have e0 : ac.tmps.getD 0 undef = .pointer (some ⟨g, 0, none⟩) := (HRS.out 0 (by decide)).trans rfl
          go_simp
          exact hK _ _ (HK.out _ _ ⟨Below.refl _ _, fun b _ _ => rfl, rfl⟩)
        · refine wpOp_step (o := _) rfl fun K' hK => ?_
          rw [if_pos (by go_simp)]
          have e0 : ac.tmps.getD 26 undef = .pointer (some ⟨g, 0, none⟩) := HU.out 0 (by decide)
          go_simp
          exact hK _ _ (HK.out _ _ ⟨Below.refl _ _, fun b _ _ => rfl, rfl⟩)
        · refine wpOp_step (o := _) rfl fun K' hK => ?_
          rw [if_pos (by go_simp)]
          have e0 : ac.tmps.getD 27 undef = .pointer (some ⟨g, 0, none⟩) := HU.out 1 (by decide)
          go_simp
          exact hK _ _ (HK.out _ _ ⟨Below.refl _ _, fun b _ _ => rfl, rfl⟩)
        · refine wpOp_step (o := _) rfl fun K' hK => ?_
          rw [if_pos (by go_simp)]
          have e0 : ac.tmps.getD 28 undef = .pointer (some ⟨g, 3, none⟩) := HU.out 2 (by decide)
          have hr : W.heap[g]? = u3.heap[g]? := (show ((∀ b, b < u3.heap.size → b ≠ gt → own 33 b) ∧ ∀ b, b < u3.heap.size → b ≠ gt → W.heap[b]? = u3.heap[b]?) from HU.out 33 (by decide)).2 g (by have := NX.out; omega) (by have := NX.out; omega)
          have c0 := cell_of_row W g 3 _ _ (0, 0) (hr.trans GD.out)
          clear hr
          go_simp
          exact hK _ _ (HK.out _ _ ⟨Below.refl _ _, fun b _ _ => rfl, rfl⟩)
        · refine wpOp_step (o := _) rfl fun K' hK => ?_
          rw [if_pos (by go_simp)]
          have e0 : ac.tmps.getD 9 undef = .pointer (some ⟨b9, 0, none⟩) := (HRS.out 9 (by decide)).trans rfl
          go_simp
          exact hK _ _ (HK.out _ _ ⟨Below.refl _ _, fun b _ _ => rfl, rfl⟩)
        · refine wpOp_step (o := _) rfl fun K' hK => ?_
          rw [if_pos (by go_simp)]
          have e0 : ac.tmps.getD 30 undef = .pointer (some ⟨b9, 0, none⟩) := HU.out 4 (by decide)
          have hr : W.heap[b9]? = u3.heap[b9]? := (show ((∀ b, b < u3.heap.size → b ≠ gt → own 33 b) ∧ ∀ b, b < u3.heap.size → b ≠ gt → W.heap[b]? = u3.heap[b]?) from HU.out 33 (by decide)).2 b9 (by have := NX.out; omega) (by have := NX.out; omega)
          have c0 := cell_of_row W b9 0 _ _ (0, 0) (hr.trans GS.out)
          clear hr
          go_simp
          exact hK _ _ (HK.out _ _ ⟨Below.refl _ _, fun b _ _ => rfl, rfl⟩)
        · refine wpOp_step (o := _) rfl fun K' hK => ?_
          rw [if_pos (by go_simp)]
          have e0 : ac.tmps.getD 0 undef = .pointer (some ⟨g, 0, none⟩) := (HRS.out 0 (by decide)).trans rfl
          go_simp
          exact hK _ _ (HK.out _ _ ⟨Below.refl _ _, fun b _ _ => rfl, rfl⟩)
        · refine wpOp_step (o := _) rfl fun K' hK => ?_
          rw [if_pos (by go_simp)]
          have e0 : ac.tmps.getD 32 undef = .pointer (some ⟨g, 0, none⟩) := HU.out 6 (by decide)
          go_simp
          exact hK _ _ (HK.out _ _ ⟨Below.refl _ _, fun b _ _ => rfl, rfl⟩)
        · refine wpOp_step (o := _) rfl fun K' hK => ?_
          rw [if_pos (by go_simp)]
          have e0 : ac.tmps.getD 33 undef = .pointer (some ⟨g, 0, none⟩) := HU.out 7 (by decide)
          go_simp
          exact hK _ _ (HK.out _ _ ⟨Below.refl _ _, fun b _ _ => rfl, rfl⟩)
        · refine wpOp_step (o := _) rfl fun K' hK => ?_
          rw [if_pos (by go_simp)]
          have e0 : ac.tmps.getD 34 undef = .pointer (some ⟨g, 3, none⟩) := HU.out 8 (by decide)
          have hr : W.heap[g]? = u3.heap[g]? := (show ((∀ b, b < u3.heap.size → b ≠ gt → own 33 b) ∧ ∀ b, b < u3.heap.size → b ≠ gt → W.heap[b]? = u3.heap[b]?) from HU.out 33 (by decide)).2 g (by have := NX.out; omega) (by have := NX.out; omega)
          have c0 := cell_of_row W g 3 _ _ (0, 0) (hr.trans GD.out)
          clear hr
          go_simp
          exact hK _ _ (HK.out _ _ ⟨Below.refl _ _, fun b _ _ => rfl, rfl⟩)
        · refine wpOp_step (o := _) rfl fun K' hK => ?_
          rw [if_pos (by go_simp)]
          have e0 : ac.tmps.getD 9 undef = .pointer (some ⟨b9, 0, none⟩) := (HRS.out 9 (by decide)).trans rfl
          go_simp
          exact hK _ _ (HK.out _ _ ⟨Below.refl _ _, fun b _ _ => rfl, rfl⟩)
        · refine wpOp_step (o := _) rfl fun K' hK => ?_
          rw [if_pos (by go_simp)]
          have e0 : ac.tmps.getD 36 undef = .pointer (some ⟨b9, 1, none⟩) := HU.out 10 (by decide)
          have hr : W.heap[b9]? = u3.heap[b9]? := (show ((∀ b, b < u3.heap.size → b ≠ gt → own 33 b) ∧ ∀ b, b < u3.heap.size → b ≠ gt → W.heap[b]? = u3.heap[b]?) from HU.out 33 (by decide)).2 b9 (by have := NX.out; omega) (by have := NX.out; omega)
          have c0 := cell_of_row W b9 1 _ _ (0, 0) (hr.trans GS.out)
          clear hr
          go_simp
          exact hK _ _ (HK.out _ _ ⟨Below.refl _ _, fun b _ _ => rfl, rfl⟩)
        · refine wpOp_step (o := _) rfl fun K' hK => ?_
          rw [if_pos (by go_simp)]
          have e0 : ac.tmps.getD 0 undef = .pointer (some ⟨g, 0, none⟩) := (HRS.out 0 (by decide)).trans rfl
          go_simp
          exact hK _ _ (HK.out _ _ ⟨Below.refl _ _, fun b _ _ => rfl, rfl⟩)
        · refine wpOp_step (o := _) rfl fun K' hK => ?_
          rw [if_pos (by go_simp)]
          have e0 : ac.tmps.getD 38 undef = .pointer (some ⟨g, 0, none⟩) := HU.out 12 (by decide)
          go_simp
          exact hK _ _ (HK.out _ _ ⟨Below.refl _ _, fun b _ _ => rfl, rfl⟩)
        · refine wpOp_step (o := _) rfl fun K' hK => ?_
          rw [if_pos (by go_simp)]
          have e0 : ac.tmps.getD 39 undef = .pointer (some ⟨g, 0, none⟩) := HU.out 13 (by decide)
          go_simp
          exact hK _ _ (HK.out _ _ ⟨Below.refl _ _, fun b _ _ => rfl, rfl⟩)
        · refine wpOp_step (o := _) rfl fun K' hK => ?_
          rw [if_pos (by go_simp)]
          have e0 : ac.tmps.getD 40 undef = .pointer (some ⟨g, 3, none⟩) := HU.out 14 (by decide)
          have hr : W.heap[g]? = u3.heap[g]? := (show ((∀ b, b < u3.heap.size → b ≠ gt → own 33 b) ∧ ∀ b, b < u3.heap.size → b ≠ gt → W.heap[b]? = u3.heap[b]?) from HU.out 33 (by decide)).2 g (by have := NX.out; omega) (by have := NX.out; omega)
          have c0 := cell_of_row W g 3 _ _ (0, 0) (hr.trans GD.out)
          clear hr
          go_simp
          exact hK _ _ (HK.out _ _ ⟨Below.refl _ _, fun b _ _ => rfl, rfl⟩)
        · refine wpOp_step (o := _) rfl fun K' hK => ?_
          rw [if_pos (by go_simp)]
          have e0 : ac.tmps.getD 9 undef = .pointer (some ⟨b9, 0, none⟩) := (HRS.out 9 (by decide)).trans rfl
          go_simp
          exact hK _ _ (HK.out _ _ ⟨Below.refl _ _, fun b _ _ => rfl, rfl⟩)
        · refine wpOp_step (o := _) rfl fun K' hK => ?_
          rw [if_pos (by go_simp)]
          have e0 : ac.tmps.getD 42 undef = .pointer (some ⟨b9, 1, none⟩) := HU.out 16 (by decide)
          have hr : W.heap[b9]? = u3.heap[b9]? := (show ((∀ b, b < u3.heap.size → b ≠ gt → own 33 b) ∧ ∀ b, b < u3.heap.size → b ≠ gt → W.heap[b]? = u3.heap[b]?) from HU.out 33 (by decide)).2 b9 (by have := NX.out; omega) (by have := NX.out; omega)
          have c0 := cell_of_row W b9 1 _ _ (0, 0) (hr.trans GS.out)
          clear hr
          go_simp
          exact hK _ _ (HK.out _ _ ⟨Below.refl _ _, fun b _ _ => rfl, rfl⟩)
        · refine wpOp_step (o := _) rfl fun K' hK => ?_
          rw [if_pos (by go_simp)]
          have e0 : ac.tmps.getD 41 undef = .slice (some ⟨gt, 0, none⟩) t.length s4c := HU.out 15 (by decide)
          have e1 : ac.tmps.getD 43 undef = .int .i64 (jj : Int) := HU.out 17 (by decide)
          go_simp
          exact hK _ _ (HK.out _ _ ⟨Below.refl _ _, fun b _ _ => rfl, rfl⟩)
        · refine wpOp_step (o := _) rfl fun K' hK => ?_
          rw [if_pos (by go_simp)]
          have e0 : ac.tmps.getD 44 undef = .pointer (some ⟨gt, jj, none⟩) := HU.out 18 (by decide)
          have hr : W.heap[gt]? = wr.heap[gt]? := by rw [(show (own 32 gt ∧ W.heap[gt]? = some (.cells tcs tty (0, 0))) from HU.out 32 (by decide)).2]; exact GR0.out.symm
          have c0 := (World.cell?_of_block (a := ⟨gt, jj, none⟩) hr).trans HRD.out.2.1
          clear hr
          go_simp
          exact hK _ _ (HK.out _ _ ⟨Below.refl _ _, fun b _ _ => rfl, rfl⟩)
        · refine wpOp_step (o := _) rfl fun K' hK => ?_
          rw [if_pos (by go_simp)]
          have e0 : ac.tmps.getD 0 undef = .pointer (some ⟨g, 0, none⟩) := (HRS.out 0 (by decide)).trans rfl
          go_simp
          exact hK _ _ (HK.out _ _ ⟨Below.refl _ _, fun b _ _ => rfl, rfl⟩)
        · refine wpOp_step (o := _) rfl fun K' hK => ?_
          rw [if_pos (by go_simp)]
          have e0 : ac.tmps.getD 46 undef = .pointer (some ⟨g, 0, none⟩) := HU.out 20 (by decide)
          go_simp
          exact hK _ _ (HK.out _ _ ⟨Below.refl _ _, fun b _ _ => rfl, rfl⟩)
        · refine wpOp_step (o := _) rfl fun K' hK => ?_
          rw [if_pos (by go_simp)]
          have e0 : ac.tmps.getD 47 undef = .pointer (some ⟨g, 0, none⟩) := HU.out 21 (by decide)
          go_simp
          exact hK _ _ (HK.out _ _ ⟨Below.refl _ _, fun b _ _ => rfl, rfl⟩)
        · refine wpOp_step (o := _) rfl fun K' hK => ?_
          rw [if_pos (by go_simp)]
          have e0 : ac.tmps.getD 48 undef = .pointer (some ⟨g, 3, none⟩) := HU.out 22 (by decide)
          have hr : W.heap[g]? = u3.heap[g]? := (show ((∀ b, b < u3.heap.size → b ≠ gt → own 33 b) ∧ ∀ b, b < u3.heap.size → b ≠ gt → W.heap[b]? = u3.heap[b]?) from HU.out 33 (by decide)).2 g (by have := NX.out; omega) (by have := NX.out; omega)
          have c0 := cell_of_row W g 3 _ _ (0, 0) (hr.trans GD.out)
          clear hr
          go_simp
          exact hK _ _ (HK.out _ _ ⟨Below.refl _ _, fun b _ _ => rfl, rfl⟩)
        · refine wpOp_step (o := _) rfl fun K' hK => ?_
          rw [if_pos (by go_simp)]
          have e0 : ac.tmps.getD 9 undef = .pointer (some ⟨b9, 0, none⟩) := (HRS.out 9 (by decide)).trans rfl
          go_simp
          exact hK _ _ (HK.out _ _ ⟨Below.refl _ _, fun b _ _ => rfl, rfl⟩)
        · refine wpOp_step (o := _) rfl fun K' hK => ?_
          rw [if_pos (by go_simp)]
          have e0 : ac.tmps.getD 50 undef = .pointer (some ⟨b9, 0, none⟩) := HU.out 24 (by decide)
          have hr : W.heap[b9]? = u3.heap[b9]? := (show ((∀ b, b < u3.heap.size → b ≠ gt → own 33 b) ∧ ∀ b, b < u3.heap.size → b ≠ gt → W.heap[b]? = u3.heap[b]?) from HU.out 33 (by decide)).2 b9 (by have := NX.out; omega) (by have := NX.out; omega)
          have c0 := cell_of_row W b9 0 _ _ (0, 0) (hr.trans GS.out)
          clear hr
          go_simp
          exact hK _ _ (HK.out _ _ ⟨Below.refl _ _, fun b _ _ => rfl, rfl⟩)
        · refine wpOp_step (o := _) rfl fun K' hK => ?_
          rw [if_pos (by go_simp)]
          have e0 : ac.tmps.getD 49 undef = .slice (some ⟨gt, 0, none⟩) t.length s4c := HU.out 23 (by decide)
          have e1 : ac.tmps.getD 51 undef = .int .i64 (ii : Int) := HU.out 25 (by decide)
          go_simp
          exact hK _ _ (HK.out _ _ ⟨Below.refl _ _, fun b _ _ => rfl, rfl⟩)
        · refine wpOp_step (o := _) rfl fun K' hK => ?_
          rw [if_pos (by go_simp)]
          have e0 : ac.tmps.getD 52 undef = .pointer (some ⟨gt, ii, none⟩) := HU.out 26 (by decide)
          have hr : W.heap[gt]? = wr.heap[gt]? := by rw [(show (own 32 gt ∧ W.heap[gt]? = some (.cells tcs tty (0, 0))) from HU.out 32 (by decide)).2]; exact GR0.out.symm
          have c0 := (World.cell?_of_block (a := ⟨gt, ii, none⟩) hr).trans HRD.out.1
          clear hr
          go_simp
          exact hK _ _ (HK.out _ _ ⟨Below.refl _ _, fun b _ _ => rfl, rfl⟩)
        · refine wpOp_step (o := _) rfl fun K' hK => ?_
          rw [if_pos (by go_simp)]
          have e0 : ac.tmps.getD 29 undef = .slice (some ⟨gt, 0, none⟩) t.length s4c := HU.out 3 (by decide)
          have e1 : ac.tmps.getD 31 undef = .int .i64 (ii : Int) := HU.out 5 (by decide)
          go_simp
          exact hK _ _ (HK.out _ _ ⟨Below.refl _ _, fun b _ _ => rfl, rfl⟩)
        · refine wpOp_step (o := _) rfl fun K' hK => ?_
          rw [if_pos (by go_simp)]
          have e0 : ac.tmps.getD 54 undef = .pointer (some ⟨gt, ii, none⟩) := HU.out 28 (by decide)
          have e1 : ac.tmps.getD 45 undef = .int .i64 y := HU.out 19 (by decide)
          obtain ⟨ho, hr0⟩ : (own 32 gt ∧ W.heap[gt]? = some (.cells tcs tty (0, 0))) := HU.out 32 (by decide)
          have hr : W.heap[gt]? = wr.heap[gt]? := by rw [hr0]; exact GR0.out.symm
          have c0 := (World.cell?_of_block (a := ⟨gt, ii, none⟩) hr).trans HRD.out.1
          have f0 := (World.frozen?_of_block (a := ⟨gt, ii, none⟩) hr).trans HRD.out.2.2
          clear hr
          go_simp
          refine hK _ _ (HK.out undef _ ⟨(Below.refl 0 W).setCell (p := ⟨gt, ii, none⟩) (Nat.zero_le _) _, fun b hb' hno => ?_, ?_⟩)
          · have hn : ¬ own 32 b := hno 32 rfl
            exact Below.heap_setCell _ _ _ _ (by show b ≠ gt; intro e; exact hn (e ▸ ho))
          · exact ⟨.inr ⟨32, rfl, ho⟩, heap_setCell_same W gt ii _ _ _ hr0⟩
      case fin =>
      intro ac wz own I
      have lv : ∀ i, i < 34 → (i < 30 ∨ i = 33) → OLive 32 [none, none, none, none, none, none, none, none, none, none, none, none, none, none, none, none, none, none, none, none, none, none, none, none, none, none, none, none, none, some 32, none, none] (fun i => decide (i < 30)) i := by
        intro i _ h
        have h : i ≠ 32 := by omega
        refine ⟨fun hi => decide_eq_true (by omega), fun k hk _ => ?_⟩
        rcases (show k = 0 ∨ k = 1 ∨ k = 2 ∨ k = 3 ∨ k = 4 ∨ k = 5 ∨ k = 6 ∨ k = 7 ∨ k = 8 ∨ k = 9 ∨ k = 10 ∨ k = 11 ∨ k = 12 ∨ k = 13 ∨ k = 14 ∨ k = 15 ∨ k = 16 ∨ k = 17 ∨ k = 18 ∨ k = 19 ∨ k = 20 ∨ k = 21 ∨ k = 22 ∨ k = 23 ∨ k = 24 ∨ k = 25 ∨ k = 26 ∨ k = 27 ∨ k = 28 ∨ k = 29 ∨ k = 30 ∨ k = 31 by omega) with rfl | rfl | rfl | rfl | rfl | rfl | rfl | rfl | rfl | rfl | rfl | rfl | rfl | rfl | rfl | rfl | rfl | rfl | rfl | rfl | rfl | rfl | rfl | rfl | rfl | rfl | rfl | rfl | rfl | rfl | rfl | rfl <;> simp <;> omega
      have GZ : (own 29 gt ∧ wz.heap[gt]? = some (.cells (tcs.setIfInBounds ii (.int .i64 y)) tty (0, 0))) := I.fact 29 (by decide) (lv 29 (by omega) (by omega))
      have OZ : ((∀ b, b < u3.heap.size → b ≠ gt → own 33 b) ∧ ∀ b, b < u3.heap.size → b ≠ gt → wz.heap[b]? = u3.heap[b]?) := I.fact 33 (by decide) (lv 33 (by omega) (by omega))
      have hbz := I.below
      have F35 : slot ac 35 = .slice (some ⟨gt, 0, none⟩) t.length s4c := I.fact 9 (by decide) (lv 9 (by omega) (by omega))
      have F37 : slot ac 37 = .int .i64 (jj : Int) := I.fact 11 (by decide) (lv 11 (by omega) (by omega))
      have F53 : slot ac 53 = .int .i64 x := I.fact 27 (by decide) (lv 27 (by omega) (by omega))
      rw [frame_of [26, 27, 28, 29, 30, 31, 32, 33, 34, 35, 36, 37, 38, 39, 40, 41, 42, 43, 44, 45, 46, 47, 48, 49, 50, 51, 52, 53, 54, 55] I.size I.defers (fun s hs => I.rest s (rfDsts_spec (by kernel_rfl) hs))]
      simp only [List.foldl_cons, List.foldl_nil, List.setIfInBounds_toArray, List.set_cons_succ, List.set_cons_zero, F35, F37, F53]
      generalize slot ac 26 = t26
      generalize slot ac 27 = t27
      generalize slot ac 28 = t28
      generalize slot ac 29 = t29
      generalize slot ac 30 = t30
      generalize slot ac 31 = t31
      generalize slot ac 32 = t32
      generalize slot ac 33 = t33
      generalize slot ac 34 = t34
      generalize slot ac 36 = t36
      generalize slot ac 38 = t38
      generalize slot ac 39 = t39
      generalize slot ac 40 = t40
      generalize slot ac 41 = t41
      generalize slot ac 42 = t42
      generalize slot ac 43 = t43
      generalize slot ac 44 = t44
      generalize slot ac 45 = t45
      generalize slot ac 46 = t46
      generalize slot ac 47 = t47
      generalize slot ac 48 = t48
      generalize slot ac 49 = t49
      generalize slot ac 50 = t50
      generalize slot ac 51 = t51
      generalize slot ac 52 = t52
      generalize slot ac 54 = t54
      generalize slot ac 55 = t55
      have hzs := hbz.size
      have GZ := GZ.2
      have OZ := OZ.2
      clear I F35 F37 F53 lv
      try clear own ac
      obtain ⟨p4, p5, p6⟩ := HEX.out wz GZ (by have := HB1.out.size; omega)
      obtain ⟨q, p5⟩ := p5
      show wpOp _ _ _ 30 _ _ _
      refine wpOp_step (o := _) rfl fun K' hK => ?_
      rw [if_pos (by go_simp)]
      go_simp
      refine hK _ _ ?_
      clear hK K'
      show wpOp _ _ _ 31 _ _ _
      refine wpOp_step (o := _) rfl fun K' hK => ?_
      rw [if_pos (by go_simp)]
      go_simp
      refine hK _ _ ?_
      clear hK K'
      show Exit.inBlock _ (Exit.then _ _) .normal _ _
      have sg : Seg gt (gt + 1) u3 (wz.setCell ⟨gt, jj, none⟩ (.int .i64 x)) := by
        have h0 := hbz.setCell (p := ⟨gt, jj, none⟩) (Nat.zero_le _) (.int .i64 x)
        have hk : ∀ b, b < u3.heap.size → b ≠ gt → (wz.setCell ⟨gt, jj, none⟩ (.int .i64 x)).heap[b]? = u3.heap[b]? := fun b p1 p2 => (Below.heap_setCell _ _ _ _ p2).trans (OZ b p1 p2)
        exact ⟨⟨h0.os, h0.tape, h0.output, h0.size, fun b hb => hk b (by have := NX.out; omega) (by omega)⟩, fun b p1 p2 => hk b p2 (by omega)⟩
      obtain ⟨w6, hw6⟩ : ∃ q, q = wz.setCell ⟨gt, jj, none⟩ (.int .i64 x) := ⟨_, rfl⟩
      rw [← hw6] at sg p6
      rw [← hw6]
      clear hw6 p4 p5 GZ OZ hbz hzs
      obtain ⟨g1, g2, g3, g4, g5, g6, g7, g8, g9, g10, g11, g12, g13⟩ := HN.out
      obtain ⟨r1_, r2_, r3_⟩ := HGT.out
      have HU := HB1.out.size
      have HW := sg.below.size
      have hz := HZ.out
      have h9 := H9.out
      have GD := hide (sg.hold GD.out (by omega))
      have GY := hide (sg.hold GY.out (by omega))
      have OC1 := hide ((OC1.out.below HB1.out).seg sg (by omega))
      have OS := hide ((OS.out.below HB1.out).seg sg (by omega))
      have HZ := hide (show u2.heap.size ≤ w6.heap.size by omega)
      have HBL := hide (show ∀ G, G ≤ g → G ≤ n2 → G ≤ w.heap.size → Below G w w6 from fun G h1 h2 h3 => ((HBL.out G h1 h2 h3).trans (HB1.out.mono (by omega))).trans (sg.below.mono (by omega)))
      have OT := hide p6
      clear p6 sg g1 g2 g3 g4 g5 g6 g7 g8 g9 g10 g11 g12 g13 r1_ r2_ r3_ HU HW hz h9 HEX HGT GS HB1 H9 z3 C1 C2 NX GR GR0 HRD
      go_wp2_with fail
      go_roundw
      case rel => exact ⟨k + 1, by omega, by go_num, GD.out, GY.out, by rw [ES.out]; exact OT.out, OC1.out, OS.out, HZ.out, HBL.out⟩
      case measure => simp [intOf]; omega
    · obtain rfl : k = sw.length := by omega
      rw [List.take_length] at OT
      have c0 := cell_of_row wr b5 0 _ _ (0, 0) GY.out
      have d0 := cell_of_row wr g 0 _ _ (0, 0) GD.out
      have f0 := frozen_of_row wr g 0 _ _ GD.out
      have c1 := cell_of_row wr b5 1 _ _ (0, 0) GY.out
      have d1 := cell_of_row wr g 1 _ _ (0, 0) GD.out
      have f1 := frozen_of_row wr g 1 _ _ GD.out
      have c2 := cell_of_row wr b5 2 _ _ (0, 0) GY.out
      have d2 := cell_of_row wr g 2 _ _ (0, 0) GD.out
      have f2 := frozen_of_row wr g 2 _ _ GD.out
      go_wp2_with fail
      obtain ⟨g1, g2, g3, g4, g5, g6, g7, g8, g9, g10, g11, g12, g13⟩ := HN.out
      have hz := HZ.out
      have sg : Seg g (g + 1) wr (((wr.setCell ⟨g, 0, none⟩ (.slice w1 L.length r1)).setCell ⟨g, 1, none⟩ (.slice w2 R.length r2)).setCell ⟨g, 2, none⟩ (.slice w3 P.length r3)) := ((Seg.setCell wr g 0 _).trans (Seg.setCell _ g 1 _)).trans (Seg.setCell _ g 2 _)
      have hG := heap_setCell_same _ g 2 _ _ (.slice w3 P.length r3) (heap_setCell_same _ g 1 _ _ (.slice w2 R.length r2) (heap_setCell_same wr g 0 _ _ (.slice w1 L.length r1) GD.out))
      have O1 := OC1.out.seg sg (by omega)
      have O2 := OT.out.seg sg (by omega)
      have hs := sg.below.size
      have hBL := HBL.out
      go_ret
      exact ⟨_, _, _, lo, hi, rfl, by simpa using hG, O1, O2, ⟨by omega, by omega⟩, fun G h1 h2 h3 => (hBL G h1 h2 h3).trans (sg.below.mono h1)⟩

end Go.Proofs.Ytepkkeclkdlheaa

/- What CrackMap of the program returns (gen_cmj.py; promise 8). -/
namespace Go.Proofs.Ytepkkeclkdlheaa
open Go.RowKit Go.ChangeShapes
set_option linter.unusedSimpArgs false
set_option linter.unusedVariables false
set_option maxRecDepth 100000

theorem size4 {c : Array Value} (h : c.size = 4) : ∃ x0 x1 x2 x3, c = #[x0, x1, x2, x3] := by
  match c, h with
  | ⟨[x0, x1, x2, x3]⟩, _ => exact ⟨x0, x1, x2, x3, rfl⟩

theorem heap_put4 {W : World} {g : Nat} {c : Array Value} {t : TypeId} (h : W.heap[g]? = some (.cells c t (0, 0))) (hc : c.size = 4) (u0 u1 u2 u3 : Value) : ((((W.setCell ⟨g, 0, none⟩ u0).setCell ⟨g, 1, none⟩ u1).setCell ⟨g, 2, none⟩ u2).setCell ⟨g, 3, none⟩ u3).heap[g]? = some (.cells #[u0, u1, u2, u3] t (0, 0)) := by
  obtain ⟨x0, x1, x2, x3, rfl⟩ := size4 hc
  have h1 := heap_setCell_same W g 0 _ _ u0 h
  have h2 := heap_setCell_same _ g 1 _ _ u1 h1
  have h3 := heap_setCell_same _ g 2 _ _ u2 h2
  have h4 := heap_setCell_same _ g 3 _ _ u3 h3
  simpa using h4

set_option maxHeartbeats 8000000 in
theorem iCm_any (u : Value) (l r : List Int) (ps : List Pv) (t : List Int) (a v : Int) (w : World) (B : Nat) (hu : Mp w B u l r ps t a) (hB : B ≤ w.heap.size) (k1 : l.length ≤ 1048576) (k2 : r.length ≤ 1048576) (k3 : ps.length ≤ 1048576) (k4 : t.length ≤ 1048576) (hv : I64 v) :
    Calls Try.prog 28 #[u, .int .i64 v] w (RetMpB w (mcL l r ps t a v) (mcR l r ps t a v) (mcP l r ps t a v) (mcT l r ps t a v) a (mcB l r ps t a v)) := by
  obtain ⟨a1, c1, a2, c2, a3, c3, a4, c4, rfl, i1, i2⟩ := hu.form
  have hnil := hu.caps
  have HNL := hide hnil
  have I2 := hide (fun (W : World) (h : Below w.heap.size w W) => i2.below h hB)
  clear hnil
  have V := hide (fun (W : World) (h : Below w.heap.size w W) => hu.below h hB)
  have I1 := hide (fun (W : World) (h : Below w.heap.size w W) => i1.below h hB)
  obtain ⟨⟨wl, wr_, wpl, wp⟩, wt, wa⟩ := hu.wf
  obtain ⟨t1, ht1⟩ : ∃ q, q = isMp l r ps t a := ⟨_, rfl⟩
  obtain ⟨t2, ht2⟩ : ∃ q, q = decide (-1000 ≤ v ∧ v ≤ 1000) := ⟨_, rfl⟩
  obtain ⟨L, hL⟩ : ∃ q, q = mcL l r ps t a v := ⟨_, rfl⟩
  obtain ⟨R, hR⟩ : ∃ q, q = mcR l r ps t a v := ⟨_, rfl⟩
  obtain ⟨P, hP⟩ : ∃ q, q = mcP l r ps t a v := ⟨_, rfl⟩
  obtain ⟨T, hT⟩ : ∃ q, q = mcT l r ps t a v := ⟨_, rfl⟩
  obtain ⟨D, hD⟩ : ∃ q, q = mcB l r ps t a v := ⟨_, rfl⟩
  have HNO := hide (fun (h : (t1 && t2) = false) => show L = l ∧ R = r ∧ P = ps ∧ T = t ∧ D = false by rw [ht1, ht2] at h; rw [hL, hR, hP, hT, hD]; exact mc_no h)
  obtain ⟨sw, hsw⟩ : ∃ q, q = crS l r ps v := ⟨_, rfl⟩
  have HYE := hide (fun (h : t1 = true) => show (L = crL l r ps v ∧ R = crR l r ps v ∧ P = crP l r ps v ∧ T = swaps t sw) ∧ D = t2 ∧ t.length = l.length ∧ crOk l r ps v = t2 by
    rw [ht1] at h
    rw [hL, hR, hP, hT, hD, hsw, ht2]
    refine ⟨mc_yes h, ?_, (isMp_iff.1 h).2.2.1, ?_⟩
    · unfold mcB; rw [h]; rfl
    · unfold crOk; rw [(isMp_iff.1 h).1]; rfl)
  have HCW := hide (crack_wf l r ps v k1 k2 k3 wl wr_ wp hv)
  have HSI := hide (crS_in (r := r) (ps := ps) (v := v) k1)
  rw [← hsw] at HCW HSI
  rw [← hL, ← hR, ← hP, ← hT, ← hD]
  have Ht1 := hide ht1
  have Ht2 := hide ht2
  have HSW := hide hsw
  clear hL hR hP hT hD i1 i2 hu ht1 ht2 wl wr_ wpl wp wt wa hsw
  skip
  have X := hide (Kn.two w #[.slice a1 l.length c1, .slice a2 r.length c2, .slice a3 ps.length c3, .slice a4 t.length c4, .int .i64 a] #[.slice none 0 0, .slice none 0 0, .slice none 0 0, .slice none 0 0, .int .i64 0] 27 27)
  obtain ⟨u0, hu0⟩ : ∃ q, q = (w.alloc (.cells #[.slice a1 l.length c1, .slice a2 r.length c2, .slice a3 ps.length c3, .slice a4 t.length c4, .int .i64 a] 27)).alloc (.cells #[.slice none 0 0, .slice none 0 0, .slice none 0 0, .slice none 0 0, .int .i64 0] 27) := ⟨_, rfl⟩
  rw [← hu0] at X
  have z0 := hide (show u0.heap.size = w.heap.size + 1 + 1 by rw [hu0]; simp)
  have d0 := X.out.cell 0 0 rfl rfl
  have d1 := X.out.cell 0 1 rfl rfl
  have d2 := X.out.cell 0 2 rfl rfl
  have d3 := X.out.cell 0 3 rfl rfl
  have d4 := X.out.cell 0 4 rfl rfl
  go_enter Try.func28, Try.ntmps28
  go_wp2_with fail
  rw [← hu0]
  clear hu0
  go_at_call 26
  refine (iIsMp_any _ l r t ps a _ B (V.out _ X.out.below) (Nat.le_trans hB X.out.below.size)).mono ?_
  rintro e u1 ⟨rfl, hb⟩
  rw [← Ht1.out]
  have X := hide (X.out.up hb)
  have z1 := hide hb.size
  clear hb
  clear d0 d1 d2 d3 d4
  cases t1
  · skip
    have d0 := X.out.cell 0 0 rfl rfl
    have d1 := X.out.cell 0 1 rfl rfl
    have d2 := X.out.cell 0 2 rfl rfl
    have d3 := X.out.cell 0 3 rfl rfl
    have d4 := X.out.cell 0 4 rfl rfl
    go_wp2_with fail
    go_at_call 85
    refine (iMpCopy_any _ l r ps t a _ B (V.out _ X.out.below) (Nat.le_trans hB X.out.below.size) k1 k2 k3 k4).mono ?_
    rintro e u2 ⟨q1, rfl, ⟨y1, y2, y3, x, n1, h1, n2, h2, rfl, o1, o2, p, p6, p7⟩, hb⟩
    obtain ⟨x1, m1, x2, m2, x3, m3, e⟩ := o1.form
    injection e with e
    injection e with e
    injection e with e1 e
    injection e with e2 e
    injection e with e3 e
    subst e1 e2 e3
    clear e
    obtain ⟨x4, m4, rfl⟩ := o2.form
    have X := hide (X.out.up hb)
    have z2 := hide hb.size
    clear hb
    clear d0 d1 d2 d3 d4
    have c0 := X.out.cell 1 0 rfl rfl
    have c1 := X.out.cell 1 1 rfl rfl
    have c2 := X.out.cell 1 2 rfl rfl
    have c3 := X.out.cell 1 3 rfl rfl
    have c4 := X.out.cell 1 4 rfl rfl
    have fc0 := X.out.free 1 0 rfl
    have fc1 := X.out.free 1 1 rfl
    have fc2 := X.out.free 1 2 rfl
    have fc3 := X.out.free 1 3 rfl
    have fc4 := X.out.free 1 4 rfl
    have Z := (((((X.out.set 1 0 rfl (.slice x1 l.length m1)).set 1 1 rfl (.slice x2 r.length m2)).set 1 2 rfl (.slice x3 ps.length m3)).set 1 3 rfl (.slice x4 t.length m4)).set 1 4 rfl (.int .i64 a))
    have v0 := Z.cell 1 0 rfl rfl
    have v1 := Z.cell 1 1 rfl rfl
    have v2 := Z.cell 1 2 rfl rfl
    have v3 := Z.cell 1 3 rfl rfl
    have v4 := Z.cell 1 4 rfl rfl
    have sg : Seg (w.heap.size + 1) (w.heap.size + 1 + 1) u2 (((((u2.setCell ⟨w.heap.size + 1, 0, none⟩ (.slice x1 l.length m1)).setCell ⟨w.heap.size + 1, 1, none⟩ (.slice x2 r.length m2)).setCell ⟨w.heap.size + 1, 2, none⟩ (.slice x3 ps.length m3)).setCell ⟨w.heap.size + 1, 3, none⟩ (.slice x4 t.length m4)).setCell ⟨w.heap.size + 1, 4, none⟩ (.int .i64 a)) := Seg.setCell5 _ _ _ _ _ _ _
    go_wp2_with fail
    have q0 := z0.out
    have q1 := z1.out
    have q2 := z2.out
    obtain ⟨p1, p2, p3, p4, p5⟩ := p
    have O1 := o1.seg sg (.inr (by omega))
    have O2 := o2.seg sg (.inr (by omega))
    obtain ⟨e1, e2, e3, e4, e5⟩ := HNO.out (by simp)
    rw [e1, e2, e3, e4, e5]
    have s1 := O1.top
    have s2 := O2.top
    exact bodyPost_ret (v := .tuple #[.agg #[.slice x1 l.length m1, .slice x2 r.length m2, .slice x3 ps.length m3, .slice x4 t.length m4, .int .i64 a], .bool false]) (by simp [results, Try.results28, go_sem, v0, v1, v2, v3, v4]) rfl ⟨_, rfl, ⟨_, _, _, _, _, _, _, _, rfl, O1, O2, ⟨by omega, by omega, s1.2, s2, p5⟩, Z.below.size, Nat.le_refl _⟩, Z.below⟩
  · skip
    obtain ⟨⟨eL, eR, eP, eT⟩, eD, eTl, eOk⟩ := HYE.out (by simp)
    have HCL := hide (fun (W : World) (h : Below u1.heap.size u1 W) => clone_i a4 c4 t W B (I2.out _ (X.out.below.trans (h.mono X.out.below.size))) HNL.out (Nat.le_trans hB (Nat.le_trans X.out.below.size h.size)) k4)
    have HDV := hide (fun (g : Nat) (s4 : Value) (n2 h2 : Nat) (W : World) (h : Below w.heap.size w W) (hg : W.heap[g]? = some (.cells #[.slice a1 l.length c1, .slice a2 r.length c2, .slice a3 ps.length c3, s4] 113 (0, 0))) (ht : Ow W s4 t n2 h2) (hgn : g < n2 ∨ h2 ≤ g) => show Calls Try.prog 86 #[.pointer (some ⟨g, 0, none⟩), .int .i64 v] W (RetDiv W g s4 L R P T n2 h2 D) by
      rw [eL, eR, eP, eT, HSW.out, eD, ← eOk]
      exact iDiv_any g B _ _ _ s4 l r ps t v n2 h2 W hg (I1.out _ h) (Nat.le_trans hB h.size) ht hgn k1 k2 k3 hv eTl)
    clear eL eR eP eT eD eTl eOk HYE HNO HCW HSI
    go_upto_region 3 with fail
    have X1 := X
    refine wp_region_any (by kernel_rfl) ?_
    refine wpAny_factsT (w0 := u1) (fun i => ([(fun lo hi s W => s 13 = .pointer (some ⟨w.heap.size, 0, none⟩)),
      (fun lo hi s W => s 14 = .agg #[.slice a1 l.length c1, .slice a2 r.length c2, .slice a3 ps.length c3]),
      (fun lo hi s W => s 15 = .pointer (some ⟨w.heap.size, 3, none⟩)),
      (fun lo hi s W => s 16 = .slice a4 t.length c4),
      (fun lo hi s W => Ow W (s 17) t lo hi),
      (fun lo hi s W => ∃ z n m, s 18 = .agg #[.slice a1 l.length c1, .slice a2 r.length c2, .slice a3 ps.length c3, .slice z n m] ∧ s 17 = .slice z n m),
      (fun lo hi s W => ∃ g cs, s 6 = .pointer (some ⟨g, 0, none⟩) ∧ lo ≤ g ∧ g < hi ∧ W.heap[g]? = some (.cells cs 113 (0, 0)) ∧ cs.size = 4),
      (fun lo hi s W => True)] : List (Nat → Nat → (Nat → Value) → World → Prop)).getD i (fun _ _ _ _ => True)) [[], [0], [], [2], [2, 3], [0, 1, 2, 3, 4], [], [0, 1, 2, 3, 4, 5, 6]] [0, 1, 2, 3, 4, 5, 6, 7] [[13], [14], [15], [16], [17], [18, 17], [6], []] [[], [], [], [], [], [], [], []] (by kernel_rfl) (by kernel_rfl) 7 1 rfl (by kernel_rfl) ?st ?step ?fin
    case st =>
      intro i hi lo hi' s W W' h q1 q2 q3 q4 k
      rcases (show i = 0 ∨ i = 1 ∨ i = 2 ∨ i = 3 ∨ i = 4 ∨ i = 5 ∨ i = 6 by omega) with rfl | rfl | rfl | rfl | rfl | rfl | rfl
      · have h : s 13 = .pointer (some ⟨w.heap.size, 0, none⟩) := h
        show s 13 = .pointer (some ⟨w.heap.size, 0, none⟩)
        exact h
      · have h : s 14 = .agg #[.slice a1 l.length c1, .slice a2 r.length c2, .slice a3 ps.length c3] := h
        show s 14 = .agg #[.slice a1 l.length c1, .slice a2 r.length c2, .slice a3 ps.length c3]
        exact h
      · have h : s 15 = .pointer (some ⟨w.heap.size, 3, none⟩) := h
        show s 15 = .pointer (some ⟨w.heap.size, 3, none⟩)
        exact h
      · have h : s 16 = .slice a4 t.length c4 := h
        show s 16 = .slice a4 t.length c4
        exact h
      · have h : Ow W (s 17) t lo hi' := h
        show Ow W' (s 17) t lo hi'
        exact h.on k.size k.own
      · have h : ∃ z n m, s 18 = .agg #[.slice a1 l.length c1, .slice a2 r.length c2, .slice a3 ps.length c3, .slice z n m] ∧ s 17 = .slice z n m := h
        show ∃ z n m, s 18 = .agg #[.slice a1 l.length c1, .slice a2 r.length c2, .slice a3 ps.length c3, .slice z n m] ∧ s 17 = .slice z n m
        exact h
      · have h : ∃ g cs, s 6 = .pointer (some ⟨g, 0, none⟩) ∧ lo ≤ g ∧ g < hi' ∧ W.heap[g]? = some (.cells cs 113 (0, 0)) ∧ cs.size = 4 := h
        show ∃ g cs, s 6 = .pointer (some ⟨g, 0, none⟩) ∧ lo ≤ g ∧ g < hi' ∧ W'.heap[g]? = some (.cells cs 113 (0, 0)) ∧ cs.size = 4
        obtain ⟨g, cs, e1, e2, e3, e4, e5⟩ := h; exact ⟨g, cs, e1, e2, e3, (k.own g e2 e3 (Array.getElem?_eq_some_iff.1 e4).1).trans e4, e5⟩
    case step =>
      intro i hi ac W iv hb hsz hdf hrest hanc hivs hap K HK
      have HK := hide HK
      have HAN := hide hanc
      have HRS := hide hrest
      have XU := hide (X.out.up hb)
      have HB := hide hb
      clear hanc hivs hap hrest hb hsz hdf X
      rcases (show i = 0 ∨ i = 1 ∨ i = 2 ∨ i = 3 ∨ i = 4 ∨ i = 5 ∨ i = 6 by omega) with rfl | rfl | rfl | rfl | rfl | rfl | rfl
      · refine wpOp_step (o := _) rfl fun K' hK => ?_
        rw [if_pos (by go_simp)]
        have e1 : ac.tmps.getD 2 undef = .pointer (some ⟨w.heap.size, 0, none⟩) := (HRS.out 2 (by decide)).trans rfl
        go_simp
        exact hK _ _ (HK.out _ _ ⟨fun _ => ⟨Below.refl _ _, rfl⟩, fun h => absurd rfl h⟩)
      · refine wpOp_step (o := _) rfl fun K' hK => ?_
        rw [if_pos (by go_simp)]
        have e1 : ac.tmps.getD 13 undef = .pointer (some ⟨w.heap.size, 0, none⟩) := HAN.out 0 (by decide)
        have q0 := XU.out.cell 0 0 rfl rfl
        have q1 := XU.out.cell 0 1 rfl rfl
        have q2 := XU.out.cell 0 2 rfl rfl
        go_simp
        exact hK _ _ (HK.out _ _ ⟨fun _ => ⟨Below.refl _ _, rfl⟩, fun h => absurd rfl h⟩)
      · refine wpOp_step (o := _) rfl fun K' hK => ?_
        rw [if_pos (by go_simp)]
        have e1 : ac.tmps.getD 2 undef = .pointer (some ⟨w.heap.size, 0, none⟩) := (HRS.out 2 (by decide)).trans rfl
        go_simp
        exact hK _ _ (HK.out _ _ ⟨fun _ => ⟨Below.refl _ _, rfl⟩, fun h => absurd rfl h⟩)
      · refine wpOp_step (o := _) rfl fun K' hK => ?_
        rw [if_pos (by go_simp)]
        have e1 : ac.tmps.getD 15 undef = .pointer (some ⟨w.heap.size, 3, none⟩) := HAN.out 2 (by decide)
        have q3 := XU.out.cell 0 3 rfl rfl
        go_simp
        exact hK _ _ (HK.out _ _ ⟨fun _ => ⟨Below.refl _ _, rfl⟩, fun h => absurd rfl h⟩)
      · refine wpOp_step (o := _) rfl fun K' hK => ?_
        rw [if_pos (by go_simp)]
        have e1 : ac.tmps.getD 16 undef = .slice a4 t.length c4 := HAN.out 3 (by decide)
        go_simp
        go_at_call 78
        refine (HCL.out _ HB.out).mono ?_
        rintro e W' ⟨vv, rfl, ho, hbb⟩
        exact hK _ _ (HK.out _ _ ⟨fun _ => ⟨hbb, Ow.of ho hbb.size⟩, fun h => absurd rfl h⟩)
      · refine wpOp_step (o := _) rfl fun K' hK => ?_
        rw [if_pos (by go_simp)]
        obtain ⟨x4, m4, e2⟩ := (show Ow W (ac.tmps.getD 17 undef) t _ _ from HAN.out 4 (by decide)).form
        have e1 : ac.tmps.getD 14 undef = .agg #[.slice a1 l.length c1, .slice a2 r.length c2, .slice a3 ps.length c3] := HAN.out 1 (by decide)
        have e2' := e2
        have e1' := e1
        rw [Array.getD_eq_getD_getElem?] at e1' e2'
        go_simp
        exact hK _ _ (HK.out _ _ ⟨fun _ => ⟨Below.refl _ _, ⟨_, _, _, rfl, e2⟩⟩, fun h => absurd rfl h⟩)
      · refine wpOp_step (o := _) rfl fun K' hK => ?_
        rw [if_pos (by go_simp)]
        go_simp
        exact hK _ _ (HK.out _ _ ⟨fun _ => ⟨below1 W _, ⟨W.heap.size, _, rfl, Nat.le_refl _, by simp, heap_alloc_new W _, rfl⟩⟩, fun h => absurd rfl h⟩)
    case fin =>
    intro ac w2 iv I
    have hbY := I.below
    have O2 : Ow w2 (slot ac 17) t (iv 4).1 (iv 4).2 := (I.fact 4 (by decide) rfl).2
    obtain ⟨x4, n4, m4, F18, hx⟩ : ∃ z n m, slot ac 18 = .agg #[.slice a1 l.length c1, .slice a2 r.length c2, .slice a3 ps.length c3, .slice z n m] ∧ slot ac 17 = .slice z n m := (I.fact 5 (by decide) rfl).2
    obtain ⟨g, cs, F6, f2, f3, f4, f5⟩ : ∃ g cs, slot ac 6 = .pointer (some ⟨g, 0, none⟩) ∧ (iv 6).1 ≤ g ∧ g < (iv 6).2 ∧ w2.heap[g]? = some (.cells cs 113 (0, 0)) ∧ cs.size = 4 := (I.fact 6 (by decide) rfl).2
    obtain ⟨iv4a, iv4b, iv4c⟩ := I.ivs 4 (by decide) rfl rfl
    obtain ⟨iv6a, iv6b, iv6c⟩ := I.ivs 6 (by decide) rfl rfl
    have ap := I.apart 4 6 (by decide) (by decide) rfl rfl rfl rfl (by decide)
    rw [hx] at O2
    obtain rfl : n4 = t.length := by
      obtain ⟨x, y, e⟩ := O2.form
      simp only [Value.slice.injEq] at e
      exact e.2.1
    obtain ⟨n2, hn2⟩ : ∃ q, q = (iv 4).1 := ⟨_, rfl⟩
    obtain ⟨h2, hh2⟩ : ∃ q, q = (iv 4).2 := ⟨_, rfl⟩
    rw [← hn2, ← hh2] at O2
    have hgl := (Array.getElem?_eq_some_iff.1 f4).1
    have HN := hide (show u1.heap.size ≤ g ∧ u1.heap.size ≤ n2 ∧ n2 ≤ h2 ∧ (g < n2 ∨ h2 ≤ g) ∧ u1.heap.size ≤ w2.heap.size ∧ g < w2.heap.size ∧ h2 ≤ w2.heap.size by have := hbY.size; omega)
    rw [frame_of [13, 14, 15, 16, 17, 18, 6] I.size I.defers (fun s hs => I.rest s (rfDsts_spec (by kernel_rfl) hs))]
    simp only [List.foldl_cons, List.foldl_nil, List.setIfInBounds_toArray, List.set_cons_succ, List.set_cons_zero, F6, F18]
    generalize slot ac 13 = t13
    generalize slot ac 14 = t14
    generalize slot ac 15 = t15
    generalize slot ac 16 = t16
    generalize slot ac 17 = t17
    clear I F6 F18 hx iv4a iv4b iv4c iv6a iv6b iv6c ap f2 f3 hn2 hh2 hgl
    try clear iv ac
    have G4 := heap_put4 f4 f5 (.slice a1 l.length c1) (.slice a2 r.length c2) (.slice a3 ps.length c3) (.slice x4 t.length m4)
    obtain ⟨b0, b1, b2, b3, rfl⟩ := size4 f5
    have X := hide (X1.out.up hbY)
    have cq0 := cell_of_row w2 g 0 _ _ (0, 0) f4
    have f0' := frozen_of_row w2 g 0 _ _ f4
    have cq1 := cell_of_row w2 g 1 _ _ (0, 0) f4
    have f1' := frozen_of_row w2 g 1 _ _ f4
    have cq2 := cell_of_row w2 g 2 _ _ (0, 0) f4
    have f2' := frozen_of_row w2 g 2 _ _ f4
    have cq3 := cell_of_row w2 g 3 _ _ (0, 0) f4
    have f3' := frozen_of_row w2 g 3 _ _ f4
    show wpOp _ _ _ 7 _ _ _
    refine wpOp_step (o := _) rfl fun K' hK => ?_
    rw [if_pos (by go_simp)]
    go_simp
    refine hK _ _ ?_
    clear hK K'
    show Exit.then _ _ .normal _ _
    have sg : Seg g (g + 1) w2 ((((w2.setCell ⟨g, 0, none⟩ (.slice a1 l.length c1)).setCell ⟨g, 1, none⟩ (.slice a2 r.length c2)).setCell ⟨g, 2, none⟩ (.slice a3 ps.length c3)).setCell ⟨g, 3, none⟩ (.slice x4 t.length m4)) := (((Seg.setCell w2 g 0 _).trans (Seg.setCell _ g 1 _)).trans (Seg.setCell _ g 2 _)).trans (Seg.setCell _ g 3 _)
    obtain ⟨u3, hu3⟩ : ∃ q, q = ((((w2.setCell ⟨g, 0, none⟩ (.slice a1 l.length c1)).setCell ⟨g, 1, none⟩ (.slice a2 r.length c2)).setCell ⟨g, 2, none⟩ (.slice a3 ps.length c3)).setCell ⟨g, 3, none⟩ (.slice x4 t.length m4)) := ⟨_, rfl⟩
    rw [← hu3] at sg G4 ⊢
    clear hu3 cq0 cq1 cq2 cq3 f0' f1' f2' f3' f4 f5
    obtain ⟨g1, g2, g3, g4, g5, g6, g7⟩ := HN.out
    have q0 := z0.out
    have q1 := z1.out
    have X := hide (X.out.seg sg (by omega) (by intro e he; simp at he; rcases he with rfl | rfl <;> simp <;> omega))
    have O2 := hide (O2.seg sg (by omega))
    have hs3 := sg.below.size
    have G4 := hide G4
    have HN := hide (show w.heap.size + 1 < g ∧ w.heap.size + 1 < n2 ∧ (g < n2 ∨ h2 ≤ g) ∧ w.heap.size + 1 < u3.heap.size ∧ h2 ≤ u3.heap.size by omega)
    clear sg g1 g2 g3 g4 g5 g6 g7 q0 q1 hs3 hbY
    go_wp2_with fail
    go_at_call 86
    refine (HDV.out g _ n2 h2 u3 X.out.below G4.out O2.out HN.out.2.2.1).mono ?_
    rintro e u4 ⟨y1, y2, y3, lo, hi, rfl, G5, o1, o2, hlo, hG⟩
    obtain ⟨w1, r1, w2, r2, w3, r3, e⟩ := o1.form
    injection e with e
    injection e with e
    injection e with e1 e
    injection e with e2 e
    injection e with e3 e
    subst e1 e2 e3
    clear e
    obtain ⟨g1, g2, g3, g4, g5⟩ := HN.out
    have hb := hG (w.heap.size + 1 + 1) (by omega) (by omega) (by omega)
    have X := hide (X.out.seg (Seg.of_low hb) (by omega) (by intro e he; simp at he; rcases he with rfl | rfl <;> simp <;> omega))
    have et : T.length = t.length := by
      obtain ⟨x, y, e⟩ := o2.form
      simp only [Value.slice.injEq] at e
      exact e.2.1.symm
    have d0 := cell_of_row u4 g 0 _ _ (0, 0) G5
    have d1 := cell_of_row u4 g 1 _ _ (0, 0) G5
    have d2 := cell_of_row u4 g 2 _ _ (0, 0) G5
    have d3 := cell_of_row u4 g 3 _ _ (0, 0) G5
    have d4 := X.out.cell 0 4 rfl rfl
    have c0 := X.out.cell 1 0 rfl rfl
    have fc0 := X.out.free 1 0 rfl
    have c1 := X.out.cell 1 1 rfl rfl
    have fc1 := X.out.free 1 1 rfl
    have c2 := X.out.cell 1 2 rfl rfl
    have fc2 := X.out.free 1 2 rfl
    have c3 := X.out.cell 1 3 rfl rfl
    have fc3 := X.out.free 1 3 rfl
    have c4 := X.out.cell 1 4 rfl rfl
    have fc4 := X.out.free 1 4 rfl
    have Z := (((((X.out.set 1 0 rfl (.slice w1 L.length r1)).set 1 1 rfl (.slice w2 R.length r2)).set 1 2 rfl (.slice w3 P.length r3)).set 1 3 rfl (.slice x4 t.length m4)).set 1 4 rfl (.int .i64 a))
    have v0 := Z.cell 1 0 rfl rfl
    have v1 := Z.cell 1 1 rfl rfl
    have v2 := Z.cell 1 2 rfl rfl
    have v3 := Z.cell 1 3 rfl rfl
    have v4 := Z.cell 1 4 rfl rfl
    have sg : Seg (w.heap.size + 1) (w.heap.size + 1 + 1) u4 (((((u4.setCell ⟨w.heap.size + 1, 0, none⟩ (.slice w1 L.length r1)).setCell ⟨w.heap.size + 1, 1, none⟩ (.slice w2 R.length r2)).setCell ⟨w.heap.size + 1, 2, none⟩ (.slice w3 P.length r3)).setCell ⟨w.heap.size + 1, 3, none⟩ (.slice x4 t.length m4)).setCell ⟨w.heap.size + 1, 4, none⟩ (.int .i64 a)) := Seg.setCell5 _ _ _ _ _ _ _
    go_wp2_with fail
    have O1 := o1.seg sg (.inr (by omega))
    have O2 := o2.seg sg (.inr (by omega))
    have s1 := O1.top
    have s2 := O2.top
    have s3 := HN.out
    have s4 := O2.le
    have hdis : hi ≤ n2 ∨ h2 ≤ lo := .inr (by have := hlo.1; omega)
    exact bodyPost_ret (v := .tuple #[.agg #[.slice w1 L.length r1, .slice w2 R.length r2, .slice w3 P.length r3, .slice x4 t.length m4, .int .i64 a], .bool D]) (by simp [results, Try.results28, go_sem, v0, v1, v2, v3, v4]) rfl ⟨_, rfl, ⟨_, _, _, _, _, _, _, _, rfl, O1, O2, ⟨by omega, by omega, s1.2, s2, hdis⟩, Z.below.size, Nat.le_refl _⟩, Z.below⟩
    
end Go.Proofs.Ytepkkeclkdlheaa

/- CrackMap: both sides, and what the law wants of its result (promise 8). -/
namespace Go.Proofs.Ytepkkeclkdlheaa
open Go.RowKit Go.ChangeShapes

theorem mc_wf4 {l r : List Int} {ps : List Pv} {t : List Int} {a v : Int} (hb : l.length + r.length + ps.length + t.length ≤ 1048576) (hw : MpWf l r ps t a) (hv : I64 v) :
    ((mcL l r ps t a v).length ≤ 4000000 ∧ (mcR l r ps t a v).length ≤ 4000000 ∧ (mcP l r ps t a v).length ≤ 4000000 ∧ (mcT l r ps t a v).length ≤ 4000000) ∧ MpWf (mcL l r ps t a v) (mcR l r ps t a v) (mcP l r ps t a v) (mcT l r ps t a v) a := by
  obtain ⟨⟨w1, w2, w3, w4⟩, w5, w6⟩ := hw
  obtain ⟨⟨q1, q2, q3, q4⟩, q5, q6, q7, q8⟩ := mc_wf (a := a) (v := v) (by omega : l.length ≤ 1048576) (by omega : r.length ≤ 1048576) (by omega : ps.length ≤ 1048576) w1 w2 w4 w5 (by omega : t.length ≤ 1048576) hv
  exact ⟨⟨by omega, by omega, by omega, by omega⟩, ⟨q5, q6, by omega, q7⟩, q8, w6⟩

end Go.Proofs.Ytepkkeclkdlheaa
