/- Several texts in one: SelC, SelS, SelI, Ans. -/
import Derived.Test.YtkhhlifnbelckaaCb
import Derived.Test.YtkhhlifnbelckaaCc
import Derived.Test.YtkhhlifnbelckaaCd
/- The function literal of SelectRange: it divides the captured column, counts the swaps and tells the place (promise 4). -/
namespace Go.Proofs.Ytkhhlifnbelckaa
open Go.RowKit Go.ChangeShapes
set_option linter.unusedSimpArgs false
set_option linter.unusedVariables false
set_option maxRecDepth 100000

/-- A block of three cells is written anew. -/
theorem Kn.put3 {w W : World} {L : List (Nat × Array Value × TypeId)} (h : Kn w W L) (i : Nat) {g : Nat} {x y z : Value} {t : TypeId} (ho : L[i]? = some (g, #[x, y, z], t)) (a b c : Value) :
    Kn w (((W.setCell ⟨g, 0, none⟩ a).setCell ⟨g, 1, none⟩ b).setCell ⟨g, 2, none⟩ c) (L.set i (g, #[a, b, c], t)) := by
  have hi : i < L.length := (List.getElem?_eq_some_iff.1 ho).1
  have h1 := h.set i 0 ho a
  have h2 := h1.set i 1 (List.getElem?_set_self hi) b
  have h3 := h2.set i 2 (List.getElem?_set_self (by simpa using hi)) c
  simpa using h3

theorem Kn.put1 {w W : World} {L : List (Nat × Array Value × TypeId)} (h : Kn w W L) (i : Nat) {g : Nat} {x : Value} {t : TypeId} (ho : L[i]? = some (g, #[x], t)) (a : Value) :
    Kn w (W.setCell ⟨g, 0, none⟩ a) (L.set i (g, #[a], t)) := by
  have h1 := h.set i 0 ho a
  simpa using h1

theorem Kn.ne {w W : World} {L : List (Nat × Array Value × TypeId)} (h : Kn w W L) (i j : Nat) {g g' : Nat} {c c' : Array Value} {t t' : TypeId} (ho : L[i]? = some (g, c, t)) (ho' : L[j]? = some (g', c', t')) (hij : i ≠ j) : g ≠ g' := by
  intro e
  obtain ⟨hi, e1⟩ := List.getElem?_eq_some_iff.1 ho
  obtain ⟨hj, e2⟩ := List.getElem?_eq_some_iff.1 ho'
  have hl : (L.map (·.1)).length = L.length := List.length_map _
  have h2 := List.pairwise_iff_getElem.1 h.nodup
  rcases Nat.lt_or_gt_of_ne hij with hlt | hlt
  · have := h2 i j (by omega) (by omega) hlt
    simp [e1, e2, e] at this
  · have := h2 j i (by omega) (by omega) hlt
    simp [e1, e2, e] at this

/-- What the function literal leaves: the column in block g is divided at v, the count in block h is greater by the swaps; the place is returned. -/
def RetDv (w0 w : World) (L : List (Nat × Array Value × TypeId)) (i j g h : Nat) (k : Int) (l r : List Int) (ps : List Pv) (n : Nat) (at' : Int) (e : Ending) (w' : World) : Prop :=
  ∃ (k1 k2 k3 lo hi p1 q1 p2 q2 p3 q3 : Nat) (g1 g2 g3 : Option Addr), e = .returned (.int .i64 at') ∧
    Kn w0 w' ((L.set i (g, #[.slice g1 l.length k1, .slice g2 r.length k2, .slice g3 ps.length k3], 27)).set j (h, #[.int .i64 (k + n)], 3)) ∧
    OC w' (.slice g1 l.length k1) (.slice g2 r.length k2) (.slice g3 ps.length k3) l r ps lo hi p1 q1 p2 q2 p3 q3 ∧ w.heap.size ≤ lo ∧ hi ≤ w'.heap.size ∧ w.heap.size ≤ w'.heap.size

set_option maxHeartbeats 8000000 in
theorem iDiv_any (w0 w : World) (L : List (Nat × Array Value × TypeId)) (i j g h : Nat) (k v : Int) (a1 a2 a3 : Option Addr) (c1 c2 c3 : Nat) (l r : List Int) (ps : List Pv) (n : Nat)
    (X : Kn w0 w L) (ho : L[i]? = some (g, #[.slice a1 l.length c1, .slice a2 r.length c2, .slice a3 ps.length c3], 27)) (ho' : L[j]? = some (h, #[.int .i64 k], 3))
    (V : Ck w w.heap.size (.agg #[.slice a1 l.length c1, .slice a2 r.length c2, .slice a3 ps.length c3]) l r ps) (hW : Wf l r ps n) (hn : n ≤ 1048575) (hv : I64 v) (hk : 0 ≤ k ∧ k ≤ 1048576) (hij : i ≠ j) :
    Calls Try.prog 76 #[.int .i64 v, .pointer (some ⟨g, 0, none⟩), .pointer (some ⟨h, 0, none⟩)] w (RetDv w0 w L i j g h k (crL l r ps v) (crR l r ps v) (crP l r ps v) (crS l r ps v).length (fndP (crP l r ps v) v).1) := by
  obtain ⟨W1, S1, -⟩ := crack_Wf hW (by omega) hv
  have C1 := hide (iCrack_any _ l r ps v w w.heap.size V (Nat.le_refl _) hW.1 hW.2.1 (by have := hW.2.2.1; omega) hv)
  obtain ⟨l', hl'⟩ : ∃ q, q = crL l r ps v := ⟨_, rfl⟩
  obtain ⟨r', hr'⟩ : ∃ q, q = crR l r ps v := ⟨_, rfl⟩
  obtain ⟨ps', hps'⟩ : ∃ q, q = crP l r ps v := ⟨_, rfl⟩
  obtain ⟨s', hs'⟩ : ∃ q, q = crS l r ps v := ⟨_, rfl⟩
  obtain ⟨b', hb'⟩ : ∃ q, q = crOk l r ps v := ⟨_, rfl⟩
  rw [← hl', ← hr', ← hps'] at W1 ⊢
  rw [← hs'] at S1 ⊢
  rw [← hl', ← hr', ← hps', ← hs', ← hb'] at C1
  clear hl' hr' hps' hs' hb'
  have F1 := hide (fun (W : World) (x y z : Value) (lo hi p1 q1 p2 q2 p3 q3 : Nat) (o : OC W x y z l' r' ps' lo hi p1 q1 p2 q2 p3 q3) => iFindP_any _ l' r' ps' v W W.heap.size (o.ck W1.2.2.2.1 W1.2.2.2.2.1 (by have := W1.2.2.1; omega) W1.2.2.2.2.2) (Nat.le_refl _))
  obtain ⟨e1, he1⟩ : ∃ q, q = fndP ps' v := ⟨_, rfl⟩
  rw [← he1] at F1 ⊢
  clear he1
  obtain ⟨e1, e1b⟩ := e1
  simp only at F1 ⊢
  have hgh := X.ne i j ho ho' hij
  have hhg : h ≠ g := fun e => hgh e.symm
  have c0 : w.cell? ⟨g, 0, none⟩ = some (.slice a1 l.length c1) := X.cell i 0 ho rfl
  have c1' : w.cell? ⟨g, 1, none⟩ = some (.slice a2 r.length c2) := X.cell i 1 ho rfl
  have c2' : w.cell? ⟨g, 2, none⟩ = some (.slice a3 ps.length c3) := X.cell i 2 ho rfl
  have hlg := hide (X.lt i ho)
  have hlh := hide (X.lt j ho')
  have hLi := hide ho
  have hLj := hide ho'
  have X := hide X
  have hkk := hide hk
  have hSS := hide S1
  clear ho ho' V hW W1 S1 hk
  go_enter Try.func76, Try.ntmps76
  go_wp2_with fail
  go_at_call 13
  refine C1.out.mono ?_
  rintro e w1 ⟨x, y, z, sv, lo, hi, p1, q1, p2, q2, p3, q3, slo, shi, rfl, hlo, hhi, O, S, hss, hb⟩
  obtain ⟨g1, k1, rfl⟩ := O.x.form
  obtain ⟨g2, k2, rfl⟩ := O.y.form
  obtain ⟨g3, k3, rfl⟩ := O.z.own.form
  obtain ⟨sg, sk, rfl⟩ := S.own.form
  have X1 := hide (X.out.up hb)
  have H1 := hide hlo.1
  have O := hide O
  have hb := hide hb.size
  clear hlo hhi hss S c0 c1' c2'
  have XB := hide (X1.out.alloc #[.slice g1 l'.length k1, .slice g2 r'.length k2, .slice g3 ps'.length k3] 27)
  have OB := hide (O.out.below (below1 w1 (.cells #[.slice g1 l'.length k1, .slice g2 r'.length k2, .slice g3 ps'.length k3] 27)))
  obtain ⟨m, hm⟩ : ∃ q, q = w1.heap.size := ⟨_, rfl⟩
  obtain ⟨w2, hw2⟩ : ∃ q, q = w1.alloc (.cells #[.slice g1 l'.length k1, .slice g2 r'.length k2, .slice g3 ps'.length k3] 27) := ⟨_, rfl⟩
  have hmw := hide (show w2.heap.size = m + 1 by rw [hw2, hm]; simp)
  have hmm := hide hm
  rw [← hw2] at XB OB
  rw [← hm] at XB
  go_upto_region 1 with fail
  rw [← hw2]
  rw [← hm]
  have hLi2 := hide (show (L ++ [(m, (#[.slice g1 l'.length k1, .slice g2 r'.length k2, .slice g3 ps'.length k3] : Array Value), 27)])[i]? = some (g, #[.slice a1 l.length c1, .slice a2 r.length c2, .slice a3 ps.length c3], 27) by rw [List.getElem?_append_left (List.getElem?_eq_some_iff.1 hLi.out).1]; exact hLi.out)
  have hLj2 := hide (show (L ++ [(m, (#[.slice g1 l'.length k1, .slice g2 r'.length k2, .slice g3 ps'.length k3] : Array Value), 27)])[j]? = some (h, #[.int .i64 k], 3) by rw [List.getElem?_append_left (List.getElem?_eq_some_iff.1 hLj.out).1]; exact hLj.out)
  have hLm2 := hide (show (L ++ [(m, (#[.slice g1 l'.length k1, .slice g2 r'.length k2, .slice g3 ps'.length k3] : Array Value), 27)])[L.length]? = some (m, #[.slice g1 l'.length k1, .slice g2 r'.length k2, .slice g3 ps'.length k3], 27) by simp)
  have d0 : w2.cell? ⟨m, 0, none⟩ = some (.slice g1 l'.length k1) := XB.out.cell L.length 0 hLm2.out rfl
  have d1 : w2.cell? ⟨m, 1, none⟩ = some (.slice g2 r'.length k2) := XB.out.cell L.length 1 hLm2.out rfl
  have d2 : w2.cell? ⟨m, 2, none⟩ = some (.slice g3 ps'.length k3) := XB.out.cell L.length 2 hLm2.out rfl
  have d3 : w2.cell? ⟨h, 0, none⟩ = some (.int .i64 k) := XB.out.cell j 0 hLj2.out rfl
  have f0 : w2.frozen? ⟨g, 0, none⟩ = false := XB.out.free i 0 hLi2.out
  have f1 : w2.frozen? ⟨g, 1, none⟩ = false := XB.out.free i 1 hLi2.out
  have f2 : w2.frozen? ⟨g, 2, none⟩ = false := XB.out.free i 2 hLi2.out
  have f3 : w2.frozen? ⟨h, 0, none⟩ = false := XB.out.free j 0 hLj2.out
  have e0 : w2.cell? ⟨g, 0, none⟩ = some (.slice a1 l.length c1) := XB.out.cell i 0 hLi2.out rfl
  have e1' : w2.cell? ⟨g, 1, none⟩ = some (.slice a2 r.length c2) := XB.out.cell i 1 hLi2.out rfl
  have e2 : w2.cell? ⟨g, 2, none⟩ = some (.slice a3 ps.length c3) := XB.out.cell i 2 hLi2.out rfl
  have hgm : g ≠ m := by have := hlg.out; have := hb.out; have := hmm.out; omega
  have hmg : m ≠ g := fun e => hgm e.symm
  clear hw2 hm
  go_region
  have hwr : wrap64 (k + (s'.length : Int)) = k + s'.length := by
    have := hkk.out
    have := hSS.out
    exact IntWalk.wrap64_in _ (by omega)
  rw [hwr]
  clear hwr d0 d1 d2 d3 e0 e1' e2 f0 f1 f2 f3
  have hLj3 := hide (show ((L ++ [(m, (#[.slice g1 l'.length k1, .slice g2 r'.length k2, .slice g3 ps'.length k3] : Array Value), 27)]).set i (g, #[.slice g1 l'.length k1, .slice g2 r'.length k2, .slice g3 ps'.length k3], 27))[j]? = some (h, #[.int .i64 k], 3) by rw [List.getElem?_set_ne hij]; exact hLj2.out)
  have XC := hide ((XB.out.put3 i hLi2.out (.slice g1 l'.length k1) (.slice g2 r'.length k2) (.slice g3 ps'.length k3)).put1 j hLj3.out (.int .i64 (k + s'.length))).drew
  have hil := (List.getElem?_eq_some_iff.1 hLi.out).1
  have hjl := (List.getElem?_eq_some_iff.1 hLj.out).1
  have q1 := hlg.out
  have q2 := hlh.out
  have q3 := H1.out
  have OC1 := hide (((OB.out.seg (seg3 w2 g (.slice g1 l'.length k1) (.slice g2 r'.length k2) (.slice g3 ps'.length k3)) (.inr (by omega))).seg (Seg.setCell _ h 0 (.int .i64 (k + s'.length))) (.inr (by omega))).below (Below.refl _ _).drew)
  have hsz := hide (show w.heap.size ≤ ((((w2.setCell ⟨g, 0, none⟩ (.slice g1 l'.length k1)).setCell ⟨g, 1, none⟩ (.slice g2 r'.length k2)).setCell ⟨g, 2, none⟩ (.slice g3 ps'.length k3)).setCell ⟨h, 0, none⟩ (.int .i64 (k + s'.length))).drew.heap.size by have := hb.out; have := hmm.out; have := hmw.out; simp; omega)
  clear q1 q2 q3
  obtain ⟨w3, hw3⟩ : ∃ q, q = ((((w2.setCell ⟨g, 0, none⟩ (.slice g1 l'.length k1)).setCell ⟨g, 1, none⟩ (.slice g2 r'.length k2)).setCell ⟨g, 2, none⟩ (.slice g3 ps'.length k3)).setCell ⟨h, 0, none⟩ (.int .i64 (k + s'.length))).drew := ⟨_, rfl⟩
  rw [← hw3] at XC OC1 hsz ⊢
  clear hw3
  rw [List.set_append_left _ _ hil] at XC
  rw [List.set_append_left _ _ (by rw [List.length_set]; exact hjl)] at XC
  have XD := hide (XC.out.sub (List.sublist_append_left _ _))
  have hg : ((L.set i (g, (#[.slice g1 l'.length k1, .slice g2 r'.length k2, .slice g3 ps'.length k3] : Array Value), 27)).set j (h, #[.int .i64 (k + s'.length)], 3))[i]? = some (g, #[.slice g1 l'.length k1, .slice g2 r'.length k2, .slice g3 ps'.length k3], 27) := by
    rw [List.getElem?_set_ne (fun e => hij e.symm)]
    exact List.getElem?_set_self hil
  have e0 : w3.cell? ⟨g, 0, none⟩ = some (.slice g1 l'.length k1) := XD.out.cell i 0 hg rfl
  have e1' : w3.cell? ⟨g, 1, none⟩ = some (.slice g2 r'.length k2) := XD.out.cell i 1 hg rfl
  have e2 : w3.cell? ⟨g, 2, none⟩ = some (.slice g3 ps'.length k3) := XD.out.cell i 2 hg rfl
  clear hg XC hil hjl
  go_wp2_with fail
  go_at_call 17
  refine (F1.out _ _ _ _ _ _ _ _ _ _ _ _ OC1.out).mono ?_
  rintro e w4 ⟨rfl, hb4⟩
  have XE := hide (XD.out.up hb4)
  have OC2 := hide (OC1.out.below hb4)
  have hs4 := hide (Nat.le_trans hsz.out hb4.size)
  clear hb4 e0 e1' e2
  go_wp2_with fail
  go_ret
  exact ⟨_, _, _, _, _, _, _, _, _, _, _, _, _, _, rfl, XE.out, OC2.out, H1.out, OC2.out.top.2, hs4.out⟩

end Go.Proofs.Ytkhhlifnbelckaa

/- SelectRange of the reference (promise 4). Written by gen_sels.py. -/
namespace Go.Proofs.Ytkhhlifnbelckaa
open Go.RowKit Go.ChangeShapes
set_option linter.unusedSimpArgs false
set_option linter.unusedVariables false
set_option maxRecDepth 100000


set_option maxHeartbeats 8000000 in
theorem sSel_no0 (u : Value) (l r : List Int) (ps : List Pv) (f t : Int) (w : World) (B : Nat) (hv : Ck w B u l r ps) (hB : B ≤ w.heap.size) (hl : l.length ≤ 1048576) (hr : r.length ≤ 1048576) (hp : ps.length ≤ 1048576) (hf : I64 f) (ht : I64 t) (h0 : isCk l r ps = false) :
    Calls Try.prog 24 #[u, .agg #[.int .i64 f, .int .i64 t]] w (RetSel w l r ps 0 0 0) := by
  · skip
    obtain ⟨a1, c1, a2, c2, a3, c3, rfl, i1, i2, i3⟩ := hv.form
    obtain ⟨wl, wr, wpl, wp⟩ := hv.wf
    have V := hide hv
    clear hv i1 i2 i3
    have CK := hide (fun (W : World) (h : Below w.heap.size w W) => show Calls Try.prog 25 #[.agg #[.slice a1 l.length c1, .slice a2 r.length c2, .slice a3 ps.length c3]] W (RetB1 W false) by rw [← h0]; exact sIsCk_any _ l r ps W B (V.out.below h hB) (Nat.le_trans hB h.size))
    have CC := hide (fun (W : World) (h : Below w.heap.size w W) => sCopy_any _ l r ps W B (V.out.below h hB) (Nat.le_trans hB h.size) hl hr hp)
    clear h0 wl wr wpl wp hf ht
    have X := hide (Kn.three w #[.slice a1 l.length c1, .slice a2 r.length c2, .slice a3 ps.length c3] #[.int .i64 f, .int .i64 t] #[.slice none 0 0, .slice none 0 0, .slice none 0 0] 27 43 27)
    obtain ⟨w1, hw1⟩ : ∃ q, q = ((w.alloc (.cells #[.slice a1 l.length c1, .slice a2 r.length c2, .slice a3 ps.length c3] 27)).alloc (.cells #[.int .i64 f, .int .i64 t] 43)).alloc (.cells #[.slice none 0 0, .slice none 0 0, .slice none 0 0] 27) := ⟨_, rfl⟩
    have N0 := hide (show w1.heap.size = w.heap.size + 1 + 1 + 1 by rw [hw1]; simp)
    rw [← hw1] at X
    have c00 : w1.cell? ⟨w.heap.size, 0, none⟩ = some (.slice a1 l.length c1) := X.out.cell 0 0 rfl rfl
    have c01 : w1.cell? ⟨w.heap.size, 1, none⟩ = some (.slice a2 r.length c2) := X.out.cell 0 1 rfl rfl
    have c02 : w1.cell? ⟨w.heap.size, 2, none⟩ = some (.slice a3 ps.length c3) := X.out.cell 0 2 rfl rfl
    have c10 : w1.cell? ⟨w.heap.size + 1, 0, none⟩ = some (.int .i64 f) := X.out.cell 1 0 rfl rfl
    have c11 : w1.cell? ⟨w.heap.size + 1, 1, none⟩ = some (.int .i64 t) := X.out.cell 1 1 rfl rfl
    have c20 : w1.cell? ⟨w.heap.size + 1 + 1, 0, none⟩ = some (.slice none 0 0) := X.out.cell 2 0 rfl rfl
    have c21 : w1.cell? ⟨w.heap.size + 1 + 1, 1, none⟩ = some (.slice none 0 0) := X.out.cell 2 1 rfl rfl
    have c22 : w1.cell? ⟨w.heap.size + 1 + 1, 2, none⟩ = some (.slice none 0 0) := X.out.cell 2 2 rfl rfl
    rw [hw1] at c00 c01 c02 c10 c11 c20 c21 c22
    go_enter Try.func24, Try.ntmps24
    go_wp2_with fail
    rw [← hw1]
    clear hw1 c00 c01 c02 c10 c11 c20 c21 c22
    go_at_call 25
    refine (CK.out _ X.out.below).mono ?_
    rintro e w2 ⟨rfl, hb⟩
    have X := hide (X.out.up hb)
    have N1 := hide hb.size
    clear hb
    have c00 : w2.cell? ⟨w.heap.size, 0, none⟩ = some (.slice a1 l.length c1) := X.out.cell 0 0 rfl rfl
    have c01 : w2.cell? ⟨w.heap.size, 1, none⟩ = some (.slice a2 r.length c2) := X.out.cell 0 1 rfl rfl
    have c02 : w2.cell? ⟨w.heap.size, 2, none⟩ = some (.slice a3 ps.length c3) := X.out.cell 0 2 rfl rfl
    have c10 : w2.cell? ⟨w.heap.size + 1, 0, none⟩ = some (.int .i64 f) := X.out.cell 1 0 rfl rfl
    have c11 : w2.cell? ⟨w.heap.size + 1, 1, none⟩ = some (.int .i64 t) := X.out.cell 1 1 rfl rfl
    have c20 : w2.cell? ⟨w.heap.size + 1 + 1, 0, none⟩ = some (.slice none 0 0) := X.out.cell 2 0 rfl rfl
    have c21 : w2.cell? ⟨w.heap.size + 1 + 1, 1, none⟩ = some (.slice none 0 0) := X.out.cell 2 1 rfl rfl
    have c22 : w2.cell? ⟨w.heap.size + 1 + 1, 2, none⟩ = some (.slice none 0 0) := X.out.cell 2 2 rfl rfl
    go_wp2_with fail
    clear c00 c01 c02 c10 c11 c20 c21 c22
    go_at_call 62
    refine (CC.out _ X.out.below).mono ?_
    rintro e w3 ⟨x, y, z, loC, hiC, p1, q1, p2, q2, p3, q3, rfl, hlo, hhi, CC', hb⟩
    have HC := hide hlo
    have CD := CC'
    obtain ⟨gC1, kC1, rfl⟩ := CD.x.form
    obtain ⟨gC2, kC2, rfl⟩ := CD.y.form
    obtain ⟨gC3, kC3, rfl⟩ := CD.z.own.form
    have CD := hide CC'
    clear hlo hhi CC'
    have X := hide (X.out.up hb)
    have N2 := hide hb.size
    clear hb
    have f0' := X.out.free 2 0 rfl
    have f1' := X.out.free 2 1 rfl
    have f2' := X.out.free 2 2 rfl
    have c00 : w3.cell? ⟨w.heap.size, 0, none⟩ = some (.slice a1 l.length c1) := X.out.cell 0 0 rfl rfl
    have c01 : w3.cell? ⟨w.heap.size, 1, none⟩ = some (.slice a2 r.length c2) := X.out.cell 0 1 rfl rfl
    have c02 : w3.cell? ⟨w.heap.size, 2, none⟩ = some (.slice a3 ps.length c3) := X.out.cell 0 2 rfl rfl
    have c10 : w3.cell? ⟨w.heap.size + 1, 0, none⟩ = some (.int .i64 f) := X.out.cell 1 0 rfl rfl
    have c11 : w3.cell? ⟨w.heap.size + 1, 1, none⟩ = some (.int .i64 t) := X.out.cell 1 1 rfl rfl
    have c20 : w3.cell? ⟨w.heap.size + 1 + 1, 0, none⟩ = some (.slice none 0 0) := X.out.cell 2 0 rfl rfl
    have c21 : w3.cell? ⟨w.heap.size + 1 + 1, 1, none⟩ = some (.slice none 0 0) := X.out.cell 2 1 rfl rfl
    have c22 : w3.cell? ⟨w.heap.size + 1 + 1, 2, none⟩ = some (.slice none 0 0) := X.out.cell 2 2 rfl rfl
    go_wp2_with fail
    clear c00 c01 c02 c10 c11 c20 c21 c22
    have Z := ((X.out.set 2 0 rfl (.slice gC1 l.length kC1)).set 2 1 rfl (.slice gC2 r.length kC2)).set 2 2 rfl (.slice gC3 ps.length kC3)
    have z0 := Z.cell 2 0 rfl rfl
    have z1 := Z.cell 2 1 rfl rfl
    have z2 := Z.cell 2 2 rfl rfl
    have qN0 := N0.out
    have qN1 := N1.out
    have qN2 := N2.out
    have qHC := HC.out
    have O9 := CD.out.seg (seg3 _ (w.heap.size + 1 + 1) (.slice gC1 l.length kC1) (.slice gC2 r.length kC2) (.slice gC3 ps.length kC3)) (.inr (by omega))
    exact bodyPost_ret (v := .tuple #[.agg #[.slice gC1 l.length kC1, .slice gC2 r.length kC2, .slice gC3 ps.length kC3], .int .i64 0, .int .i64 0, .int .i64 0]) (by simp [results, Try.results24, go_sem, z0, z1, z2]) rfl
      ⟨_, _, _, loC, hiC, _, _, _, _, _, _, rfl, by omega, O9.top.2, O9, Z.below⟩

set_option maxHeartbeats 8000000 in
theorem sSel_no1 (u : Value) (l r : List Int) (ps : List Pv) (f t : Int) (w : World) (B : Nat) (hv : Ck w B u l r ps) (hB : B ≤ w.heap.size) (hl : l.length ≤ 1048576) (hr : r.length ≤ 1048576) (hp : ps.length ≤ 1048576) (hf : I64 f) (ht : I64 t) (h0 : isCk l r ps = true) (h1 : isR f t = false) :
    Calls Try.prog 24 #[u, .agg #[.int .i64 f, .int .i64 t]] w (RetSel w l r ps 0 0 0) := by
  · skip
    obtain ⟨a1, c1, a2, c2, a3, c3, rfl, i1, i2, i3⟩ := hv.form
    obtain ⟨wl, wr, wpl, wp⟩ := hv.wf
    have V := hide hv
    clear hv i1 i2 i3
    have CK := hide (fun (W : World) (h : Below w.heap.size w W) => show Calls Try.prog 25 #[.agg #[.slice a1 l.length c1, .slice a2 r.length c2, .slice a3 ps.length c3]] W (RetB1 W true) by rw [← h0]; exact sIsCk_any _ l r ps W B (V.out.below h hB) (Nat.le_trans hB h.size))
    have CC := hide (fun (W : World) (h : Below w.heap.size w W) => sCopy_any _ l r ps W B (V.out.below h hB) (Nat.le_trans hB h.size) hl hr hp)
    have CR := hide (fun (W : World) => sIsR_at h1 W)
    clear h0 wl wr wpl wp hf ht h1
    have X := hide (Kn.three w #[.slice a1 l.length c1, .slice a2 r.length c2, .slice a3 ps.length c3] #[.int .i64 f, .int .i64 t] #[.slice none 0 0, .slice none 0 0, .slice none 0 0] 27 43 27)
    obtain ⟨w1, hw1⟩ : ∃ q, q = ((w.alloc (.cells #[.slice a1 l.length c1, .slice a2 r.length c2, .slice a3 ps.length c3] 27)).alloc (.cells #[.int .i64 f, .int .i64 t] 43)).alloc (.cells #[.slice none 0 0, .slice none 0 0, .slice none 0 0] 27) := ⟨_, rfl⟩
    have N0 := hide (show w1.heap.size = w.heap.size + 1 + 1 + 1 by rw [hw1]; simp)
    rw [← hw1] at X
    have c00 : w1.cell? ⟨w.heap.size, 0, none⟩ = some (.slice a1 l.length c1) := X.out.cell 0 0 rfl rfl
    have c01 : w1.cell? ⟨w.heap.size, 1, none⟩ = some (.slice a2 r.length c2) := X.out.cell 0 1 rfl rfl
    have c02 : w1.cell? ⟨w.heap.size, 2, none⟩ = some (.slice a3 ps.length c3) := X.out.cell 0 2 rfl rfl
    have c10 : w1.cell? ⟨w.heap.size + 1, 0, none⟩ = some (.int .i64 f) := X.out.cell 1 0 rfl rfl
    have c11 : w1.cell? ⟨w.heap.size + 1, 1, none⟩ = some (.int .i64 t) := X.out.cell 1 1 rfl rfl
    have c20 : w1.cell? ⟨w.heap.size + 1 + 1, 0, none⟩ = some (.slice none 0 0) := X.out.cell 2 0 rfl rfl
    have c21 : w1.cell? ⟨w.heap.size + 1 + 1, 1, none⟩ = some (.slice none 0 0) := X.out.cell 2 1 rfl rfl
    have c22 : w1.cell? ⟨w.heap.size + 1 + 1, 2, none⟩ = some (.slice none 0 0) := X.out.cell 2 2 rfl rfl
    rw [hw1] at c00 c01 c02 c10 c11 c20 c21 c22
    go_enter Try.func24, Try.ntmps24
    go_wp2_with fail
    rw [← hw1]
    clear hw1 c00 c01 c02 c10 c11 c20 c21 c22
    go_at_call 25
    refine (CK.out _ X.out.below).mono ?_
    rintro e w2 ⟨rfl, hb⟩
    have X := hide (X.out.up hb)
    have N1 := hide hb.size
    clear hb
    have c00 : w2.cell? ⟨w.heap.size, 0, none⟩ = some (.slice a1 l.length c1) := X.out.cell 0 0 rfl rfl
    have c01 : w2.cell? ⟨w.heap.size, 1, none⟩ = some (.slice a2 r.length c2) := X.out.cell 0 1 rfl rfl
    have c02 : w2.cell? ⟨w.heap.size, 2, none⟩ = some (.slice a3 ps.length c3) := X.out.cell 0 2 rfl rfl
    have c10 : w2.cell? ⟨w.heap.size + 1, 0, none⟩ = some (.int .i64 f) := X.out.cell 1 0 rfl rfl
    have c11 : w2.cell? ⟨w.heap.size + 1, 1, none⟩ = some (.int .i64 t) := X.out.cell 1 1 rfl rfl
    have c20 : w2.cell? ⟨w.heap.size + 1 + 1, 0, none⟩ = some (.slice none 0 0) := X.out.cell 2 0 rfl rfl
    have c21 : w2.cell? ⟨w.heap.size + 1 + 1, 1, none⟩ = some (.slice none 0 0) := X.out.cell 2 1 rfl rfl
    have c22 : w2.cell? ⟨w.heap.size + 1 + 1, 2, none⟩ = some (.slice none 0 0) := X.out.cell 2 2 rfl rfl
    go_wp2_with fail
    clear c00 c01 c02 c10 c11 c20 c21 c22
    go_at_call 26
    refine (CR.out _).mono ?_
    rintro e w3 ⟨rfl, hb⟩
    have X := hide (X.out.up hb)
    have N2 := hide hb.size
    clear hb
    have c00 : w3.cell? ⟨w.heap.size, 0, none⟩ = some (.slice a1 l.length c1) := X.out.cell 0 0 rfl rfl
    have c01 : w3.cell? ⟨w.heap.size, 1, none⟩ = some (.slice a2 r.length c2) := X.out.cell 0 1 rfl rfl
    have c02 : w3.cell? ⟨w.heap.size, 2, none⟩ = some (.slice a3 ps.length c3) := X.out.cell 0 2 rfl rfl
    have c10 : w3.cell? ⟨w.heap.size + 1, 0, none⟩ = some (.int .i64 f) := X.out.cell 1 0 rfl rfl
    have c11 : w3.cell? ⟨w.heap.size + 1, 1, none⟩ = some (.int .i64 t) := X.out.cell 1 1 rfl rfl
    have c20 : w3.cell? ⟨w.heap.size + 1 + 1, 0, none⟩ = some (.slice none 0 0) := X.out.cell 2 0 rfl rfl
    have c21 : w3.cell? ⟨w.heap.size + 1 + 1, 1, none⟩ = some (.slice none 0 0) := X.out.cell 2 1 rfl rfl
    have c22 : w3.cell? ⟨w.heap.size + 1 + 1, 2, none⟩ = some (.slice none 0 0) := X.out.cell 2 2 rfl rfl
    go_wp2_with fail
    clear c00 c01 c02 c10 c11 c20 c21 c22
    go_at_call 62
    refine (CC.out _ X.out.below).mono ?_
    rintro e w4 ⟨x, y, z, loC, hiC, p1, q1, p2, q2, p3, q3, rfl, hlo, hhi, CC', hb⟩
    have HC := hide hlo
    have CD := CC'
    obtain ⟨gC1, kC1, rfl⟩ := CD.x.form
    obtain ⟨gC2, kC2, rfl⟩ := CD.y.form
    obtain ⟨gC3, kC3, rfl⟩ := CD.z.own.form
    have CD := hide CC'
    clear hlo hhi CC'
    have X := hide (X.out.up hb)
    have N3 := hide hb.size
    clear hb
    have f0' := X.out.free 2 0 rfl
    have f1' := X.out.free 2 1 rfl
    have f2' := X.out.free 2 2 rfl
    have c00 : w4.cell? ⟨w.heap.size, 0, none⟩ = some (.slice a1 l.length c1) := X.out.cell 0 0 rfl rfl
    have c01 : w4.cell? ⟨w.heap.size, 1, none⟩ = some (.slice a2 r.length c2) := X.out.cell 0 1 rfl rfl
    have c02 : w4.cell? ⟨w.heap.size, 2, none⟩ = some (.slice a3 ps.length c3) := X.out.cell 0 2 rfl rfl
    have c10 : w4.cell? ⟨w.heap.size + 1, 0, none⟩ = some (.int .i64 f) := X.out.cell 1 0 rfl rfl
    have c11 : w4.cell? ⟨w.heap.size + 1, 1, none⟩ = some (.int .i64 t) := X.out.cell 1 1 rfl rfl
    have c20 : w4.cell? ⟨w.heap.size + 1 + 1, 0, none⟩ = some (.slice none 0 0) := X.out.cell 2 0 rfl rfl
    have c21 : w4.cell? ⟨w.heap.size + 1 + 1, 1, none⟩ = some (.slice none 0 0) := X.out.cell 2 1 rfl rfl
    have c22 : w4.cell? ⟨w.heap.size + 1 + 1, 2, none⟩ = some (.slice none 0 0) := X.out.cell 2 2 rfl rfl
    go_wp2_with fail
    clear c00 c01 c02 c10 c11 c20 c21 c22
    have Z := ((X.out.set 2 0 rfl (.slice gC1 l.length kC1)).set 2 1 rfl (.slice gC2 r.length kC2)).set 2 2 rfl (.slice gC3 ps.length kC3)
    have z0 := Z.cell 2 0 rfl rfl
    have z1 := Z.cell 2 1 rfl rfl
    have z2 := Z.cell 2 2 rfl rfl
    have qN0 := N0.out
    have qN1 := N1.out
    have qN2 := N2.out
    have qN3 := N3.out
    have qHC := HC.out
    have O9 := CD.out.seg (seg3 _ (w.heap.size + 1 + 1) (.slice gC1 l.length kC1) (.slice gC2 r.length kC2) (.slice gC3 ps.length kC3)) (.inr (by omega))
    exact bodyPost_ret (v := .tuple #[.agg #[.slice gC1 l.length kC1, .slice gC2 r.length kC2, .slice gC3 ps.length kC3], .int .i64 0, .int .i64 0, .int .i64 0]) (by simp [results, Try.results24, go_sem, z0, z1, z2]) rfl
      ⟨_, _, _, loC, hiC, _, _, _, _, _, _, rfl, by omega, O9.top.2, O9, Z.below⟩

set_option maxHeartbeats 8000000 in
theorem sSel_yes (u : Value) (l r : List Int) (ps : List Pv) (f t : Int) (w : World) (B : Nat) (hv : Ck w B u l r ps) (hB : B ≤ w.heap.size) (hl : l.length ≤ 1048576) (hr : r.length ≤ 1048576) (hp : ps.length ≤ 1048576) (hf : I64 f) (ht : I64 t) (h0 : isCk l r ps = true) (h1 : isR f t = true) :
    Calls Try.prog 24 #[u, .agg #[.int .i64 f, .int .i64 t]] w (RetSel w (crL (crL l r ps f) (crR l r ps f) (crP l r ps f) t) (crR (crL l r ps f) (crR l r ps f) (crP l r ps f) t) (crP (crL l r ps f) (crR l r ps f) (crP l r ps f) t) (fndP (crP (crL l r ps f) (crR l r ps f) (crP l r ps f) t) f).1 (fndP (crP (crL l r ps f) (crR l r ps f) (crP l r ps f) t) t).1 ((crS l r ps f).length + (crS (crL l r ps f) (crR l r ps f) (crP l r ps f) t).length : Nat)) := by
  · skip
    obtain ⟨a1, c1, a2, c2, a3, c3, rfl, i1, i2, i3⟩ := hv.form
    obtain ⟨wl, wr, wpl, wp⟩ := hv.wf
    have V := hide hv
    clear hv i1 i2 i3
    have CK := hide (fun (W : World) (h : Below w.heap.size w W) => show Calls Try.prog 25 #[.agg #[.slice a1 l.length c1, .slice a2 r.length c2, .slice a3 ps.length c3]] W (RetB1 W true) by rw [← h0]; exact sIsCk_any _ l r ps W B (V.out.below h hB) (Nat.le_trans hB h.size))
    have CR := hide (fun (W : World) => sIsR_at h1 W)
    obtain ⟨W1, S1, T1⟩ := crack_Wf (wf_ck (n := 1048576) ⟨hl, hr, hp, wl, wr, wp⟩ h0) (by omega) hf
    obtain ⟨W2, S2, T2⟩ := crack_Wf W1 (by omega) ht
    have C1 := hide (fun (W : World) (h : Below w.heap.size w W) => sCrack_any _ l r ps f W B (V.out.below h hB) (Nat.le_trans hB h.size) hl hr hp hf)
    obtain ⟨L1, hL1⟩ : ∃ q, q = crL l r ps f := ⟨_, rfl⟩
    obtain ⟨R1, hR1⟩ : ∃ q, q = crR l r ps f := ⟨_, rfl⟩
    obtain ⟨Q1, hQ1⟩ : ∃ q, q = crP l r ps f := ⟨_, rfl⟩
    obtain ⟨s1, hs1⟩ : ∃ q, q = crS l r ps f := ⟨_, rfl⟩
    obtain ⟨b1, hb1⟩ : ∃ q, q = crOk l r ps f := ⟨_, rfl⟩
    rw [← hL1, ← hR1, ← hQ1] at W2 S2 T2 ⊢
    rw [← hL1, ← hR1, ← hQ1] at W1
    rw [← hs1] at S1 ⊢
    rw [← hL1, ← hR1, ← hQ1, ← hs1, ← hb1] at C1
    clear hL1 hR1 hQ1 hs1 hb1 T1
    have C2 := hide (fun (W : World) (v : Value) (h : Ck W W.heap.size v L1 R1 Q1) => sCrack_any v L1 R1 Q1 t W W.heap.size h (Nat.le_refl _) W1.1 W1.2.1 (by have := W1.2.2.1; omega) ht)
    obtain ⟨L2, hL2⟩ : ∃ q, q = crL L1 R1 Q1 t := ⟨_, rfl⟩
    obtain ⟨R2, hR2⟩ : ∃ q, q = crR L1 R1 Q1 t := ⟨_, rfl⟩
    obtain ⟨Q2, hQ2⟩ : ∃ q, q = crP L1 R1 Q1 t := ⟨_, rfl⟩
    obtain ⟨s2, hs2⟩ : ∃ q, q = crS L1 R1 Q1 t := ⟨_, rfl⟩
    obtain ⟨b2, hb2⟩ : ∃ q, q = crOk L1 R1 Q1 t := ⟨_, rfl⟩
    rw [← hL2, ← hR2, ← hQ2] at W2 ⊢
    rw [← hs2] at S2 ⊢
    rw [← hL2, ← hR2, ← hQ2, ← hs2, ← hb2] at C2
    clear hL2 hR2 hQ2 hs2 hb2 T2
    have K1 := hide (fun (W : World) (x y z : Value) (lo hi p1 q1 p2 q2 p3 q3 : Nat) (h : OC W x y z L1 R1 Q1 lo hi p1 q1 p2 q2 p3 q3) => h.ck W1.2.2.2.1 W1.2.2.2.2.1 (by have := W1.2.2.1; omega) W1.2.2.2.2.2)
    have K2 := hide (fun (W : World) (x y z : Value) (lo hi p1 q1 p2 q2 p3 q3 : Nat) (h : OC W x y z L2 R2 Q2 lo hi p1 q1 p2 q2 p3 q3) => h.ck W2.2.2.2.1 W2.2.2.2.2.1 (by have := W2.2.2.1; omega) W2.2.2.2.2.2)
    have F1 := hide (fun (W : World) (v : Value) (h : Ck W W.heap.size v L2 R2 Q2) => sFindP_any v L2 R2 Q2 f W W.heap.size h (Nat.le_refl _))
    have F2 := hide (fun (W : World) (v : Value) (h : Ck W W.heap.size v L2 R2 Q2) => sFindP_any v L2 R2 Q2 t W W.heap.size h (Nat.le_refl _))
    obtain ⟨e1, he1⟩ : ∃ q, q = fndP Q2 f := ⟨_, rfl⟩
    obtain ⟨e2, he2⟩ : ∃ q, q = fndP Q2 t := ⟨_, rfl⟩
    rw [← he1] at F1 ⊢
    rw [← he2] at F2 ⊢
    clear he1 he2
    obtain ⟨e1, e1b⟩ := e1
    obtain ⟨e2, e2b⟩ := e2
    simp only at F1 F2 ⊢
    clear h0 h1 wl wr wpl wp hf ht W1 W2
    have X := hide (Kn.three w #[.slice a1 l.length c1, .slice a2 r.length c2, .slice a3 ps.length c3] #[.int .i64 f, .int .i64 t] #[.slice none 0 0, .slice none 0 0, .slice none 0 0] 27 43 27)
    obtain ⟨w1, hw1⟩ : ∃ q, q = ((w.alloc (.cells #[.slice a1 l.length c1, .slice a2 r.length c2, .slice a3 ps.length c3] 27)).alloc (.cells #[.int .i64 f, .int .i64 t] 43)).alloc (.cells #[.slice none 0 0, .slice none 0 0, .slice none 0 0] 27) := ⟨_, rfl⟩
    have N0 := hide (show w1.heap.size = w.heap.size + 1 + 1 + 1 by rw [hw1]; simp)
    rw [← hw1] at X
    have c00 : w1.cell? ⟨w.heap.size, 0, none⟩ = some (.slice a1 l.length c1) := X.out.cell 0 0 rfl rfl
    have c01 : w1.cell? ⟨w.heap.size, 1, none⟩ = some (.slice a2 r.length c2) := X.out.cell 0 1 rfl rfl
    have c02 : w1.cell? ⟨w.heap.size, 2, none⟩ = some (.slice a3 ps.length c3) := X.out.cell 0 2 rfl rfl
    have c10 : w1.cell? ⟨w.heap.size + 1, 0, none⟩ = some (.int .i64 f) := X.out.cell 1 0 rfl rfl
    have c11 : w1.cell? ⟨w.heap.size + 1, 1, none⟩ = some (.int .i64 t) := X.out.cell 1 1 rfl rfl
    have c20 : w1.cell? ⟨w.heap.size + 1 + 1, 0, none⟩ = some (.slice none 0 0) := X.out.cell 2 0 rfl rfl
    have c21 : w1.cell? ⟨w.heap.size + 1 + 1, 1, none⟩ = some (.slice none 0 0) := X.out.cell 2 1 rfl rfl
    have c22 : w1.cell? ⟨w.heap.size + 1 + 1, 2, none⟩ = some (.slice none 0 0) := X.out.cell 2 2 rfl rfl
    rw [hw1] at c00 c01 c02 c10 c11 c20 c21 c22
    go_enter Try.func24, Try.ntmps24
    go_wp2_with fail
    rw [← hw1]
    clear hw1 c00 c01 c02 c10 c11 c20 c21 c22
    go_at_call 25
    refine (CK.out _ X.out.below).mono ?_
    rintro e w2 ⟨rfl, hb⟩
    have X := hide (X.out.up hb)
    have N1 := hide hb.size
    clear hb
    have c00 : w2.cell? ⟨w.heap.size, 0, none⟩ = some (.slice a1 l.length c1) := X.out.cell 0 0 rfl rfl
    have c01 : w2.cell? ⟨w.heap.size, 1, none⟩ = some (.slice a2 r.length c2) := X.out.cell 0 1 rfl rfl
    have c02 : w2.cell? ⟨w.heap.size, 2, none⟩ = some (.slice a3 ps.length c3) := X.out.cell 0 2 rfl rfl
    have c10 : w2.cell? ⟨w.heap.size + 1, 0, none⟩ = some (.int .i64 f) := X.out.cell 1 0 rfl rfl
    have c11 : w2.cell? ⟨w.heap.size + 1, 1, none⟩ = some (.int .i64 t) := X.out.cell 1 1 rfl rfl
    have c20 : w2.cell? ⟨w.heap.size + 1 + 1, 0, none⟩ = some (.slice none 0 0) := X.out.cell 2 0 rfl rfl
    have c21 : w2.cell? ⟨w.heap.size + 1 + 1, 1, none⟩ = some (.slice none 0 0) := X.out.cell 2 1 rfl rfl
    have c22 : w2.cell? ⟨w.heap.size + 1 + 1, 2, none⟩ = some (.slice none 0 0) := X.out.cell 2 2 rfl rfl
    go_wp2_with fail
    clear c00 c01 c02 c10 c11 c20 c21 c22
    go_at_call 26
    refine (CR.out _).mono ?_
    rintro e w3 ⟨rfl, hb⟩
    have X := hide (X.out.up hb)
    have N2 := hide hb.size
    clear hb
    have c00 : w3.cell? ⟨w.heap.size, 0, none⟩ = some (.slice a1 l.length c1) := X.out.cell 0 0 rfl rfl
    have c01 : w3.cell? ⟨w.heap.size, 1, none⟩ = some (.slice a2 r.length c2) := X.out.cell 0 1 rfl rfl
    have c02 : w3.cell? ⟨w.heap.size, 2, none⟩ = some (.slice a3 ps.length c3) := X.out.cell 0 2 rfl rfl
    have c10 : w3.cell? ⟨w.heap.size + 1, 0, none⟩ = some (.int .i64 f) := X.out.cell 1 0 rfl rfl
    have c11 : w3.cell? ⟨w.heap.size + 1, 1, none⟩ = some (.int .i64 t) := X.out.cell 1 1 rfl rfl
    have c20 : w3.cell? ⟨w.heap.size + 1 + 1, 0, none⟩ = some (.slice none 0 0) := X.out.cell 2 0 rfl rfl
    have c21 : w3.cell? ⟨w.heap.size + 1 + 1, 1, none⟩ = some (.slice none 0 0) := X.out.cell 2 1 rfl rfl
    have c22 : w3.cell? ⟨w.heap.size + 1 + 1, 2, none⟩ = some (.slice none 0 0) := X.out.cell 2 2 rfl rfl
    go_wp2_with fail
    clear c00 c01 c02 c10 c11 c20 c21 c22
    go_at_call 14
    refine (C1.out _ X.out.below).mono ?_
    rintro e w4 ⟨x, y, z, svA, loA, hiA, pA1, qA1, pA2, qA2, pA3, qA3, sloA, shiA, rfl, hlo, hhi, CA, SA, hss, hb⟩
    obtain ⟨gA1, kA1, rfl⟩ := CA.x.form
    obtain ⟨gA2, kA2, rfl⟩ := CA.y.form
    obtain ⟨gA3, kA3, rfl⟩ := CA.z.own.form
    obtain ⟨sgA, skA, rfl⟩ := SA.own.form
    have HA := hide hlo.1
    have JA := hide hhi.1
    clear hlo hhi hss SA
    have X := hide (X.out.up hb)
    have N3 := hide hb.size
    clear hb
    have CA := hide CA
    have hbl := below1 w4 (.cells #[.slice gA1 L1.length kA1, .slice gA2 R1.length kA2, .slice gA3 Q1.length kA3] 27)
    have X := hide (X.out.alloc #[.slice gA1 L1.length kA1, .slice gA2 R1.length kA2, .slice gA3 Q1.length kA3] 27)
    have CA := hide (CA.out.below hbl)
    clear hbl
    obtain ⟨w5, hw5⟩ : ∃ q, q = w4.alloc (.cells #[.slice gA1 L1.length kA1, .slice gA2 R1.length kA2, .slice gA3 Q1.length kA3] 27) := ⟨_, rfl⟩
    obtain ⟨b3, hb3⟩ : ∃ q, q = w4.heap.size := ⟨_, rfl⟩
    have N6 := hide (show b3 = w4.heap.size ∧ w5.heap.size = w4.heap.size + 1 by rw [hw5, hb3]; simp)
    rw [← hw5] at X CA
    rw [← hb3] at X
    simp only [List.cons_append, List.nil_append] at X
    have c00 : w5.cell? ⟨w.heap.size, 0, none⟩ = some (.slice a1 l.length c1) := X.out.cell 0 0 rfl rfl
    have c01 : w5.cell? ⟨w.heap.size, 1, none⟩ = some (.slice a2 r.length c2) := X.out.cell 0 1 rfl rfl
    have c02 : w5.cell? ⟨w.heap.size, 2, none⟩ = some (.slice a3 ps.length c3) := X.out.cell 0 2 rfl rfl
    have c10 : w5.cell? ⟨w.heap.size + 1, 0, none⟩ = some (.int .i64 f) := X.out.cell 1 0 rfl rfl
    have c11 : w5.cell? ⟨w.heap.size + 1, 1, none⟩ = some (.int .i64 t) := X.out.cell 1 1 rfl rfl
    have c20 : w5.cell? ⟨w.heap.size + 1 + 1, 0, none⟩ = some (.slice none 0 0) := X.out.cell 2 0 rfl rfl
    have c21 : w5.cell? ⟨w.heap.size + 1 + 1, 1, none⟩ = some (.slice none 0 0) := X.out.cell 2 1 rfl rfl
    have c22 : w5.cell? ⟨w.heap.size + 1 + 1, 2, none⟩ = some (.slice none 0 0) := X.out.cell 2 2 rfl rfl
    have c30 : w5.cell? ⟨b3, 0, none⟩ = some (.slice gA1 L1.length kA1) := X.out.cell 3 0 rfl rfl
    have c31 : w5.cell? ⟨b3, 1, none⟩ = some (.slice gA2 R1.length kA2) := X.out.cell 3 1 rfl rfl
    have c32 : w5.cell? ⟨b3, 2, none⟩ = some (.slice gA3 Q1.length kA3) := X.out.cell 3 2 rfl rfl
    rw [hw5] at c00 c01 c02 c10 c11 c20 c21 c22 c30 c31 c32
    go_wp2_with fail
    rw [← hw5]
    try rw [← hb3]
    clear hw5 hb3
    clear c00 c01 c02 c10 c11 c20 c21 c22 c30 c31 c32
    go_at_call 14
    refine (C2.out _ _ (K1.out _ _ _ _ _ _ _ _ _ _ _ _ CA.out)).mono ?_
    rintro e w6 ⟨x, y, z, svD, loD, hiD, pD1, qD1, pD2, qD2, pD3, qD3, sloD, shiD, rfl, hlo, hhi, CD, SD, hss, hb⟩
    obtain ⟨gD1, kD1, rfl⟩ := CD.x.form
    obtain ⟨gD2, kD2, rfl⟩ := CD.y.form
    obtain ⟨gD3, kD3, rfl⟩ := CD.z.own.form
    obtain ⟨sgD, skD, rfl⟩ := SD.own.form
    have HD := hide hlo.1
    have JD := hide hhi.1
    clear hlo hhi hss SD
    have X := hide (X.out.up hb)
    have CA := hide (CA.out.below hb)
    have N7 := hide hb.size
    clear hb
    have CD := hide CD
    have hbl := below1 w6 (.cells #[.slice gD1 L2.length kD1, .slice gD2 R2.length kD2, .slice gD3 Q2.length kD3] 27)
    have X := hide (X.out.alloc #[.slice gD1 L2.length kD1, .slice gD2 R2.length kD2, .slice gD3 Q2.length kD3] 27)
    have CA := hide (CA.out.below hbl)
    have CD := hide (CD.out.below hbl)
    clear hbl
    obtain ⟨w7, hw7⟩ : ∃ q, q = w6.alloc (.cells #[.slice gD1 L2.length kD1, .slice gD2 R2.length kD2, .slice gD3 Q2.length kD3] 27) := ⟨_, rfl⟩
    obtain ⟨b4, hb4⟩ : ∃ q, q = w6.heap.size := ⟨_, rfl⟩
    have N10 := hide (show b4 = w6.heap.size ∧ w7.heap.size = w6.heap.size + 1 by rw [hw7, hb4]; simp)
    rw [← hw7] at X CA CD
    rw [← hb4] at X
    simp only [List.cons_append, List.nil_append] at X
    clear CA
    have c00 : w7.cell? ⟨w.heap.size, 0, none⟩ = some (.slice a1 l.length c1) := X.out.cell 0 0 rfl rfl
    have c01 : w7.cell? ⟨w.heap.size, 1, none⟩ = some (.slice a2 r.length c2) := X.out.cell 0 1 rfl rfl
    have c02 : w7.cell? ⟨w.heap.size, 2, none⟩ = some (.slice a3 ps.length c3) := X.out.cell 0 2 rfl rfl
    have c10 : w7.cell? ⟨w.heap.size + 1, 0, none⟩ = some (.int .i64 f) := X.out.cell 1 0 rfl rfl
    have c11 : w7.cell? ⟨w.heap.size + 1, 1, none⟩ = some (.int .i64 t) := X.out.cell 1 1 rfl rfl
    have c20 : w7.cell? ⟨w.heap.size + 1 + 1, 0, none⟩ = some (.slice none 0 0) := X.out.cell 2 0 rfl rfl
    have c21 : w7.cell? ⟨w.heap.size + 1 + 1, 1, none⟩ = some (.slice none 0 0) := X.out.cell 2 1 rfl rfl
    have c22 : w7.cell? ⟨w.heap.size + 1 + 1, 2, none⟩ = some (.slice none 0 0) := X.out.cell 2 2 rfl rfl
    have c30 : w7.cell? ⟨b3, 0, none⟩ = some (.slice gA1 L1.length kA1) := X.out.cell 3 0 rfl rfl
    have c31 : w7.cell? ⟨b3, 1, none⟩ = some (.slice gA2 R1.length kA2) := X.out.cell 3 1 rfl rfl
    have c32 : w7.cell? ⟨b3, 2, none⟩ = some (.slice gA3 Q1.length kA3) := X.out.cell 3 2 rfl rfl
    have c40 : w7.cell? ⟨b4, 0, none⟩ = some (.slice gD1 L2.length kD1) := X.out.cell 4 0 rfl rfl
    have c41 : w7.cell? ⟨b4, 1, none⟩ = some (.slice gD2 R2.length kD2) := X.out.cell 4 1 rfl rfl
    have c42 : w7.cell? ⟨b4, 2, none⟩ = some (.slice gD3 Q2.length kD3) := X.out.cell 4 2 rfl rfl
    rw [hw7] at c00 c01 c02 c10 c11 c20 c21 c22 c30 c31 c32 c40 c41 c42
    go_wp2_with fail
    rw [← hw7]
    try rw [← hb4]
    clear hw7 hb4
    clear c00 c01 c02 c10 c11 c20 c21 c22 c30 c31 c32 c40 c41 c42
    go_at_call 63
    refine (F1.out _ _ (K2.out _ _ _ _ _ _ _ _ _ _ _ _ CD.out)).mono ?_
    rintro e w8 ⟨rfl, hb⟩
    have X := hide (X.out.up hb)
    have CD := hide (CD.out.below hb)
    have N11 := hide hb.size
    clear hb
    have c00 : w8.cell? ⟨w.heap.size, 0, none⟩ = some (.slice a1 l.length c1) := X.out.cell 0 0 rfl rfl
    have c01 : w8.cell? ⟨w.heap.size, 1, none⟩ = some (.slice a2 r.length c2) := X.out.cell 0 1 rfl rfl
    have c02 : w8.cell? ⟨w.heap.size, 2, none⟩ = some (.slice a3 ps.length c3) := X.out.cell 0 2 rfl rfl
    have c10 : w8.cell? ⟨w.heap.size + 1, 0, none⟩ = some (.int .i64 f) := X.out.cell 1 0 rfl rfl
    have c11 : w8.cell? ⟨w.heap.size + 1, 1, none⟩ = some (.int .i64 t) := X.out.cell 1 1 rfl rfl
    have c20 : w8.cell? ⟨w.heap.size + 1 + 1, 0, none⟩ = some (.slice none 0 0) := X.out.cell 2 0 rfl rfl
    have c21 : w8.cell? ⟨w.heap.size + 1 + 1, 1, none⟩ = some (.slice none 0 0) := X.out.cell 2 1 rfl rfl
    have c22 : w8.cell? ⟨w.heap.size + 1 + 1, 2, none⟩ = some (.slice none 0 0) := X.out.cell 2 2 rfl rfl
    have c30 : w8.cell? ⟨b3, 0, none⟩ = some (.slice gA1 L1.length kA1) := X.out.cell 3 0 rfl rfl
    have c31 : w8.cell? ⟨b3, 1, none⟩ = some (.slice gA2 R1.length kA2) := X.out.cell 3 1 rfl rfl
    have c32 : w8.cell? ⟨b3, 2, none⟩ = some (.slice gA3 Q1.length kA3) := X.out.cell 3 2 rfl rfl
    have c40 : w8.cell? ⟨b4, 0, none⟩ = some (.slice gD1 L2.length kD1) := X.out.cell 4 0 rfl rfl
    have c41 : w8.cell? ⟨b4, 1, none⟩ = some (.slice gD2 R2.length kD2) := X.out.cell 4 1 rfl rfl
    have c42 : w8.cell? ⟨b4, 2, none⟩ = some (.slice gD3 Q2.length kD3) := X.out.cell 4 2 rfl rfl
    go_wp2_with fail
    clear c00 c01 c02 c10 c11 c20 c21 c22 c30 c31 c32 c40 c41 c42
    go_at_call 63
    refine (F2.out _ _ (K2.out _ _ _ _ _ _ _ _ _ _ _ _ CD.out)).mono ?_
    rintro e w9 ⟨rfl, hb⟩
    have X := hide (X.out.up hb)
    have CD := hide (CD.out.below hb)
    have N12 := hide hb.size
    clear hb
    have f0' := X.out.free 2 0 rfl
    have f1' := X.out.free 2 1 rfl
    have f2' := X.out.free 2 2 rfl
    have c00 : w9.cell? ⟨w.heap.size, 0, none⟩ = some (.slice a1 l.length c1) := X.out.cell 0 0 rfl rfl
    have c01 : w9.cell? ⟨w.heap.size, 1, none⟩ = some (.slice a2 r.length c2) := X.out.cell 0 1 rfl rfl
    have c02 : w9.cell? ⟨w.heap.size, 2, none⟩ = some (.slice a3 ps.length c3) := X.out.cell 0 2 rfl rfl
    have c10 : w9.cell? ⟨w.heap.size + 1, 0, none⟩ = some (.int .i64 f) := X.out.cell 1 0 rfl rfl
    have c11 : w9.cell? ⟨w.heap.size + 1, 1, none⟩ = some (.int .i64 t) := X.out.cell 1 1 rfl rfl
    have c20 : w9.cell? ⟨w.heap.size + 1 + 1, 0, none⟩ = some (.slice none 0 0) := X.out.cell 2 0 rfl rfl
    have c21 : w9.cell? ⟨w.heap.size + 1 + 1, 1, none⟩ = some (.slice none 0 0) := X.out.cell 2 1 rfl rfl
    have c22 : w9.cell? ⟨w.heap.size + 1 + 1, 2, none⟩ = some (.slice none 0 0) := X.out.cell 2 2 rfl rfl
    have c30 : w9.cell? ⟨b3, 0, none⟩ = some (.slice gA1 L1.length kA1) := X.out.cell 3 0 rfl rfl
    have c31 : w9.cell? ⟨b3, 1, none⟩ = some (.slice gA2 R1.length kA2) := X.out.cell 3 1 rfl rfl
    have c32 : w9.cell? ⟨b3, 2, none⟩ = some (.slice gA3 Q1.length kA3) := X.out.cell 3 2 rfl rfl
    have c40 : w9.cell? ⟨b4, 0, none⟩ = some (.slice gD1 L2.length kD1) := X.out.cell 4 0 rfl rfl
    have c41 : w9.cell? ⟨b4, 1, none⟩ = some (.slice gD2 R2.length kD2) := X.out.cell 4 1 rfl rfl
    have c42 : w9.cell? ⟨b4, 2, none⟩ = some (.slice gD3 Q2.length kD3) := X.out.cell 4 2 rfl rfl
    go_wp2_with fail
    clear c00 c01 c02 c10 c11 c20 c21 c22 c30 c31 c32 c40 c41 c42
    have Z := ((X.out.set 2 0 rfl (.slice gD1 L2.length kD1)).set 2 1 rfl (.slice gD2 R2.length kD2)).set 2 2 rfl (.slice gD3 Q2.length kD3)
    have z0 := Z.cell 2 0 rfl rfl
    have z1 := Z.cell 2 1 rfl rfl
    have z2 := Z.cell 2 2 rfl rfl
    have qN0 := N0.out
    have qN1 := N1.out
    have qN2 := N2.out
    have qN3 := N3.out
    have qHA := HA.out
    have qJA := JA.out
    have qN6 := N6.out
    have qN7 := N7.out
    have qHD := HD.out
    have qJD := JD.out
    have qN10 := N10.out
    have qN11 := N11.out
    have qN12 := N12.out
    have O9 := CD.out.seg (seg3 _ (w.heap.size + 1 + 1) (.slice gD1 L2.length kD1) (.slice gD2 R2.length kD2) (.slice gD3 Q2.length kD3)) (.inr (by omega))
    exact bodyPost_ret (v := .tuple #[.agg #[.slice gD1 L2.length kD1, .slice gD2 R2.length kD2, .slice gD3 Q2.length kD3], .int .i64 e1, .int .i64 e2, .int .i64 ((s1.length + s2.length : Nat) : Int)]) (by simp [results, Try.results24, go_sem, z0, z1, z2]) rfl
      ⟨_, _, _, loD, hiD, _, _, _, _, _, _, rfl, by omega, O9.top.2, O9, Z.below⟩

theorem sSel_any (u : Value) (l r : List Int) (ps : List Pv) (f t : Int) (w : World) (B : Nat) (hv : Ck w B u l r ps) (hB : B ≤ w.heap.size) (hl : l.length ≤ 1048576) (hr : r.length ≤ 1048576) (hp : ps.length ≤ 1048576) (hf : I64 f) (ht : I64 t) :
    Calls Try.prog 24 #[u, .agg #[.int .i64 f, .int .i64 t]] w (RetSel w (seL l r ps f t) (seR l r ps f t) (seP l r ps f t) (seF l r ps f t) (seT l r ps f t) (seN l r ps f t)) := by
  unfold seL seR seF seT seN seP seOk
  cases h0 : isCk l r ps with
  | false =>
    simp only [Bool.false_and, Bool.false_eq_true, if_false]
    exact sSel_no0 u l r ps f t w B hv hB hl hr hp hf ht h0
  | true =>
    cases h1 : isR f t with
    | false =>
      simp only [Bool.and_false, Bool.false_eq_true, if_false]
      exact sSel_no1 u l r ps f t w B hv hB hl hr hp hf ht h0 h1
    | true =>
      simp only [Bool.and_self, if_true]
      exact sSel_yes u l r ps f t w B hv hB hl hr hp hf ht h0 h1

end Go.Proofs.Ytkhhlifnbelckaa

/- SelectRange of the program (promise 4). Written by gen_seli.py. -/
namespace Go.Proofs.Ytkhhlifnbelckaa
open Go.RowKit Go.ChangeShapes
set_option linter.unusedSimpArgs false
set_option linter.unusedVariables false
set_option maxRecDepth 100000


set_option maxHeartbeats 8000000 in
theorem iSel_no0 (u : Value) (l r : List Int) (ps : List Pv) (f t : Int) (w : World) (B : Nat) (hv : Ck w B u l r ps) (hB : B ≤ w.heap.size) (hl : l.length ≤ 1048576) (hr : r.length ≤ 1048576) (hp : ps.length ≤ 1048576) (hf : I64 f) (ht : I64 t) (h0 : isCk l r ps = false) :
    Calls Try.prog 23 #[u, .agg #[.int .i64 f, .int .i64 t]] w (RetSel w l r ps 0 0 0) := by
  · skip
    obtain ⟨a1, c1, a2, c2, a3, c3, rfl, i1, i2, i3⟩ := hv.form
    obtain ⟨wl, wr, wpl, wp⟩ := hv.wf
    have V := hide hv
    clear hv i1 i2 i3
    have CK := hide (fun (W : World) (h : Below w.heap.size w W) => show Calls Try.prog 19 #[.agg #[.slice a1 l.length c1, .slice a2 r.length c2, .slice a3 ps.length c3]] W (RetB1 W false) by rw [← h0]; exact iIsCk_any _ l r ps W B (V.out.below h hB) (Nat.le_trans hB h.size))
    have CC := hide (fun (W : World) (h : Below w.heap.size w W) => iCopy_any _ l r ps W B (V.out.below h hB) (Nat.le_trans hB h.size) hl hr hp)
    clear h0 wl wr wpl wp hf ht
    have X := hide (Kn.three w #[.slice a1 l.length c1, .slice a2 r.length c2, .slice a3 ps.length c3] #[.int .i64 f, .int .i64 t] #[.slice none 0 0, .slice none 0 0, .slice none 0 0] 27 43 27)
    obtain ⟨w1, hw1⟩ : ∃ q, q = ((w.alloc (.cells #[.slice a1 l.length c1, .slice a2 r.length c2, .slice a3 ps.length c3] 27)).alloc (.cells #[.int .i64 f, .int .i64 t] 43)).alloc (.cells #[.slice none 0 0, .slice none 0 0, .slice none 0 0] 27) := ⟨_, rfl⟩
    have N0 := hide (show w1.heap.size = w.heap.size + 1 + 1 + 1 by rw [hw1]; simp)
    rw [← hw1] at X
    have c00 : w1.cell? ⟨w.heap.size, 0, none⟩ = some (.slice a1 l.length c1) := X.out.cell 0 0 rfl rfl
    have c01 : w1.cell? ⟨w.heap.size, 1, none⟩ = some (.slice a2 r.length c2) := X.out.cell 0 1 rfl rfl
    have c02 : w1.cell? ⟨w.heap.size, 2, none⟩ = some (.slice a3 ps.length c3) := X.out.cell 0 2 rfl rfl
    have c10 : w1.cell? ⟨w.heap.size + 1, 0, none⟩ = some (.int .i64 f) := X.out.cell 1 0 rfl rfl
    have c11 : w1.cell? ⟨w.heap.size + 1, 1, none⟩ = some (.int .i64 t) := X.out.cell 1 1 rfl rfl
    have c20 : w1.cell? ⟨w.heap.size + 1 + 1, 0, none⟩ = some (.slice none 0 0) := X.out.cell 2 0 rfl rfl
    have c21 : w1.cell? ⟨w.heap.size + 1 + 1, 1, none⟩ = some (.slice none 0 0) := X.out.cell 2 1 rfl rfl
    have c22 : w1.cell? ⟨w.heap.size + 1 + 1, 2, none⟩ = some (.slice none 0 0) := X.out.cell 2 2 rfl rfl
    rw [hw1] at c00 c01 c02 c10 c11 c20 c21 c22
    go_enter Try.func23, Try.ntmps23
    go_wp2_with fail
    rw [← hw1]
    clear hw1 c00 c01 c02 c10 c11 c20 c21 c22
    go_at_call 57
    refine (CC.out _ X.out.below).mono ?_
    rintro e w2 ⟨x, y, z, loC, hiC, p1, q1, p2, q2, p3, q3, rfl, hlo, hhi, CD, hb⟩
    have HC := hide hlo
    obtain ⟨gC1, kC1, rfl⟩ := CD.x.form
    obtain ⟨gC2, kC2, rfl⟩ := CD.y.form
    obtain ⟨gC3, kC3, rfl⟩ := CD.z.own.form
    have CD := hide CD
    clear hlo hhi
    have X := hide (X.out.up hb)
    have N1 := hide hb.size
    clear hb
    have hbl := below2 w2 (.cells #[.slice gC1 l.length kC1, .slice gC2 r.length kC2, .slice gC3 ps.length kC3] 27) (.cells #[.int .i64 0] 3)
    have X := hide ((X.out.alloc #[.slice gC1 l.length kC1, .slice gC2 r.length kC2, .slice gC3 ps.length kC3] 27).alloc #[.int .i64 0] 3)
    have CD := hide (CD.out.below hbl)
    clear hbl
    obtain ⟨w3, hw3⟩ : ∃ q, q = (w2.alloc (.cells #[.slice gC1 l.length kC1, .slice gC2 r.length kC2, .slice gC3 ps.length kC3] 27)).alloc (.cells #[.int .i64 0] 3) := ⟨_, rfl⟩
    obtain ⟨gx, hgx⟩ : ∃ q, q = w2.heap.size := ⟨_, rfl⟩
    have NB := hide (show gx = w2.heap.size ∧ w3.heap.size = gx + 1 + 1 by rw [hw3, hgx]; simp)
    rw [show (w2.alloc (.cells #[.slice gC1 l.length kC1, .slice gC2 r.length kC2, .slice gC3 ps.length kC3] 27)).heap.size = gx + 1 by rw [hgx]; simp] at X
    rw [← hw3] at X CD
    rw [← hgx] at X
    simp only [List.cons_append, List.nil_append] at X
    have c00 : w3.cell? ⟨w.heap.size, 0, none⟩ = some (.slice a1 l.length c1) := X.out.cell 0 0 rfl rfl
    have c01 : w3.cell? ⟨w.heap.size, 1, none⟩ = some (.slice a2 r.length c2) := X.out.cell 0 1 rfl rfl
    have c02 : w3.cell? ⟨w.heap.size, 2, none⟩ = some (.slice a3 ps.length c3) := X.out.cell 0 2 rfl rfl
    have c10 : w3.cell? ⟨w.heap.size + 1, 0, none⟩ = some (.int .i64 f) := X.out.cell 1 0 rfl rfl
    have c11 : w3.cell? ⟨w.heap.size + 1, 1, none⟩ = some (.int .i64 t) := X.out.cell 1 1 rfl rfl
    have c20 : w3.cell? ⟨w.heap.size + 1 + 1, 0, none⟩ = some (.slice none 0 0) := X.out.cell 2 0 rfl rfl
    have c21 : w3.cell? ⟨w.heap.size + 1 + 1, 1, none⟩ = some (.slice none 0 0) := X.out.cell 2 1 rfl rfl
    have c22 : w3.cell? ⟨w.heap.size + 1 + 1, 2, none⟩ = some (.slice none 0 0) := X.out.cell 2 2 rfl rfl
    have c30 : w3.cell? ⟨gx, 0, none⟩ = some (.slice gC1 l.length kC1) := X.out.cell 3 0 rfl rfl
    have c31 : w3.cell? ⟨gx, 1, none⟩ = some (.slice gC2 r.length kC2) := X.out.cell 3 1 rfl rfl
    have c32 : w3.cell? ⟨gx, 2, none⟩ = some (.slice gC3 ps.length kC3) := X.out.cell 3 2 rfl rfl
    have c40 : w3.cell? ⟨gx + 1, 0, none⟩ = some (.int .i64 0) := X.out.cell 4 0 rfl rfl
    rw [hw3] at c00 c01 c02 c10 c11 c20 c21 c22 c30 c31 c32 c40
    go_wp2_with fail
    rw [← hw3]
    try rw [← hgx]
    clear hw3 hgx
    clear c00 c01 c02 c10 c11 c20 c21 c22 c30 c31 c32 c40
    go_at_call 19
    refine (CK.out _ X.out.below).mono ?_
    rintro e w4 ⟨rfl, hb⟩
    have X := hide (X.out.up hb)
    have CD := hide (CD.out.below hb)
    have N4 := hide hb.size
    clear hb
    have f0' := X.out.free 2 0 rfl
    have f1' := X.out.free 2 1 rfl
    have f2' := X.out.free 2 2 rfl
    have c00 : w4.cell? ⟨w.heap.size, 0, none⟩ = some (.slice a1 l.length c1) := X.out.cell 0 0 rfl rfl
    have c01 : w4.cell? ⟨w.heap.size, 1, none⟩ = some (.slice a2 r.length c2) := X.out.cell 0 1 rfl rfl
    have c02 : w4.cell? ⟨w.heap.size, 2, none⟩ = some (.slice a3 ps.length c3) := X.out.cell 0 2 rfl rfl
    have c10 : w4.cell? ⟨w.heap.size + 1, 0, none⟩ = some (.int .i64 f) := X.out.cell 1 0 rfl rfl
    have c11 : w4.cell? ⟨w.heap.size + 1, 1, none⟩ = some (.int .i64 t) := X.out.cell 1 1 rfl rfl
    have c20 : w4.cell? ⟨w.heap.size + 1 + 1, 0, none⟩ = some (.slice none 0 0) := X.out.cell 2 0 rfl rfl
    have c21 : w4.cell? ⟨w.heap.size + 1 + 1, 1, none⟩ = some (.slice none 0 0) := X.out.cell 2 1 rfl rfl
    have c22 : w4.cell? ⟨w.heap.size + 1 + 1, 2, none⟩ = some (.slice none 0 0) := X.out.cell 2 2 rfl rfl
    have c30 : w4.cell? ⟨gx, 0, none⟩ = some (.slice gC1 l.length kC1) := X.out.cell 3 0 rfl rfl
    have c31 : w4.cell? ⟨gx, 1, none⟩ = some (.slice gC2 r.length kC2) := X.out.cell 3 1 rfl rfl
    have c32 : w4.cell? ⟨gx, 2, none⟩ = some (.slice gC3 ps.length kC3) := X.out.cell 3 2 rfl rfl
    have c40 : w4.cell? ⟨gx + 1, 0, none⟩ = some (.int .i64 0) := X.out.cell 4 0 rfl rfl
    go_wp2_with fail
    clear c00 c01 c02 c10 c11 c20 c21 c22 c30 c31 c32 c40
    have Z := ((X.out.set 2 0 rfl (.slice gC1 l.length kC1)).set 2 1 rfl (.slice gC2 r.length kC2)).set 2 2 rfl (.slice gC3 ps.length kC3)
    have z0 := Z.cell 2 0 rfl rfl
    have z1 := Z.cell 2 1 rfl rfl
    have z2 := Z.cell 2 2 rfl rfl
    have qN0 := N0.out
    have qN1 := N1.out
    have qHC := HC.out
    have qNB := NB.out
    have qN4 := N4.out
    have O9 := CD.out.seg (seg3 _ (w.heap.size + 1 + 1) (.slice gC1 l.length kC1) (.slice gC2 r.length kC2) (.slice gC3 ps.length kC3)) (.inr (by omega))
    exact bodyPost_ret (v := .tuple #[.agg #[.slice gC1 l.length kC1, .slice gC2 r.length kC2, .slice gC3 ps.length kC3], .int .i64 0, .int .i64 0, .int .i64 0]) (by simp [results, Try.results23, go_sem, z0, z1, z2]) rfl
      ⟨_, _, _, loC, hiC, _, _, _, _, _, _, rfl, by omega, O9.top.2, O9, Z.below⟩

set_option maxHeartbeats 8000000 in
theorem iSel_no1 (u : Value) (l r : List Int) (ps : List Pv) (f t : Int) (w : World) (B : Nat) (hv : Ck w B u l r ps) (hB : B ≤ w.heap.size) (hl : l.length ≤ 1048576) (hr : r.length ≤ 1048576) (hp : ps.length ≤ 1048576) (hf : I64 f) (ht : I64 t) (h0 : isCk l r ps = true) (h1 : isR f t = false) :
    Calls Try.prog 23 #[u, .agg #[.int .i64 f, .int .i64 t]] w (RetSel w l r ps 0 0 0) := by
  · skip
    obtain ⟨a1, c1, a2, c2, a3, c3, rfl, i1, i2, i3⟩ := hv.form
    obtain ⟨wl, wr, wpl, wp⟩ := hv.wf
    have V := hide hv
    clear hv i1 i2 i3
    have CK := hide (fun (W : World) (h : Below w.heap.size w W) => show Calls Try.prog 19 #[.agg #[.slice a1 l.length c1, .slice a2 r.length c2, .slice a3 ps.length c3]] W (RetB1 W true) by rw [← h0]; exact iIsCk_any _ l r ps W B (V.out.below h hB) (Nat.le_trans hB h.size))
    have CC := hide (fun (W : World) (h : Below w.heap.size w W) => iCopy_any _ l r ps W B (V.out.below h hB) (Nat.le_trans hB h.size) hl hr hp)
    have CR := hide (fun (W : World) => iIsR_is h1 W)
    clear h0 wl wr wpl wp hf ht h1
    have X := hide (Kn.three w #[.slice a1 l.length c1, .slice a2 r.length c2, .slice a3 ps.length c3] #[.int .i64 f, .int .i64 t] #[.slice none 0 0, .slice none 0 0, .slice none 0 0] 27 43 27)
    obtain ⟨w1, hw1⟩ : ∃ q, q = ((w.alloc (.cells #[.slice a1 l.length c1, .slice a2 r.length c2, .slice a3 ps.length c3] 27)).alloc (.cells #[.int .i64 f, .int .i64 t] 43)).alloc (.cells #[.slice none 0 0, .slice none 0 0, .slice none 0 0] 27) := ⟨_, rfl⟩
    have N0 := hide (show w1.heap.size = w.heap.size + 1 + 1 + 1 by rw [hw1]; simp)
    rw [← hw1] at X
    have c00 : w1.cell? ⟨w.heap.size, 0, none⟩ = some (.slice a1 l.length c1) := X.out.cell 0 0 rfl rfl
    have c01 : w1.cell? ⟨w.heap.size, 1, none⟩ = some (.slice a2 r.length c2) := X.out.cell 0 1 rfl rfl
    have c02 : w1.cell? ⟨w.heap.size, 2, none⟩ = some (.slice a3 ps.length c3) := X.out.cell 0 2 rfl rfl
    have c10 : w1.cell? ⟨w.heap.size + 1, 0, none⟩ = some (.int .i64 f) := X.out.cell 1 0 rfl rfl
    have c11 : w1.cell? ⟨w.heap.size + 1, 1, none⟩ = some (.int .i64 t) := X.out.cell 1 1 rfl rfl
    have c20 : w1.cell? ⟨w.heap.size + 1 + 1, 0, none⟩ = some (.slice none 0 0) := X.out.cell 2 0 rfl rfl
    have c21 : w1.cell? ⟨w.heap.size + 1 + 1, 1, none⟩ = some (.slice none 0 0) := X.out.cell 2 1 rfl rfl
    have c22 : w1.cell? ⟨w.heap.size + 1 + 1, 2, none⟩ = some (.slice none 0 0) := X.out.cell 2 2 rfl rfl
    rw [hw1] at c00 c01 c02 c10 c11 c20 c21 c22
    go_enter Try.func23, Try.ntmps23
    go_wp2_with fail
    rw [← hw1]
    clear hw1 c00 c01 c02 c10 c11 c20 c21 c22
    go_at_call 57
    refine (CC.out _ X.out.below).mono ?_
    rintro e w2 ⟨x, y, z, loC, hiC, p1, q1, p2, q2, p3, q3, rfl, hlo, hhi, CD, hb⟩
    have HC := hide hlo
    obtain ⟨gC1, kC1, rfl⟩ := CD.x.form
    obtain ⟨gC2, kC2, rfl⟩ := CD.y.form
    obtain ⟨gC3, kC3, rfl⟩ := CD.z.own.form
    have CD := hide CD
    clear hlo hhi
    have X := hide (X.out.up hb)
    have N1 := hide hb.size
    clear hb
    have hbl := below2 w2 (.cells #[.slice gC1 l.length kC1, .slice gC2 r.length kC2, .slice gC3 ps.length kC3] 27) (.cells #[.int .i64 0] 3)
    have X := hide ((X.out.alloc #[.slice gC1 l.length kC1, .slice gC2 r.length kC2, .slice gC3 ps.length kC3] 27).alloc #[.int .i64 0] 3)
    have CD := hide (CD.out.below hbl)
    clear hbl
    obtain ⟨w3, hw3⟩ : ∃ q, q = (w2.alloc (.cells #[.slice gC1 l.length kC1, .slice gC2 r.length kC2, .slice gC3 ps.length kC3] 27)).alloc (.cells #[.int .i64 0] 3) := ⟨_, rfl⟩
    obtain ⟨gx, hgx⟩ : ∃ q, q = w2.heap.size := ⟨_, rfl⟩
    have NB := hide (show gx = w2.heap.size ∧ w3.heap.size = gx + 1 + 1 by rw [hw3, hgx]; simp)
    rw [show (w2.alloc (.cells #[.slice gC1 l.length kC1, .slice gC2 r.length kC2, .slice gC3 ps.length kC3] 27)).heap.size = gx + 1 by rw [hgx]; simp] at X
    rw [← hw3] at X CD
    rw [← hgx] at X
    simp only [List.cons_append, List.nil_append] at X
    have c00 : w3.cell? ⟨w.heap.size, 0, none⟩ = some (.slice a1 l.length c1) := X.out.cell 0 0 rfl rfl
    have c01 : w3.cell? ⟨w.heap.size, 1, none⟩ = some (.slice a2 r.length c2) := X.out.cell 0 1 rfl rfl
    have c02 : w3.cell? ⟨w.heap.size, 2, none⟩ = some (.slice a3 ps.length c3) := X.out.cell 0 2 rfl rfl
    have c10 : w3.cell? ⟨w.heap.size + 1, 0, none⟩ = some (.int .i64 f) := X.out.cell 1 0 rfl rfl
    have c11 : w3.cell? ⟨w.heap.size + 1, 1, none⟩ = some (.int .i64 t) := X.out.cell 1 1 rfl rfl
    have c20 : w3.cell? ⟨w.heap.size + 1 + 1, 0, none⟩ = some (.slice none 0 0) := X.out.cell 2 0 rfl rfl
    have c21 : w3.cell? ⟨w.heap.size + 1 + 1, 1, none⟩ = some (.slice none 0 0) := X.out.cell 2 1 rfl rfl
    have c22 : w3.cell? ⟨w.heap.size + 1 + 1, 2, none⟩ = some (.slice none 0 0) := X.out.cell 2 2 rfl rfl
    have c30 : w3.cell? ⟨gx, 0, none⟩ = some (.slice gC1 l.length kC1) := X.out.cell 3 0 rfl rfl
    have c31 : w3.cell? ⟨gx, 1, none⟩ = some (.slice gC2 r.length kC2) := X.out.cell 3 1 rfl rfl
    have c32 : w3.cell? ⟨gx, 2, none⟩ = some (.slice gC3 ps.length kC3) := X.out.cell 3 2 rfl rfl
    have c40 : w3.cell? ⟨gx + 1, 0, none⟩ = some (.int .i64 0) := X.out.cell 4 0 rfl rfl
    rw [hw3] at c00 c01 c02 c10 c11 c20 c21 c22 c30 c31 c32 c40
    go_wp2_with fail
    rw [← hw3]
    try rw [← hgx]
    clear hw3 hgx
    clear c00 c01 c02 c10 c11 c20 c21 c22 c30 c31 c32 c40
    go_at_call 19
    refine (CK.out _ X.out.below).mono ?_
    rintro e w4 ⟨rfl, hb⟩
    have X := hide (X.out.up hb)
    have CD := hide (CD.out.below hb)
    have N4 := hide hb.size
    clear hb
    have c00 : w4.cell? ⟨w.heap.size, 0, none⟩ = some (.slice a1 l.length c1) := X.out.cell 0 0 rfl rfl
    have c01 : w4.cell? ⟨w.heap.size, 1, none⟩ = some (.slice a2 r.length c2) := X.out.cell 0 1 rfl rfl
    have c02 : w4.cell? ⟨w.heap.size, 2, none⟩ = some (.slice a3 ps.length c3) := X.out.cell 0 2 rfl rfl
    have c10 : w4.cell? ⟨w.heap.size + 1, 0, none⟩ = some (.int .i64 f) := X.out.cell 1 0 rfl rfl
    have c11 : w4.cell? ⟨w.heap.size + 1, 1, none⟩ = some (.int .i64 t) := X.out.cell 1 1 rfl rfl
    have c20 : w4.cell? ⟨w.heap.size + 1 + 1, 0, none⟩ = some (.slice none 0 0) := X.out.cell 2 0 rfl rfl
    have c21 : w4.cell? ⟨w.heap.size + 1 + 1, 1, none⟩ = some (.slice none 0 0) := X.out.cell 2 1 rfl rfl
    have c22 : w4.cell? ⟨w.heap.size + 1 + 1, 2, none⟩ = some (.slice none 0 0) := X.out.cell 2 2 rfl rfl
    have c30 : w4.cell? ⟨gx, 0, none⟩ = some (.slice gC1 l.length kC1) := X.out.cell 3 0 rfl rfl
    have c31 : w4.cell? ⟨gx, 1, none⟩ = some (.slice gC2 r.length kC2) := X.out.cell 3 1 rfl rfl
    have c32 : w4.cell? ⟨gx, 2, none⟩ = some (.slice gC3 ps.length kC3) := X.out.cell 3 2 rfl rfl
    have c40 : w4.cell? ⟨gx + 1, 0, none⟩ = some (.int .i64 0) := X.out.cell 4 0 rfl rfl
    go_wp2_with fail
    clear c00 c01 c02 c10 c11 c20 c21 c22 c30 c31 c32 c40
    go_at_call 75
    refine (CR.out _).mono ?_
    rintro e w5 ⟨rfl, hb⟩
    have X := hide (X.out.up hb)
    have CD := hide (CD.out.below hb)
    have N5 := hide hb.size
    clear hb
    have f0' := X.out.free 2 0 rfl
    have f1' := X.out.free 2 1 rfl
    have f2' := X.out.free 2 2 rfl
    have c00 : w5.cell? ⟨w.heap.size, 0, none⟩ = some (.slice a1 l.length c1) := X.out.cell 0 0 rfl rfl
    have c01 : w5.cell? ⟨w.heap.size, 1, none⟩ = some (.slice a2 r.length c2) := X.out.cell 0 1 rfl rfl
    have c02 : w5.cell? ⟨w.heap.size, 2, none⟩ = some (.slice a3 ps.length c3) := X.out.cell 0 2 rfl rfl
    have c10 : w5.cell? ⟨w.heap.size + 1, 0, none⟩ = some (.int .i64 f) := X.out.cell 1 0 rfl rfl
    have c11 : w5.cell? ⟨w.heap.size + 1, 1, none⟩ = some (.int .i64 t) := X.out.cell 1 1 rfl rfl
    have c20 : w5.cell? ⟨w.heap.size + 1 + 1, 0, none⟩ = some (.slice none 0 0) := X.out.cell 2 0 rfl rfl
    have c21 : w5.cell? ⟨w.heap.size + 1 + 1, 1, none⟩ = some (.slice none 0 0) := X.out.cell 2 1 rfl rfl
    have c22 : w5.cell? ⟨w.heap.size + 1 + 1, 2, none⟩ = some (.slice none 0 0) := X.out.cell 2 2 rfl rfl
    have c30 : w5.cell? ⟨gx, 0, none⟩ = some (.slice gC1 l.length kC1) := X.out.cell 3 0 rfl rfl
    have c31 : w5.cell? ⟨gx, 1, none⟩ = some (.slice gC2 r.length kC2) := X.out.cell 3 1 rfl rfl
    have c32 : w5.cell? ⟨gx, 2, none⟩ = some (.slice gC3 ps.length kC3) := X.out.cell 3 2 rfl rfl
    have c40 : w5.cell? ⟨gx + 1, 0, none⟩ = some (.int .i64 0) := X.out.cell 4 0 rfl rfl
    go_wp2_with fail
    clear c00 c01 c02 c10 c11 c20 c21 c22 c30 c31 c32 c40
    have Z := ((X.out.set 2 0 rfl (.slice gC1 l.length kC1)).set 2 1 rfl (.slice gC2 r.length kC2)).set 2 2 rfl (.slice gC3 ps.length kC3)
    have z0 := Z.cell 2 0 rfl rfl
    have z1 := Z.cell 2 1 rfl rfl
    have z2 := Z.cell 2 2 rfl rfl
    have qN0 := N0.out
    have qN1 := N1.out
    have qHC := HC.out
    have qNB := NB.out
    have qN4 := N4.out
    have qN5 := N5.out
    have O9 := CD.out.seg (seg3 _ (w.heap.size + 1 + 1) (.slice gC1 l.length kC1) (.slice gC2 r.length kC2) (.slice gC3 ps.length kC3)) (.inr (by omega))
    exact bodyPost_ret (v := .tuple #[.agg #[.slice gC1 l.length kC1, .slice gC2 r.length kC2, .slice gC3 ps.length kC3], .int .i64 0, .int .i64 0, .int .i64 0]) (by simp [results, Try.results23, go_sem, z0, z1, z2]) rfl
      ⟨_, _, _, loC, hiC, _, _, _, _, _, _, rfl, by omega, O9.top.2, O9, Z.below⟩

set_option maxHeartbeats 8000000 in
theorem iSel_yes (u : Value) (l r : List Int) (ps : List Pv) (f t : Int) (w : World) (B : Nat) (hv : Ck w B u l r ps) (hB : B ≤ w.heap.size) (hl : l.length ≤ 1048576) (hr : r.length ≤ 1048576) (hp : ps.length ≤ 1048576) (hf : I64 f) (ht : I64 t) (h0 : isCk l r ps = true) (h1 : isR f t = true) :
    Calls Try.prog 23 #[u, .agg #[.int .i64 f, .int .i64 t]] w (RetSel w (crL (crL l r ps f) (crR l r ps f) (crP l r ps f) t) (crR (crL l r ps f) (crR l r ps f) (crP l r ps f) t) (crP (crL l r ps f) (crR l r ps f) (crP l r ps f) t) (fndP (crP (crL l r ps f) (crR l r ps f) (crP l r ps f) t) f).1 (fndP (crP (crL l r ps f) (crR l r ps f) (crP l r ps f) t) t).1 ((crS l r ps f).length + (crS (crL l r ps f) (crR l r ps f) (crP l r ps f) t).length : Nat)) := by
  · skip
    obtain ⟨a1, c1, a2, c2, a3, c3, rfl, i1, i2, i3⟩ := hv.form
    obtain ⟨wl, wr, wpl, wp⟩ := hv.wf
    have V := hide hv
    clear hv i1 i2 i3
    have CK := hide (fun (W : World) (h : Below w.heap.size w W) => show Calls Try.prog 19 #[.agg #[.slice a1 l.length c1, .slice a2 r.length c2, .slice a3 ps.length c3]] W (RetB1 W true) by rw [← h0]; exact iIsCk_any _ l r ps W B (V.out.below h hB) (Nat.le_trans hB h.size))
    have CR := hide (fun (W : World) => iIsR_is h1 W)
    have CC := hide (fun (W : World) (h : Below w.heap.size w W) => iCopy_any _ l r ps W B (V.out.below h hB) (Nat.le_trans hB h.size) hl hr hp)
    have w0f := wf_ck (n := 1048576) ⟨hl, hr, hp, wl, wr, wp⟩ h0
    obtain ⟨W1, S1, T1⟩ := crack_Wf w0f (by omega) hf
    obtain ⟨W2, S2, T2⟩ := crack_Wf W1 (by omega) ht
    have hE := crack_keeps (l := crL l r ps f) (r := crR l r ps f) (v := t) (crack_found (crOk_of h0 (isR_true h1).1 (isR_true h1).2.1))
    have K0 := hide (fun (W : World) (x y z : Value) (lo hi p1 q1 p2 q2 p3 q3 : Nat) (h : OC W x y z l r ps lo hi p1 q1 p2 q2 p3 q3) => h.ck w0f.2.2.2.1 w0f.2.2.2.2.1 (by have := w0f.2.2.1; omega) w0f.2.2.2.2.2)
    have D1 := hide (fun (W : World) (L : List (Nat × Array Value × TypeId)) (a1 a2 a3 : Option Addr) (c1 c2 c3 g h : Nat) (X : Kn w W L) (ho : L[3]? = some (g, #[.slice a1 l.length c1, .slice a2 r.length c2, .slice a3 ps.length c3], 27)) (ho' : L[4]? = some (h, #[.int .i64 0], 3)) (V : Ck W W.heap.size (.agg #[.slice a1 l.length c1, .slice a2 r.length c2, .slice a3 ps.length c3]) l r ps) => iDiv_any w W L 3 4 g h 0 f a1 a2 a3 c1 c2 c3 l r ps 2001 X ho ho' V w0f (by omega) hf ⟨by omega, by omega⟩ (by omega))
    obtain ⟨L1, hL1⟩ : ∃ q, q = crL l r ps f := ⟨_, rfl⟩
    obtain ⟨R1, hR1⟩ : ∃ q, q = crR l r ps f := ⟨_, rfl⟩
    obtain ⟨Q1, hQ1⟩ : ∃ q, q = crP l r ps f := ⟨_, rfl⟩
    obtain ⟨s1, hs1⟩ : ∃ q, q = crS l r ps f := ⟨_, rfl⟩
    rw [← hL1, ← hR1, ← hQ1] at W2 S2 T2 hE ⊢
    rw [← hL1, ← hR1, ← hQ1] at W1
    rw [← hs1] at S1 ⊢
    rw [← hL1, ← hR1, ← hQ1, ← hs1] at D1
    clear hL1 hR1 hQ1 hs1 T1 w0f
    have D2 := hide (fun (W : World) (L : List (Nat × Array Value × TypeId)) (a1 a2 a3 : Option Addr) (c1 c2 c3 g h : Nat) (X : Kn w W L) (ho : L[3]? = some (g, #[.slice a1 L1.length c1, .slice a2 R1.length c2, .slice a3 Q1.length c3], 27)) (ho' : L[4]? = some (h, #[.int .i64 (s1.length : Int)], 3)) (V : Ck W W.heap.size (.agg #[.slice a1 L1.length c1, .slice a2 R1.length c2, .slice a3 Q1.length c3]) L1 R1 Q1) => iDiv_any w W L 3 4 g h (s1.length : Int) t a1 a2 a3 c1 c2 c3 L1 R1 Q1 (2001 + 1) X ho ho' V W1 (by omega) ht ⟨by omega, by omega⟩ (by omega))
    obtain ⟨L2, hL2⟩ : ∃ q, q = crL L1 R1 Q1 t := ⟨_, rfl⟩
    obtain ⟨R2, hR2⟩ : ∃ q, q = crR L1 R1 Q1 t := ⟨_, rfl⟩
    obtain ⟨Q2, hQ2⟩ : ∃ q, q = crP L1 R1 Q1 t := ⟨_, rfl⟩
    obtain ⟨s2, hs2⟩ : ∃ q, q = crS L1 R1 Q1 t := ⟨_, rfl⟩
    rw [← hL2, ← hR2, ← hQ2] at W2 ⊢
    rw [← hs2] at S2 ⊢
    rw [← hQ2] at hE
    rw [← hL2, ← hR2, ← hQ2, ← hs2] at D2
    clear hL2 hR2 hQ2 hs2 T2
    have K1 := hide (fun (W : World) (x y z : Value) (lo hi p1 q1 p2 q2 p3 q3 : Nat) (h : OC W x y z L1 R1 Q1 lo hi p1 q1 p2 q2 p3 q3) => h.ck W1.2.2.2.1 W1.2.2.2.2.1 (by have := W1.2.2.1; omega) W1.2.2.2.2.2)
    rw [← hE] at D1
    clear hE
    obtain ⟨e1, he1⟩ : ∃ q, q = fndP Q2 f := ⟨_, rfl⟩
    obtain ⟨e2, he2⟩ : ∃ q, q = fndP Q2 t := ⟨_, rfl⟩
    rw [← he1] at D1 ⊢
    rw [← he2] at D2 ⊢
    clear he1 he2
    obtain ⟨e1, e1b⟩ := e1
    obtain ⟨e2, e2b⟩ := e2
    simp only at D1 D2 ⊢
    obtain ⟨nn, hnn⟩ : ∃ q : Nat, q = s1.length + s2.length := ⟨_, rfl⟩
    rw [← hnn]
    have HNN := hide hnn
    clear hnn
    clear h0 h1 wl wr wpl wp hf ht W1 W2 S1 S2
    have X := hide (Kn.three w #[.slice a1 l.length c1, .slice a2 r.length c2, .slice a3 ps.length c3] #[.int .i64 f, .int .i64 t] #[.slice none 0 0, .slice none 0 0, .slice none 0 0] 27 43 27)
    obtain ⟨w1, hw1⟩ : ∃ q, q = ((w.alloc (.cells #[.slice a1 l.length c1, .slice a2 r.length c2, .slice a3 ps.length c3] 27)).alloc (.cells #[.int .i64 f, .int .i64 t] 43)).alloc (.cells #[.slice none 0 0, .slice none 0 0, .slice none 0 0] 27) := ⟨_, rfl⟩
    have N0 := hide (show w1.heap.size = w.heap.size + 1 + 1 + 1 by rw [hw1]; simp)
    rw [← hw1] at X
    have c00 : w1.cell? ⟨w.heap.size, 0, none⟩ = some (.slice a1 l.length c1) := X.out.cell 0 0 rfl rfl
    have c01 : w1.cell? ⟨w.heap.size, 1, none⟩ = some (.slice a2 r.length c2) := X.out.cell 0 1 rfl rfl
    have c02 : w1.cell? ⟨w.heap.size, 2, none⟩ = some (.slice a3 ps.length c3) := X.out.cell 0 2 rfl rfl
    have c10 : w1.cell? ⟨w.heap.size + 1, 0, none⟩ = some (.int .i64 f) := X.out.cell 1 0 rfl rfl
    have c11 : w1.cell? ⟨w.heap.size + 1, 1, none⟩ = some (.int .i64 t) := X.out.cell 1 1 rfl rfl
    have c20 : w1.cell? ⟨w.heap.size + 1 + 1, 0, none⟩ = some (.slice none 0 0) := X.out.cell 2 0 rfl rfl
    have c21 : w1.cell? ⟨w.heap.size + 1 + 1, 1, none⟩ = some (.slice none 0 0) := X.out.cell 2 1 rfl rfl
    have c22 : w1.cell? ⟨w.heap.size + 1 + 1, 2, none⟩ = some (.slice none 0 0) := X.out.cell 2 2 rfl rfl
    rw [hw1] at c00 c01 c02 c10 c11 c20 c21 c22
    go_enter Try.func23, Try.ntmps23
    go_wp2_with fail
    rw [← hw1]
    clear hw1 c00 c01 c02 c10 c11 c20 c21 c22
    go_at_call 57
    refine (CC.out _ X.out.below).mono ?_
    rintro e w2 ⟨x, y, z, loC, hiC, p1, q1, p2, q2, p3, q3, rfl, hlo, hhi, CD, hb⟩
    have HC := hide hlo
    obtain ⟨gC1, kC1, rfl⟩ := CD.x.form
    obtain ⟨gC2, kC2, rfl⟩ := CD.y.form
    obtain ⟨gC3, kC3, rfl⟩ := CD.z.own.form
    have CD := hide CD
    clear hlo hhi
    have X := hide (X.out.up hb)
    have N1 := hide hb.size
    clear hb
    have hbl := below2 w2 (.cells #[.slice gC1 l.length kC1, .slice gC2 r.length kC2, .slice gC3 ps.length kC3] 27) (.cells #[.int .i64 0] 3)
    have X := hide ((X.out.alloc #[.slice gC1 l.length kC1, .slice gC2 r.length kC2, .slice gC3 ps.length kC3] 27).alloc #[.int .i64 0] 3)
    have CD := hide (CD.out.below hbl)
    clear hbl
    obtain ⟨w3, hw3⟩ : ∃ q, q = (w2.alloc (.cells #[.slice gC1 l.length kC1, .slice gC2 r.length kC2, .slice gC3 ps.length kC3] 27)).alloc (.cells #[.int .i64 0] 3) := ⟨_, rfl⟩
    obtain ⟨gx, hgx⟩ : ∃ q, q = w2.heap.size := ⟨_, rfl⟩
    have NB := hide (show gx = w2.heap.size ∧ w3.heap.size = gx + 1 + 1 by rw [hw3, hgx]; simp)
    rw [show (w2.alloc (.cells #[.slice gC1 l.length kC1, .slice gC2 r.length kC2, .slice gC3 ps.length kC3] 27)).heap.size = gx + 1 by rw [hgx]; simp] at X
    rw [← hw3] at X CD
    rw [← hgx] at X
    simp only [List.cons_append, List.nil_append] at X
    have c00 : w3.cell? ⟨w.heap.size, 0, none⟩ = some (.slice a1 l.length c1) := X.out.cell 0 0 rfl rfl
    have c01 : w3.cell? ⟨w.heap.size, 1, none⟩ = some (.slice a2 r.length c2) := X.out.cell 0 1 rfl rfl
    have c02 : w3.cell? ⟨w.heap.size, 2, none⟩ = some (.slice a3 ps.length c3) := X.out.cell 0 2 rfl rfl
    have c10 : w3.cell? ⟨w.heap.size + 1, 0, none⟩ = some (.int .i64 f) := X.out.cell 1 0 rfl rfl
    have c11 : w3.cell? ⟨w.heap.size + 1, 1, none⟩ = some (.int .i64 t) := X.out.cell 1 1 rfl rfl
    have c20 : w3.cell? ⟨w.heap.size + 1 + 1, 0, none⟩ = some (.slice none 0 0) := X.out.cell 2 0 rfl rfl
    have c21 : w3.cell? ⟨w.heap.size + 1 + 1, 1, none⟩ = some (.slice none 0 0) := X.out.cell 2 1 rfl rfl
    have c22 : w3.cell? ⟨w.heap.size + 1 + 1, 2, none⟩ = some (.slice none 0 0) := X.out.cell 2 2 rfl rfl
    have c30 : w3.cell? ⟨gx, 0, none⟩ = some (.slice gC1 l.length kC1) := X.out.cell 3 0 rfl rfl
    have c31 : w3.cell? ⟨gx, 1, none⟩ = some (.slice gC2 r.length kC2) := X.out.cell 3 1 rfl rfl
    have c32 : w3.cell? ⟨gx, 2, none⟩ = some (.slice gC3 ps.length kC3) := X.out.cell 3 2 rfl rfl
    have c40 : w3.cell? ⟨gx + 1, 0, none⟩ = some (.int .i64 0) := X.out.cell 4 0 rfl rfl
    rw [hw3] at c00 c01 c02 c10 c11 c20 c21 c22 c30 c31 c32 c40
    go_wp2_with fail
    rw [← hw3]
    try rw [← hgx]
    clear hw3 hgx
    clear c00 c01 c02 c10 c11 c20 c21 c22 c30 c31 c32 c40
    go_at_call 19
    refine (CK.out _ X.out.below).mono ?_
    rintro e w4 ⟨rfl, hb⟩
    have X := hide (X.out.up hb)
    have CD := hide (CD.out.below hb)
    have N4 := hide hb.size
    clear hb
    have c00 : w4.cell? ⟨w.heap.size, 0, none⟩ = some (.slice a1 l.length c1) := X.out.cell 0 0 rfl rfl
    have c01 : w4.cell? ⟨w.heap.size, 1, none⟩ = some (.slice a2 r.length c2) := X.out.cell 0 1 rfl rfl
    have c02 : w4.cell? ⟨w.heap.size, 2, none⟩ = some (.slice a3 ps.length c3) := X.out.cell 0 2 rfl rfl
    have c10 : w4.cell? ⟨w.heap.size + 1, 0, none⟩ = some (.int .i64 f) := X.out.cell 1 0 rfl rfl
    have c11 : w4.cell? ⟨w.heap.size + 1, 1, none⟩ = some (.int .i64 t) := X.out.cell 1 1 rfl rfl
    have c20 : w4.cell? ⟨w.heap.size + 1 + 1, 0, none⟩ = some (.slice none 0 0) := X.out.cell 2 0 rfl rfl
    have c21 : w4.cell? ⟨w.heap.size + 1 + 1, 1, none⟩ = some (.slice none 0 0) := X.out.cell 2 1 rfl rfl
    have c22 : w4.cell? ⟨w.heap.size + 1 + 1, 2, none⟩ = some (.slice none 0 0) := X.out.cell 2 2 rfl rfl
    have c30 : w4.cell? ⟨gx, 0, none⟩ = some (.slice gC1 l.length kC1) := X.out.cell 3 0 rfl rfl
    have c31 : w4.cell? ⟨gx, 1, none⟩ = some (.slice gC2 r.length kC2) := X.out.cell 3 1 rfl rfl
    have c32 : w4.cell? ⟨gx, 2, none⟩ = some (.slice gC3 ps.length kC3) := X.out.cell 3 2 rfl rfl
    have c40 : w4.cell? ⟨gx + 1, 0, none⟩ = some (.int .i64 0) := X.out.cell 4 0 rfl rfl
    go_wp2_with fail
    clear c00 c01 c02 c10 c11 c20 c21 c22 c30 c31 c32 c40
    go_at_call 75
    refine (CR.out _).mono ?_
    rintro e w5 ⟨rfl, hb⟩
    have X := hide (X.out.up hb)
    have CD := hide (CD.out.below hb)
    have N5 := hide hb.size
    clear hb
    have c00 : w5.cell? ⟨w.heap.size, 0, none⟩ = some (.slice a1 l.length c1) := X.out.cell 0 0 rfl rfl
    have c01 : w5.cell? ⟨w.heap.size, 1, none⟩ = some (.slice a2 r.length c2) := X.out.cell 0 1 rfl rfl
    have c02 : w5.cell? ⟨w.heap.size, 2, none⟩ = some (.slice a3 ps.length c3) := X.out.cell 0 2 rfl rfl
    have c10 : w5.cell? ⟨w.heap.size + 1, 0, none⟩ = some (.int .i64 f) := X.out.cell 1 0 rfl rfl
    have c11 : w5.cell? ⟨w.heap.size + 1, 1, none⟩ = some (.int .i64 t) := X.out.cell 1 1 rfl rfl
    have c20 : w5.cell? ⟨w.heap.size + 1 + 1, 0, none⟩ = some (.slice none 0 0) := X.out.cell 2 0 rfl rfl
    have c21 : w5.cell? ⟨w.heap.size + 1 + 1, 1, none⟩ = some (.slice none 0 0) := X.out.cell 2 1 rfl rfl
    have c22 : w5.cell? ⟨w.heap.size + 1 + 1, 2, none⟩ = some (.slice none 0 0) := X.out.cell 2 2 rfl rfl
    have c30 : w5.cell? ⟨gx, 0, none⟩ = some (.slice gC1 l.length kC1) := X.out.cell 3 0 rfl rfl
    have c31 : w5.cell? ⟨gx, 1, none⟩ = some (.slice gC2 r.length kC2) := X.out.cell 3 1 rfl rfl
    have c32 : w5.cell? ⟨gx, 2, none⟩ = some (.slice gC3 ps.length kC3) := X.out.cell 3 2 rfl rfl
    have c40 : w5.cell? ⟨gx + 1, 0, none⟩ = some (.int .i64 0) := X.out.cell 4 0 rfl rfl
    go_wp2_with fail
    clear c00 c01 c02 c10 c11 c20 c21 c22 c30 c31 c32 c40
    go_at_call 76
    refine (D1.out _ _ _ _ _ _ _ _ _ _ X.out rfl rfl (K0.out _ _ _ _ _ _ _ _ _ _ _ _ CD.out)).mono ?_
    rintro e w6 ⟨kA1, kA2, kA3, loA, hiA, p1, q1, p2, q2, p3, q3, gA1, gA2, gA3, rfl, X9, CA, H9, H9', hs9⟩
    simp only [List.set_cons_succ, List.set_cons_zero] at X9
    rw [show (0 : Int) + ((s1.length : Nat) : Int) = (s1.length : Int) by omega] at X9
    have X := hide X9
    have CA := hide CA
    have HA := hide H9
    have JA := hide H9'
    have MA := hide hs9
    clear X9 H9 H9' hs9 CD
    have c00 : w6.cell? ⟨w.heap.size, 0, none⟩ = some (.slice a1 l.length c1) := X.out.cell 0 0 rfl rfl
    have c01 : w6.cell? ⟨w.heap.size, 1, none⟩ = some (.slice a2 r.length c2) := X.out.cell 0 1 rfl rfl
    have c02 : w6.cell? ⟨w.heap.size, 2, none⟩ = some (.slice a3 ps.length c3) := X.out.cell 0 2 rfl rfl
    have c10 : w6.cell? ⟨w.heap.size + 1, 0, none⟩ = some (.int .i64 f) := X.out.cell 1 0 rfl rfl
    have c11 : w6.cell? ⟨w.heap.size + 1, 1, none⟩ = some (.int .i64 t) := X.out.cell 1 1 rfl rfl
    have c20 : w6.cell? ⟨w.heap.size + 1 + 1, 0, none⟩ = some (.slice none 0 0) := X.out.cell 2 0 rfl rfl
    have c21 : w6.cell? ⟨w.heap.size + 1 + 1, 1, none⟩ = some (.slice none 0 0) := X.out.cell 2 1 rfl rfl
    have c22 : w6.cell? ⟨w.heap.size + 1 + 1, 2, none⟩ = some (.slice none 0 0) := X.out.cell 2 2 rfl rfl
    have c30 : w6.cell? ⟨gx, 0, none⟩ = some (.slice gA1 L1.length kA1) := X.out.cell 3 0 rfl rfl
    have c31 : w6.cell? ⟨gx, 1, none⟩ = some (.slice gA2 R1.length kA2) := X.out.cell 3 1 rfl rfl
    have c32 : w6.cell? ⟨gx, 2, none⟩ = some (.slice gA3 Q1.length kA3) := X.out.cell 3 2 rfl rfl
    have c40 : w6.cell? ⟨gx + 1, 0, none⟩ = some (.int .i64 (s1.length : Int)) := X.out.cell 4 0 rfl rfl
    go_wp2_with fail
    clear c00 c01 c02 c10 c11 c20 c21 c22 c30 c31 c32 c40
    go_at_call 76
    refine (D2.out _ _ _ _ _ _ _ _ _ _ X.out rfl rfl (K1.out _ _ _ _ _ _ _ _ _ _ _ _ CA.out)).mono ?_
    rintro e w7 ⟨kE1, kE2, kE3, loE, hiE, p1, q1, p2, q2, p3, q3, gE1, gE2, gE3, rfl, X9, CE, H9, H9', hs9⟩
    simp only [List.set_cons_succ, List.set_cons_zero] at X9
    rw [show (s1.length : Int) + (s2.length : Int) = ((nn : Nat) : Int) by have := HNN.out; omega] at X9
    have X := hide X9
    have CE := hide CE
    have HE := hide H9
    have JE := hide H9'
    have ME := hide hs9
    clear X9 H9 H9' hs9 CA
    have f0' := X.out.free 2 0 rfl
    have f1' := X.out.free 2 1 rfl
    have f2' := X.out.free 2 2 rfl
    have hne := X.out.ne 2 3 rfl rfl (by omega)
    have hne' := X.out.ne 2 4 rfl rfl (by omega)
    have hn3 := fun e => hne (Eq.symm e)
    have hn4 := fun e => hne' (Eq.symm e)
    have c00 : w7.cell? ⟨w.heap.size, 0, none⟩ = some (.slice a1 l.length c1) := X.out.cell 0 0 rfl rfl
    have c01 : w7.cell? ⟨w.heap.size, 1, none⟩ = some (.slice a2 r.length c2) := X.out.cell 0 1 rfl rfl
    have c02 : w7.cell? ⟨w.heap.size, 2, none⟩ = some (.slice a3 ps.length c3) := X.out.cell 0 2 rfl rfl
    have c10 : w7.cell? ⟨w.heap.size + 1, 0, none⟩ = some (.int .i64 f) := X.out.cell 1 0 rfl rfl
    have c11 : w7.cell? ⟨w.heap.size + 1, 1, none⟩ = some (.int .i64 t) := X.out.cell 1 1 rfl rfl
    have c20 : w7.cell? ⟨w.heap.size + 1 + 1, 0, none⟩ = some (.slice none 0 0) := X.out.cell 2 0 rfl rfl
    have c21 : w7.cell? ⟨w.heap.size + 1 + 1, 1, none⟩ = some (.slice none 0 0) := X.out.cell 2 1 rfl rfl
    have c22 : w7.cell? ⟨w.heap.size + 1 + 1, 2, none⟩ = some (.slice none 0 0) := X.out.cell 2 2 rfl rfl
    have c30 : w7.cell? ⟨gx, 0, none⟩ = some (.slice gE1 L2.length kE1) := X.out.cell 3 0 rfl rfl
    have c31 : w7.cell? ⟨gx, 1, none⟩ = some (.slice gE2 R2.length kE2) := X.out.cell 3 1 rfl rfl
    have c32 : w7.cell? ⟨gx, 2, none⟩ = some (.slice gE3 Q2.length kE3) := X.out.cell 3 2 rfl rfl
    have c40 : w7.cell? ⟨gx + 1, 0, none⟩ = some (.int .i64 (nn : Int)) := X.out.cell 4 0 rfl rfl
    go_upto_region 1 with fail
    go_region
    have Z := (((X.out.set 2 0 rfl (.slice gE1 L2.length kE1)).set 2 1 rfl (.slice gE2 R2.length kE2)).set 2 2 rfl (.slice gE3 Q2.length kE3)).drew
    have z0 := Z.cell 2 0 rfl rfl
    have z1 := Z.cell 2 1 rfl rfl
    have z2 := Z.cell 2 2 rfl rfl
    have qN0 := N0.out
    have qN1 := N1.out
    have qHC := HC.out
    have qNB := NB.out
    have qN4 := N4.out
    have qN5 := N5.out
    have qHA := HA.out
    have qJA := JA.out
    have qMA := MA.out
    have qHE := HE.out
    have qJE := JE.out
    have qME := ME.out
    have O9 := (CE.out.seg (seg3 _ (w.heap.size + 1 + 1) (.slice gE1 L2.length kE1) (.slice gE2 R2.length kE2) (.slice gE3 Q2.length kE3)) (.inr (by omega))).below (Below.refl _ _).drew
    go_wp2_with fail
    exact bodyPost_ret (v := .tuple #[.agg #[.slice gE1 L2.length kE1, .slice gE2 R2.length kE2, .slice gE3 Q2.length kE3], .int .i64 e1, .int .i64 e2, .int .i64 (nn : Int)]) (by simp [results, Try.results23, go_sem, z0, z1, z2]) rfl
      ⟨_, _, _, loE, hiE, _, _, _, _, _, _, rfl, by omega, O9.top.2, O9, Z.below⟩

theorem iSel_any (u : Value) (l r : List Int) (ps : List Pv) (f t : Int) (w : World) (B : Nat) (hv : Ck w B u l r ps) (hB : B ≤ w.heap.size) (hl : l.length ≤ 1048576) (hr : r.length ≤ 1048576) (hp : ps.length ≤ 1048576) (hf : I64 f) (ht : I64 t) :
    Calls Try.prog 23 #[u, .agg #[.int .i64 f, .int .i64 t]] w (RetSel w (seL l r ps f t) (seR l r ps f t) (seP l r ps f t) (seF l r ps f t) (seT l r ps f t) (seN l r ps f t)) := by
  unfold seL seR seF seT seN seP seOk
  cases h0 : isCk l r ps with
  | false =>
    simp only [Bool.false_and, Bool.false_eq_true, if_false]
    exact iSel_no0 u l r ps f t w B hv hB hl hr hp hf ht h0
  | true =>
    cases h1 : isR f t with
    | false =>
      simp only [Bool.and_false, Bool.false_eq_true, if_false]
      exact iSel_no1 u l r ps f t w B hv hB hl hr hp hf ht h0 h1
    | true =>
      simp only [Bool.and_self, if_true]
      exact iSel_yes u l r ps f t w B hv hB hl hr hp hf ht h0 h1

end Go.Proofs.Ytkhhlifnbelckaa

/- AnswerRange: of the reference and of the program (promise 4). Written by gen_ans.py. -/
namespace Go.Proofs.Ytkhhlifnbelckaa
open Go.RowKit Go.ChangeShapes
set_option linter.unusedSimpArgs false
set_option linter.unusedVariables false
set_option maxRecDepth 100000

/-- A column and integers of the call's own are returned; nothing that was there has turned. -/
def RetOCI (w : World) (l r : List Int) (ps : List Pv) (s : List Int) (e : Ending) (w' : World) : Prop := ∃ x y z v lo hi n1 h1 n2 h2 n3 h3 m mh, e = .returned (.tuple #[.agg #[x, y, z], v]) ∧ w.heap.size ≤ lo ∧ hi ≤ m ∧ m ≤ w'.heap.size ∧ OC w' x y z l r ps lo hi n1 h1 n2 h2 n3 h3 ∧ Ow w' v s m mh ∧ Below w.heap.size w w'

/-- The rows of a range. -/
noncomputable def anL (l r : List Int) (ps : List Pv) (f t : Int) : List Int := rbL (seL l r ps f t) (seR l r ps f t) (seP l r ps f t) (seF l r ps f t) (seT l r ps f t)

theorem se_i64 {l r : List Int} {ps : List Pv} {f t : Int} (h : ∀ p ∈ seP l r ps f t, I64 p.1 ∧ I64 p.2) : I64 (seF l r ps f t) ∧ I64 (seT l r ps f t) := by
  unfold seF seT
  refine ⟨?_, ?_⟩
  · split
    · exact fnd_wf h
    · exact ⟨by omega, by omega⟩
  · split
    · exact fnd_wf h
    · exact ⟨by omega, by omega⟩


set_option maxHeartbeats 8000000 in
theorem iAns_any (u : Value) (l r : List Int) (ps : List Pv) (f t : Int) (w : World) (B : Nat) (hv : Ck w B u l r ps) (hB : B ≤ w.heap.size) (hl : l.length ≤ 1048576) (hr : r.length ≤ 1048576) (hp : ps.length ≤ 1048576) (hf : I64 f) (ht : I64 t) :
    Calls Try.prog 27 #[u, .agg #[.int .i64 f, .int .i64 t]] w (RetOCI w (seL l r ps f t) (seR l r ps f t) (seP l r ps f t) (anL l r ps f t)) := by
  · skip
    obtain ⟨a1, c1, a2, c2, a3, c3, rfl, i1, i2, i3⟩ := hv.form
    obtain ⟨wl, wr, wpl, wp⟩ := hv.wf
    have V := hide hv
    clear hv i1 i2 i3
    obtain ⟨W1, -⟩ := se_Wf (l := l) (r := r) (ps := ps) ⟨hl, hr, hp, wl, wr, wp⟩ hf ht
    obtain ⟨w64, x64⟩ := se_i64 W1.2.2.2.2.2
    have C1 := hide (fun (W : World) (h : Below w.heap.size w W) => iSel_any _ l r ps f t W B (V.out.below h hB) (Nat.le_trans hB h.size) hl hr hp hf ht)
    have HR := hide (fun (W : World) (v : Value) (h : Ck W W.heap.size v (seL l r ps f t) (seR l r ps f t) (seP l r ps f t)) => iRows_any v _ _ _ _ _ W W.heap.size h (Nat.le_refl _) w64 x64 W1.2.1)
    unfold anL
    obtain ⟨L1, hL1⟩ : ∃ q, q = seL l r ps f t := ⟨_, rfl⟩
    obtain ⟨R1, hR1⟩ : ∃ q, q = seR l r ps f t := ⟨_, rfl⟩
    obtain ⟨Q1, hQ1⟩ : ∃ q, q = seP l r ps f t := ⟨_, rfl⟩
    obtain ⟨e1, he1⟩ : ∃ q, q = seF l r ps f t := ⟨_, rfl⟩
    obtain ⟨e2, he2⟩ : ∃ q, q = seT l r ps f t := ⟨_, rfl⟩
    obtain ⟨nn, hnn⟩ : ∃ q, q = seN l r ps f t := ⟨_, rfl⟩
    rw [← hL1, ← hR1, ← hQ1, ← he1, ← he2, ← hnn] at C1
    rw [← hL1, ← hR1, ← hQ1, ← he1, ← he2] at HR ⊢
    rw [← hL1, ← hR1, ← hQ1] at W1
    clear hL1 hR1 hQ1 he1 he2 hnn w64 x64
    have K1 := hide (fun (W : World) (x y z : Value) (lo hi p1 q1 p2 q2 p3 q3 : Nat) (h : OC W x y z L1 R1 Q1 lo hi p1 q1 p2 q2 p3 q3) => h.ck W1.2.2.2.1 W1.2.2.2.2.1 (by have := W1.2.2.1; omega) W1.2.2.2.2.2)
    obtain ⟨sl, hsl⟩ : ∃ q, q = rbL L1 R1 Q1 e1 e2 := ⟨_, rfl⟩
    rw [← hsl] at HR ⊢
    clear hsl wl wr wpl wp hf ht W1
    have X := hide (Kn.three w #[.slice a1 l.length c1, .slice a2 r.length c2, .slice a3 ps.length c3] #[.int .i64 f, .int .i64 t] #[.slice none 0 0, .slice none 0 0, .slice none 0 0] 27 43 27)
    obtain ⟨w1, hw1⟩ : ∃ q, q = ((w.alloc (.cells #[.slice a1 l.length c1, .slice a2 r.length c2, .slice a3 ps.length c3] 27)).alloc (.cells #[.int .i64 f, .int .i64 t] 43)).alloc (.cells #[.slice none 0 0, .slice none 0 0, .slice none 0 0] 27) := ⟨_, rfl⟩
    have N0 := hide (show w1.heap.size = w.heap.size + 1 + 1 + 1 by rw [hw1]; simp)
    rw [← hw1] at X
    have c00 : w1.cell? ⟨w.heap.size, 0, none⟩ = some (.slice a1 l.length c1) := X.out.cell 0 0 rfl rfl
    have c01 : w1.cell? ⟨w.heap.size, 1, none⟩ = some (.slice a2 r.length c2) := X.out.cell 0 1 rfl rfl
    have c02 : w1.cell? ⟨w.heap.size, 2, none⟩ = some (.slice a3 ps.length c3) := X.out.cell 0 2 rfl rfl
    have c10 : w1.cell? ⟨w.heap.size + 1, 0, none⟩ = some (.int .i64 f) := X.out.cell 1 0 rfl rfl
    have c11 : w1.cell? ⟨w.heap.size + 1, 1, none⟩ = some (.int .i64 t) := X.out.cell 1 1 rfl rfl
    have c20 : w1.cell? ⟨w.heap.size + 1 + 1, 0, none⟩ = some (.slice none 0 0) := X.out.cell 2 0 rfl rfl
    have c21 : w1.cell? ⟨w.heap.size + 1 + 1, 1, none⟩ = some (.slice none 0 0) := X.out.cell 2 1 rfl rfl
    have c22 : w1.cell? ⟨w.heap.size + 1 + 1, 2, none⟩ = some (.slice none 0 0) := X.out.cell 2 2 rfl rfl
    rw [hw1] at c00 c01 c02 c10 c11 c20 c21 c22
    go_enter Try.func27, Try.ntmps27
    go_wp2_with fail
    rw [← hw1]
    clear hw1 c00 c01 c02 c10 c11 c20 c21 c22
    go_at_call 23
    refine (C1.out _ X.out.below).mono ?_
    rintro e w2 ⟨x, y, z, loA, hiA, pA1, qA1, pA2, qA2, pA3, qA3, rfl, hlo, hhi, CA, hb⟩
    obtain ⟨gA1, kA1, rfl⟩ := CA.x.form
    obtain ⟨gA2, kA2, rfl⟩ := CA.y.form
    obtain ⟨gA3, kA3, rfl⟩ := CA.z.own.form
    have HA := hide hlo
    have JA := hide hhi
    clear hlo hhi
    have X := hide (X.out.up hb)
    have N1 := hide hb.size
    clear hb
    have CA := hide CA
    have hbl := below1 w2 (.cells #[.slice gA1 L1.length kA1, .slice gA2 R1.length kA2, .slice gA3 Q1.length kA3] 27)
    have X := hide (X.out.alloc #[.slice gA1 L1.length kA1, .slice gA2 R1.length kA2, .slice gA3 Q1.length kA3] 27)
    have CA := hide (CA.out.below hbl)
    clear hbl
    obtain ⟨w3, hw3⟩ : ∃ q, q = w2.alloc (.cells #[.slice gA1 L1.length kA1, .slice gA2 R1.length kA2, .slice gA3 Q1.length kA3] 27) := ⟨_, rfl⟩
    obtain ⟨b3, hb3⟩ : ∃ q, q = w2.heap.size := ⟨_, rfl⟩
    have N4 := hide (show b3 = w2.heap.size ∧ w3.heap.size = w2.heap.size + 1 by rw [hw3, hb3]; simp)
    rw [← hw3] at X CA
    rw [← hb3] at X
    simp only [List.cons_append, List.nil_append] at X
    have c00 : w3.cell? ⟨w.heap.size, 0, none⟩ = some (.slice a1 l.length c1) := X.out.cell 0 0 rfl rfl
    have c01 : w3.cell? ⟨w.heap.size, 1, none⟩ = some (.slice a2 r.length c2) := X.out.cell 0 1 rfl rfl
    have c02 : w3.cell? ⟨w.heap.size, 2, none⟩ = some (.slice a3 ps.length c3) := X.out.cell 0 2 rfl rfl
    have c10 : w3.cell? ⟨w.heap.size + 1, 0, none⟩ = some (.int .i64 f) := X.out.cell 1 0 rfl rfl
    have c11 : w3.cell? ⟨w.heap.size + 1, 1, none⟩ = some (.int .i64 t) := X.out.cell 1 1 rfl rfl
    have c20 : w3.cell? ⟨w.heap.size + 1 + 1, 0, none⟩ = some (.slice none 0 0) := X.out.cell 2 0 rfl rfl
    have c21 : w3.cell? ⟨w.heap.size + 1 + 1, 1, none⟩ = some (.slice none 0 0) := X.out.cell 2 1 rfl rfl
    have c22 : w3.cell? ⟨w.heap.size + 1 + 1, 2, none⟩ = some (.slice none 0 0) := X.out.cell 2 2 rfl rfl
    have c30 : w3.cell? ⟨b3, 0, none⟩ = some (.slice gA1 L1.length kA1) := X.out.cell 3 0 rfl rfl
    have c31 : w3.cell? ⟨b3, 1, none⟩ = some (.slice gA2 R1.length kA2) := X.out.cell 3 1 rfl rfl
    have c32 : w3.cell? ⟨b3, 2, none⟩ = some (.slice gA3 Q1.length kA3) := X.out.cell 3 2 rfl rfl
    rw [hw3] at c00 c01 c02 c10 c11 c20 c21 c22 c30 c31 c32
    go_upto_region 1 with fail
    rw [← hw3]
    try rw [← hb3]
    rw [← hw3] at c00 c01 c02 c10 c11 c20 c21 c22 c30 c31 c32
    clear hw3 hb3
    have hne := X.out.ne 2 3 rfl rfl (by omega)
    have hn3 := fun e => hne (Eq.symm e)
    have q0 := N0.out
    have qH := HA.out
    have hG := hide (show w.heap.size + 1 + 1 + 1 ≤ loA by have := N1.out; have := HA.out; have := JA.out; have := N4.out; omega)
    have hS := hide (show w.heap.size + 1 + 1 + 1 ≤ w3.heap.size by have := N1.out; have := HA.out; have := JA.out; have := N4.out; omega)
    clear q0 qH
    have CA := hide (CA.out.below (Below.refl _ _).drew)
    have CB := hide (CA.out.seg (seg3 _ (w.heap.size + 1 + 1) (.slice gA1 L1.length kA1) (.slice gA2 R1.length kA2) (.slice gA3 Q1.length kA3)) (.inr hG.out))
    have X := hide X.out.drew
    have XZ := hide (((X.out.set 2 0 rfl (.slice gA1 L1.length kA1)).set 2 1 rfl (.slice gA2 R1.length kA2)).set 2 2 rfl (.slice gA3 Q1.length kA3))
    have f0' : w3.frozen? ⟨w.heap.size + 1 + 1, 0, none⟩ = false := X.out.free 2 0 rfl
    have f1' : w3.frozen? ⟨w.heap.size + 1 + 1, 1, none⟩ = false := X.out.free 2 1 rfl
    have f2' : w3.frozen? ⟨w.heap.size + 1 + 1, 2, none⟩ = false := X.out.free 2 2 rfl
    go_region_held3 (fun w' => w'.cell? ⟨b3, 0, none⟩ = some (.slice gA1 L1.length kA1) ∧ w'.cell? ⟨b3, 1, none⟩ = some (.slice gA2 R1.length kA2) ∧ w'.cell? ⟨b3, 2, none⟩ = some (.slice gA3 Q1.length kA3)) (first | exact ⟨c30, c31, c32⟩ | (exact (fun X4 => ⟨Kn.cell X4 3 0 rfl rfl, Kn.cell X4 3 1 rfl rfl, Kn.cell X4 3 2 rfl rfl⟩) (((X.out.set 2 0 rfl _).set 2 1 rfl _).set 2 2 rfl _)) | go_keep) (first
      | (go_at_call 29; refine (HR.out _ _ (K1.out _ _ _ _ _ _ _ _ _ _ _ _ (by first | exact CA.out | exact CB.out))).mono ?_; rintro e wq ⟨v, mh, rfl, OR, hb⟩; obtain ⟨gv, kv, rfl⟩ := OR.form; have hM := hide CA.out.top.2; (first | (have X := hide (X.out.up hb); have CA := hide (CA.out.below hb)) | (have X := hide (XZ.out.up hb); have CA := hide (CB.out.below hb))); have OR := hide OR; have hm := hide hb.size; have c30 : wq.cell? ⟨b3, 0, none⟩ = some (.slice gA1 L1.length kA1) := X.out.cell 3 0 rfl rfl; have c31 : wq.cell? ⟨b3, 1, none⟩ = some (.slice gA2 R1.length kA2) := X.out.cell 3 1 rfl rfl; have c32 : wq.cell? ⟨b3, 2, none⟩ = some (.slice gA3 Q1.length kA3) := X.out.cell 3 2 rfl rfl; have c20 := X.out.cell 2 0 rfl rfl; have c21 := X.out.cell 2 1 rfl rfl; have c22 := X.out.cell 2 2 rfl rfl; have f0' := X.out.free 2 0 rfl; have f1' := X.out.free 2 1 rfl; have f2' := X.out.free 2 2 rfl))
    go_wp2_with fail
    have Z := ((X.out.set 2 0 rfl (.slice gA1 L1.length kA1)).set 2 1 rfl (.slice gA2 R1.length kA2)).set 2 2 rfl (.slice gA3 Q1.length kA3)
    have z0 := Z.cell 2 0 rfl rfl
    have z1 := Z.cell 2 1 rfl rfl
    have z2 := Z.cell 2 2 rfl rfl
    have O9 := CA.out.seg (seg3 _ (w.heap.size + 1 + 1) (.slice gA1 L1.length kA1) (.slice gA2 R1.length kA2) (.slice gA3 Q1.length kA3)) (.inr hG.out)
    have R9 := OR.out.seg (seg3 _ (w.heap.size + 1 + 1) (.slice gA1 L1.length kA1) (.slice gA2 R1.length kA2) (.slice gA3 Q1.length kA3)) (.inr hS.out)
    have q0 := hG.out
    exact bodyPost_ret (v := .tuple #[.agg #[.slice gA1 L1.length kA1, .slice gA2 R1.length kA2, .slice gA3 Q1.length kA3], .slice gv sl.length kv]) (by simp [results, Try.results27, go_sem, z0, z1, z2]) rfl
      ⟨_, _, _, _, loA, hiA, _, _, _, _, _, _, _, mh, rfl, by omega, hM.out, Nat.le_trans R9.le R9.top, O9, R9, Z.below⟩


end Go.Proofs.Ytkhhlifnbelckaa
