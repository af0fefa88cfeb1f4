/- Several texts in one: DrC, FpM, DrD, CkX, FpD, DrE, DrF. -/
import Derived.Test.YtfldnjkojdnjcaaCb
import Derived.Test.YtfldnjkojdnjcaaCa
import Derived.Test.YtfldnjkojdnjcaaCd
import Derived.Test.YtfldnjkojdnjcaaCkE
import Derived.Test.YtfldnjkojdnjcaaAdS
import Derived.Deep.RegionLaw
/- Drawn columns: a value near to one of a column's (promise 3). -/
namespace Go.Proofs.Ytfldnjkojdnjcaa
open Go.RowKit Go.ChangeShapes
set_option linter.unusedSimpArgs false
set_option linter.unusedVariables false
set_option maxRecDepth 100000

/-- A drawn bool is returned, the reader stands, of what was there only its block may have turned. -/
def RetDB (B : Nat) (a : Option Addr) (len cap g : Nat) (w : World) (e : Ending) (w' : World) : Prop := ∃ b : Bool, e = .returned (.bool b) ∧ Rd B a len cap w' g ∧ Only [g] w w'

theorem once_d (B : Nat) (a : Option Addr) (len cap g : Nat) (w : World) (h : Rd B a len cap w g) (n : Int) (hn : 1 ≤ n) (hn2 : n ≤ 1000) :
    Calls Try.prog 114 #[.pointer (some ⟨g, 0, none⟩), .int .i64 n] w (RetDB B a len cap g w) := by
  have H := hide h
  clear h
  go_enter Try.func114, Try.ntmps114
  go_wp2_with fail
  refine (below_d B a len cap g _ H.out n hn (by omega)).mono ?_
  rintro e wa ⟨x, -, rfl, hr, ho⟩
  have HR := hide hr
  have HO := hide ho
  clear hr ho
  go_wp2_with fail
  go_ret
  exact ⟨_, rfl, HR.out, HO.out⟩

theorem OC.only {w w' : World} {x y z : Value} {l r : List Int} {ps : List Pv} {lo hi n1 h1 n2 h2 n3 h3 g : Nat} (h : OC w x y z l r ps lo hi n1 h1 n2 h2 n3 h3) (ho : Only [g] w w') (hg : g < lo) : OC w' x y z l r ps lo hi n1 h1 n2 h2 n3 h3 := by
  have ht := h.top
  have s : Seg g (g + 1) w w' := ho.seg (by intro b hb; simp at hb; omega) (by omega)
  exact h.seg s (.inr (by omega))

theorem Ow.at2 {w : World} {g n c lo hi : Nat} {l : List Int} (h : Ow w (.slice (some ⟨g, 0, none⟩) n c) l lo hi) (j : Nat) (hj : j < l.length) : w.cell? ⟨g, j, none⟩ = some (.int .i64 l[j]) := by
  obtain ⟨g', e, hc⟩ := h.at (by omega)
  obtain rfl : g = g' := by simpa using e
  exact hc j hj

/-- Small drawn numbers of a column. -/
def VP (v : Int) : Prop := -1002 ≤ v ∧ v ≤ 1002

theorem pick6 {x : Int} (h : x ∈ [(0 : Int), 3, -2, -1000, 1000, 50]) : VP x := by
  unfold VP
  simp at h
  omega

set_option maxHeartbeats 4000000 in
theorem value_d (B : Nat) (a : Option Addr) (len cap g : Nat) (w : World) (h : Rd B a len cap w g) (a1 a2 a3 : Option Addr) (c1 c2 c3 : Nat) (l r : List Int) (ps : List Pv) (lo hi n1 h1 n2 h2 n3 h3 : Nat)
    (o : OC w (.slice a1 l.length c1) (.slice a2 r.length c2) (.slice a3 ps.length c3) l r ps lo hi n1 h1 n2 h2 n3 h3) (hg : g < lo) (hl : l.length ≤ 1000) (hv : ∀ x ∈ l, -1000 ≤ x ∧ x ≤ 1000) :
    Calls Try.prog 92 #[.pointer (some ⟨g, 0, none⟩), .agg #[.slice a1 l.length c1, .slice a2 r.length c2, .slice a3 ps.length c3]] w (RetD B a len cap g w VP) := by
  have hlt := h.lt
  have R := hide (h.alloc (.cells #[.slice a1 l.length c1, .slice a2 r.length c2, .slice a3 ps.length c3] 30))
  have X := hide (Kd.one [g] w #[.slice a1 l.length c1, .slice a2 r.length c2, .slice a3 ps.length c3] 30)
  have O := hide (o.below (below1 w (.cells #[.slice a1 l.length c1, .slice a2 r.length c2, .slice a3 ps.length c3] 30)))
  have HV := hide hv
  clear hv o
  obtain ⟨w1, hw1⟩ : ∃ w1, w1 = w.alloc (.cells #[.slice a1 l.length c1, .slice a2 r.length c2, .slice a3 ps.length c3] 30) := ⟨_, rfl⟩
  have hz := hide (show w1.heap.size = w.heap.size + 1 by rw [hw1]; simp)
  rw [← hw1] at R X O
  clear h
  have PK := fun (W : World) (hr : Rd B a len cap W g) => pickI_d B a len cap g _ (hr.alloc (.cells ([(0 : Int), 3, -2, -1000, 1000, 50].map (Value.int .i64)).toArray 3)) [0, 3, -2, -1000, 1000, 50] W.heap.size 6 6 rfl (by omega) (by omega) (by have := hr.lt; omega) (by simp) (litsI W [0, 3, -2, -1000, 1000, 50] 3)
  have PK := hide PK
  have P1 := hide (show Calls Try.prog 50 #[.pointer (some ⟨g, 0, none⟩), .slice (some ⟨w.heap.size + 1, 0, none⟩) 6 6] (w1.alloc (.cells #[.int .i64 0, .int .i64 3, .int .i64 (-2), .int .i64 (-1000), .int .i64 1000, .int .i64 50] 3)) (RetD B a len cap g (w1.alloc (.cells #[.int .i64 0, .int .i64 3, .int .i64 (-2), .int .i64 (-1000), .int .i64 1000, .int .i64 50] 3)) (· ∈ [(0 : Int), 3, -2, -1000, 1000, 50])) by
    have := PK.out w1 R.out
    rw [hz.out] at this
    exact this)
  have c00 : w1.cell? ⟨w.heap.size, 0, none⟩ = some (.slice a1 l.length c1) := X.out.cell 0 0 rfl rfl
  by_cases h0 : l.length = 0
  · have t0 : decide (0 < l.length) = false := decide_eq_false (by omega)
    clear h0
    go_enter Try.func92, Try.ntmps92
    rw [hw1] at c00
    go_wp2_with fail
    rw [← hw1]
    clear hw1 c00
    refine P1.out.mono ?_
    rintro e wa ⟨x, hx, rfl, hr, ho⟩
    have hx := hide (pick6 hx)
    have R := hide hr
    have X := hide (X.out.only.trans ((Only.of_below (below1 _ _)).trans ho))
    clear hr ho
    go_wp2_with fail
    go_ret
    exact ⟨x, hx.out, rfl, R.out, X.out⟩
  · have t0 : decide (0 < l.length) = true := decide_eq_true (by omega)
    have HZ := hide h0
    clear h0
    go_enter Try.func92, Try.ntmps92
    rw [hw1] at c00
    go_wp2_with fail
    rw [← hw1]
    clear hw1 c00
    go_at_call 114
    refine (once_d B a len cap g _ R.out 4 (by omega) (by omega)).mono ?_
    rintro e w2 ⟨b, rfl, hr, ho⟩
    have R := hide hr
    have X := hide (X.out.drawn ho (by simp; exact hlt))
    have O := hide (O.out.only ho hg)
    clear hr ho
    cases b
    · have c00 : w2.cell? ⟨w.heap.size, 0, none⟩ = some (.slice a1 l.length c1) := X.out.cell 0 0 rfl rfl
      obtain ⟨gv, hgv, hcv⟩ := O.out.x.at (by have := HZ.out; omega)
      subst hgv
      have HC := hide hcv
      have HL := hide (show (1 : Int) ≤ (l.length : Int) by have := HZ.out; omega)
      have hGm := hide (show ∀ b ∈ [g], b < w.heap.size from by intro b hb; rw [List.mem_singleton.1 hb]; exact hlt)
      have HL2 := hide (show (l.length : Int) ≤ 4294967296 by omega)
      clear hcv
      go_wp2_with fail
      have R := hide (R.out.step (Below.refl _ _).drew rfl)
      have X := hide X.out.drew
      have O := hide (O.out.below (Below.refl _ _).drew)
      go_region_with (first
        | (go_at_call 44; (with_reducible refine (below_d B a len cap g _ R.out (l.length : Int) HL.out HL2.out).mono ?_); rintro e wq ⟨k, ⟨k0, k1⟩, rfl, hr, ho⟩; obtain ⟨k, rfl⟩ := Int.eq_ofNat_of_zero_le k0; have hkl : k < l.length := (by omega); replace R := hide hr; replace X := hide (X.out.drawn ho hGm.out); replace O := hide (O.out.only ho hg); clear c00; have c00 : wq.cell? ⟨w.heap.size, 0, none⟩ = some (.slice (some ⟨gv, 0, none⟩) l.length c1) := X.out.cell 0 0 rfl rfl; obtain ⟨y, hy⟩ : ∃ y, y = l[k] := ⟨_, rfl⟩; have ec := O.out.x.at2 k hkl; rw [← hy] at ec; have HY := HV.out _ (List.getElem_mem hkl); rw [← hy] at HY; replace HY := hide HY; have HYY := hide hy; clear hy hr ho k0)
        | (go_at_call 44; (with_reducible refine (below_d B a len cap g _ R.out 3 (by omega) (by omega)).mono ?_); rintro e wq ⟨j, ⟨j0, j1⟩, rfl, hr, ho⟩; replace R := hide hr; replace X := hide (X.out.drawn ho hGm.out); replace O := hide (O.out.only ho hg); clear c00; have c00 : wq.cell? ⟨w.heap.size, 0, none⟩ = some (.slice (some ⟨gv, 0, none⟩) l.length c1) := X.out.cell 0 0 rfl rfl; clear ec; have ec := O.out.x.at2 k hkl; rw [← HYY.out] at ec; have hyb := HY.out))
      all_goals go_wp2_with fail
      all_goals
        have w1' : IntKind.i64.wrap (y + j) = y + j := by rw [IntWalk.i64_left, IntWalk.wrap64_in _ (by omega)]
        have w2' : IntKind.i64.wrap (y + j - 1) = y + j - 1 := by rw [IntWalk.i64_left, IntWalk.wrap64_in _ (by omega)]
        have w3' : RowKit.wrap64 (y + j) = y + j := IntWalk.wrap64_in _ (by omega)
        have w4' : RowKit.wrap64 (y + j - 1) = y + j - 1 := IntWalk.wrap64_in _ (by omega)
        exact bodyPost_ret (v := .int .i64 (y + j - 1)) (by simp [results, Try.results92, go_sem, Act.put, w1', w2', w3', w4']) rfl ⟨y + j - 1, by unfold VP; omega, rfl, R.out, X.out.only⟩
    · go_wp2_with fail
      refine (PK.out _ R.out).mono ?_
      rintro e wa ⟨x, hx, rfl, hr, ho⟩
      have hx := hide (pick6 hx)
      have R := hide hr
      have X := hide (X.out.only.trans ((Only.of_below (below1 _ _)).trans ho))
      clear hr ho
      go_wp2_with fail
      go_ret
      exact ⟨x, hx.out, rfl, R.out, X.out⟩

end Go.Proofs.Ytfldnjkojdnjcaa

/- FnPartitions in numbers (promise 3): the swaps of a partition go inward, leave the smaller elements in front, and are undone in reverse order. Any program. -/
namespace Go.Proofs.Ytfldnjkojdnjcaa
set_option linter.unusedSimpArgs false
set_option linter.unusedVariables false

theorem swapAt_twice (l : List Int) (i j : Nat) (hi : i < l.length) (hj : j < l.length) : swapAt (swapAt l i j) i j = l := by
  apply List.ext_getElem
  · rw [swapAt_length, swapAt_length]
  · intro k h1 h2
    have e : ∀ (m : List Int) (h : k < m.length), m[k] = m.getD k 0 := fun m h => by simp [List.getD_eq_getElem?_getD, List.getElem?_eq_getElem h]
    rw [e _ h1, e _ h2, swapAt_getD _ _ _ _ (by rw [swapAt_length]; exact hi) (by rw [swapAt_length]; exact hj), swapAt_getD l i j i hi hj, swapAt_getD l i j j hi hj, swapAt_getD l i j k hi hj, if_pos rfl]
    by_cases h3 : k = j
    · subst h3
      rw [if_pos rfl]
      by_cases h4 : i = k
      · subst h4; simp
      · rw [if_neg h4]; first | done | simp
    · rw [if_neg h3, if_neg h3]
      by_cases h4 : k = i
      · subst h4; simp
      · rw [if_neg h4, if_neg h4]

theorem swaps_append : ∀ (a b : List Pv) (l : List Int), swaps l (a ++ b) = swaps (swaps l a) b
  | [], b, l => rfl
  | p :: a, b, l => by simp only [List.cons_append, swaps]; exact swaps_append a b _

theorem swaps_undo : ∀ (sw : List Pv) (l : List Int), sw.all (swOk l.length) = true → swaps (swaps l sw) sw.reverse = l
  | [], l, _ => rfl
  | p :: ps, l, h => by
    simp only [List.all_cons, Bool.and_eq_true] at h
    have h1 := h.1
    unfold swOk at h1
    simp only [Bool.and_eq_true, decide_eq_true_eq] at h1
    rw [List.reverse_cons, swaps_append]
    have e1 : swaps l (p :: ps) = swaps (swapAt l p.1.toNat p.2.toNat) ps := rfl
    rw [e1, swaps_undo ps (swapAt l p.1.toNat p.2.toNat) (by rw [swapAt_length]; exact h.2)]
    show swapAt _ _ _ = l
    exact swapAt_twice l _ _ (by omega) (by omega)

/-- What a partition of valid places is. -/
structure PtOk (l : List Int) (a b p : Int) (sw : List Pv) (t : Int) : Prop where
  all : sw.all (swOk l.length) = true
  inward : sw.Pairwise fun x y => x.1 < y.1 ∧ y.2 < x.2
  order : ∀ q ∈ sw, q.1 < q.2
  len : 2 * (sw.length : Int) ≤ b - a
  lo : a ≤ t
  hi : t ≤ b
  div : ∀ k : Nat, a ≤ (k : Int) → (k : Int) < b → ((swaps l sw).getD k 0 < p ↔ (k : Int) < t)

theorem pt_valid {l : List Int} {a b p : Int} (h : 0 ≤ a ∧ a ≤ b ∧ b ≤ (l.length : Int)) : PtOk l a b p (partP l a b p).1 (partP l a b p).2 := by
  unfold partP
  rw [if_pos h]
  simp only
  obtain ⟨n1, n2, n3, n4⟩ := part_nums l p (b - a).toNat a.toNat b.toNat
  refine ⟨?_, part_inward _ _ _ _ _, fun q hq => (n1 q hq).2.1, by omega, by omega, by omega, fun k h1 h2 => ?_⟩
  · rw [List.all_eq_true]
    intro q hq
    have := n1 q hq
    unfold swOk
    simp only [Bool.and_eq_true, decide_eq_true_eq]
    omega
  · have := part_div p (b - a).toNat a.toNat b.toNat l (by omega) (by omega) k (by omega) (by omega)
    rw [this]
    omega

/-- The new column of valid places has its values, or another length. -/
theorem new_or {l : List Int} (h : (newL l).length = l.length) : newL l = l ∧ (newR l).length = l.length := by
  unfold newL newR at *
  by_cases ha : areVals l = true
  · rw [if_pos ha, if_pos ha]
    exact ⟨rfl, rowsN_length _⟩
  · rw [if_neg ha] at h
    rw [if_neg ha, if_neg ha]
    have : l = [] := List.eq_nil_of_length_eq_zero (by simpa using h.symm)
    subst this
    exact ⟨rfl, rfl⟩

theorem newL_len {l : List Int} (hl : l.length ≤ 12) (hw : ∀ x ∈ l, I64 x) : (newL l).length ≤ 1048576 ∧ (newR l).length ≤ 1048576 ∧ (∀ x ∈ newL l, I64 x) ∧ ∀ x ∈ newR l, I64 x := by
  unfold newL newR
  split
  · exact ⟨by omega, by rw [rowsN_length]; omega, hw, rowsN_wf _ (by omega)⟩
  · exact ⟨by simp, by simp, by simp, by simp⟩

theorem ap_done {l r : List Int} {sw : List Pv} (hr : r.length = l.length) (ha : sw.all (swOk l.length) = true) : canSwap l r sw = true ∧ apL l r sw = swaps l sw ∧ apR l r sw = swaps r sw := by
  have h : canSwap l r sw = true := by unfold canSwap; rw [ha, hr]; simp
  unfold apL apR
  rw [if_pos h, if_pos h]
  exact ⟨h, rfl, rfl⟩

theorem ap_undone {l r : List Int} {sw : List Pv} (hr : r.length = l.length) (ha : sw.all (swOk l.length) = true) :
    canSwap (apL l r sw) (apR l r sw) sw.reverse = true ∧ apL (apL l r sw) (apR l r sw) sw.reverse = l ∧ apR (apL l r sw) (apR l r sw) sw.reverse = r := by
  obtain ⟨h1, h2, h3⟩ := ap_done hr ha
  rw [h2, h3]
  have hall : sw.reverse.all (swOk (swaps l sw).length) = true := by rw [List.all_reverse, swaps_length]; exact ha
  obtain ⟨h4, h5, h6⟩ := ap_done (l := swaps l sw) (r := swaps r sw) (sw := sw.reverse) (by rw [swaps_length, swaps_length]; exact hr) hall
  exact ⟨h4, by rw [h5]; exact swaps_undo sw l ha, by rw [h6]; exact swaps_undo sw r (by rw [hr]; exact ha)⟩

end Go.Proofs.Ytfldnjkojdnjcaa

/- Drawn columns: l4Cracker divides a new one at drawn values (promise 3). -/
namespace Go.Proofs.Ytfldnjkojdnjcaa
open Go.RowKit Go.ChangeShapes
set_option linter.unusedSimpArgs false
set_option linter.unusedVariables false
set_option maxRecDepth 100000

theorem Kd.join {g : Nat} {w u W : World} {L M : List (Nat × Array Value × TypeId)} (h : Kd [g] w u L) (k : Kd [g] u W M) (hg : g < w.heap.size) : Kd [g] w W (L ++ M) := by
  have hne : ∀ e ∈ L, e.1 ≠ g := fun e he => by have := h.high e he; omega
  have hlt : ∀ e ∈ L, e.1 < u.heap.size := fun e he => (Array.getElem?_eq_some_iff.1 (h.hold e he)).1
  refine ⟨h.only.trans k.only, fun e he => ?_, fun e he => ?_, ?_⟩
  · rcases List.mem_append.1 he with he | he
    · rw [k.only.block _ (hlt e he) (by simpa using hne e he)]; exact h.hold e he
    · exact k.hold e he
  · rcases List.mem_append.1 he with he | he
    · exact h.high e he
    · exact Nat.le_trans h.only.below.size (k.high e he)
  · rw [List.map_append, List.nodup_append]
    refine ⟨h.nodup, k.nodup, fun a ha b hb => ?_⟩
    obtain ⟨e, he, rfl⟩ := List.mem_map.1 ha
    obtain ⟨f, hf, rfl⟩ := List.mem_map.1 hb
    have h3 := hlt e he
    have h4 := k.high f hf
    omega

theorem Kd.put3s {G : List Nat} {w W : World} {g : Nat} {x y z : Value} {t : TypeId} (h : Kd G w W [(g, #[x, y, z], t)]) (a b c : Value) :
    Kd G w (((W.setCell ⟨g, 0, none⟩ a).setCell ⟨g, 1, none⟩ b).setCell ⟨g, 2, none⟩ c) [(g, #[a, b, c], t)] := ((h.set 0 0 rfl a).set 0 1 rfl b).set 0 2 rfl c

theorem below_upA' {W W' : World} {o : Obj} (hb : Below (W.alloc o).heap.size (W.alloc o) W') : Below W.heap.size W W' := (below1 W o).trans (hb.mono (by simp))
theorem below_upD' {W W' : World} {o : Obj} (hb : Below (W.alloc o).drew.heap.size (W.alloc o).drew W') : Below W.heap.size W W' := (below1 W o).drew.trans (hb.mono (by simp))

theorem lt_alloc' {W : World} {o : Obj} {lo : Nat} (h : (W.alloc o).heap.size ≤ lo) : W.heap.size < lo := by
  simp at h
  omega

theorem Rd.drew' {B : Nat} {a : Option Addr} {len cap g : Nat} {w : World} (h : Rd B a len cap w g) : Rd B a len cap w.drew g := h.step (Below.refl _ _).drew rfl

theorem Rd.up' {B : Nat} {a : Option Addr} {len cap g : Nat} {w w' : World} (h : Rd B a len cap w g) (hb : Below w.heap.size w w') : Rd B a len cap w' g :=
  h.step (hb.mono (by have := h.lt; have := h.high; omega)) (hb.block g h.lt)

theorem Rd.put3 {B : Nat} {a : Option Addr} {len cap g m : Nat} {w : World} {x y z : Value} (h : Rd B a len cap w g) (hy : g < m) : Rd B a len cap (((w.setCell ⟨m, 0, none⟩ x).setCell ⟨m, 1, none⟩ y).setCell ⟨m, 2, none⟩ z) g :=
  h.step ((seg3 w m x y z).below.mono (by have := h.high; omega)) ((seg3 w m x y z).below.block g hy)

/-- A small column. -/
structure CP (l r : List Int) (ps : List Pv) (n : Nat) : Prop where
  nl : l.length ≤ 64
  nr : r.length ≤ 65
  np : ps.length ≤ n
  vl : ∀ x ∈ l, -1000 ≤ x ∧ x ≤ 1000
  vr : ∀ x ∈ r, I64 x
  vp : ∀ p ∈ ps, I64 p.1 ∧ I64 p.2

theorem CP.wf {l r : List Int} {ps : List Pv} {n : Nat} (h : CP l r ps n) : Wf l r ps n :=
  ⟨by have := h.nl; omega, by have := h.nr; omega, h.np, fun x hx => ⟨by have := h.vl x hx; omega, by have := h.vl x hx; omega⟩, h.vr, h.vp⟩

theorem CP.new {l : List Int} (hl : l.length ≤ 14) (hv : ∀ x ∈ l, -1000 ≤ x ∧ x ≤ 1000) : CP (newL l) (newR l) [] 0 := by
  unfold newL newR
  split
  · exact ⟨by omega, by rw [rowsN_length]; omega, by simp, hv, rowsN_wf _ (by omega), by simp⟩
  · exact ⟨by simp, by simp, by simp, by simp, by simp, by simp⟩

theorem CP.crack {l r : List Int} {ps : List Pv} {n : Nat} {v : Int} (h : CP l r ps n) (hn : n ≤ 1000) (hv : VP v) : CP (crL l r ps v) (crR l r ps v) (crP l r ps v) (n + 1) := by
  have hi : I64 v := by unfold VP at hv; exact ⟨by omega, by omega⟩
  obtain ⟨⟨w1, w2, w3, w4, w5, w6⟩, -⟩ := crack_Wf h.wf (by omega) hi
  by_cases hd : crDiv l r ps v = true
  · obtain ⟨a, b, t, d, e, -⟩ := crack_eqs hd
    have hc := d.can
    unfold canSwap at hc
    simp only [Bool.and_eq_true, decide_eq_true_eq] at hc
    refine ⟨by rw [d.left, swaps_length]; exact h.nl, by rw [d.right, swaps_length]; exact h.nr, w3, fun x hx => ?_, w5, w6⟩
    rw [d.left] at hx
    exact h.vl x ((swaps_perm _ _ hc.2).mem_iff.1 hx)
  · obtain ⟨e1, e2, e3, -⟩ := crack_none hd
    rw [e1, e2, e3]
    exact ⟨h.nl, h.nr, by have := h.np; omega, h.vl, h.vr, h.vp⟩

/-- A small column of the call's own is returned, the reader stands, of what was there only its block may have turned. -/
def RetDC (B : Nat) (a : Option Addr) (len cap g : Nat) (w : World) (e : Ending) (w' : World) : Prop := ∃ (a1 a2 a3 : Option Addr) (c1 c2 c3 : Nat) (l r : List Int) (ps : List Pv) (lo hi n1 h1 n2 h2 n3 h3 : Nat),
  e = .returned (.agg #[.slice a1 l.length c1, .slice a2 r.length c2, .slice a3 ps.length c3]) ∧ OC w' (.slice a1 l.length c1) (.slice a2 r.length c2) (.slice a3 ps.length c3) l r ps lo hi n1 h1 n2 h2 n3 h3 ∧ w.heap.size ≤ lo ∧ CP l r ps 9 ∧ Rd B a len cap w' g ∧ Only [g] w w'

set_option maxHeartbeats 8000000 in
theorem cracker_d (B : Nat) (a : Option Addr) (len cap g : Nat) (w : World) (h : Rd B a len cap w g) :
    Calls Try.prog 70 #[.pointer (some ⟨g, 0, none⟩)] w (RetDC B a len cap g w) := by
  have hlt := h.lt
  have R := hide (h.alloc (.cells #[.slice none 0 0, .slice none 0 0, .slice none 0 0] 30))
  have X := hide (Kd.one [g] w #[.slice none 0 0, .slice none 0 0, .slice none 0 0] 30)
  obtain ⟨w1, hw1⟩ : ∃ w1, w1 = w.alloc (.cells #[.slice none 0 0, .slice none 0 0, .slice none 0 0] 30) := ⟨_, rfl⟩
  have hz := hide (show w1.heap.size = w.heap.size + 1 by rw [hw1]; simp)
  rw [← hw1] at R X
  clear h
  go_enter Try.func70, Try.ntmps70
  go_wp2_with fail
  rw [← hw1]
  clear hw1
  refine (vals_d _ a len cap g _ R.out 14 (by omega)).mono ?_
  rintro e wb ⟨gl, capl, l0, rfl, hi, hl, hv, hr, ho⟩
  have R := hide hr
  have X := hide (X.out.drawn ho (by simp; exact hlt))
  have O := hide hi
  have CN := hide (CP.new hl hv)
  have HWF := hide (show ∀ x ∈ l0, I64 x from fun x hx => ⟨by have := hv x hx; omega, by have := hv x hx; omega⟩)
  have hs1 := hide ho.below.size
  clear hr ho hi hv
  go_wp2_with fail
  go_at_call 90
  refine (sNew_any _ l0 _ _ (OI.of O.out).1 HWF.out).mono ?_
  rintro e w2 ⟨x, y, z, lo, hi, p1, q1, p2, q2, p3, q3, rfl, hlo, hhi, C, hb⟩
  obtain ⟨g1, k1, rfl⟩ := C.x.form
  obtain ⟨g2, k2, rfl⟩ := C.y.form
  obtain ⟨g3, k3, rfl⟩ := C.z.own.form
  have R := hide (R.out.step (hb.mono (by have := R.out.high; have := R.out.lt; omega)) (hb.block g R.out.lt))
  have X := hide (X.out.up hb)
  obtain ⟨l, hl'⟩ : ∃ q, q = newL l0 := ⟨_, rfl⟩
  obtain ⟨r, hr'⟩ : ∃ q, q = newR l0 := ⟨_, rfl⟩
  rw [← hl', ← hr'] at C CN
  rw [← hl', ← hr']
  have H1 := hide hlo
  have C := hide C
  have hs2 := hide hb.size
  have hhi9 := hide hhi
  clear hl' hr' hlo hhi hb O HWF hl
  have bl := below1 w2 (.cells #[.slice g1 l.length k1, .slice g2 r.length k2, .slice g3 0 k3] 30)
  have X := hide (X.out.alloc #[.slice g1 l.length k1, .slice g2 r.length k2, .slice g3 0 k3] 30)
  have C := hide (C.out.below bl)
  have R := hide (R.out.alloc (.cells #[.slice g1 l.length k1, .slice g2 r.length k2, .slice g3 0 k3] 30))
  clear bl
  obtain ⟨m, hm⟩ : ∃ q, q = w2.heap.size := ⟨_, rfl⟩
  obtain ⟨w3, hw3⟩ : ∃ q, q = w2.alloc (.cells #[.slice g1 l.length k1, .slice g2 r.length k2, .slice g3 0 k3] 30) := ⟨_, rfl⟩
  have hs3 := hide (show w3.heap.size = m + 1 by rw [hw3, hm]; simp)
  have hmm := hide hm
  rw [← hw3] at X C R
  rw [← hm] at X
  simp only [List.cons_append, List.nil_append] at X
  go_wp2_with fail
  rw [← hw3]
  try rw [← hm]
  clear hw3 hm
  refine (below_d B a len cap g _ R.out 5 (by omega) (by omega)).mono ?_
  rintro e w4 ⟨n, ⟨n0, n1⟩, rfl, hr, ho⟩
  have R := hide hr
  have X := hide (X.out.drawn ho (by simp; exact hlt))
  have C := hide (C.out.only ho (by have := H1.out; have := hs1.out; have := hz.out; omega))
  obtain ⟨N, rfl⟩ := Int.eq_ofNat_of_zero_le n0
  have hN : N ≤ 4 := by omega
  have hlo : w.heap.size ≤ lo := by have := H1.out; have := hs1.out; have := hz.out; omega
  have hmb := hide (show w.heap.size + 1 ≤ m by have := hmm.out; have := hs2.out; have := hs1.out; have := hz.out; omega)
  have hlo1 := hide (show w.heap.size + 1 ≤ lo by have := H1.out; have := hs1.out; have := hz.out; omega)
  have hmd := hide (show m < lo ∨ hi ≤ m from .inr (by have := C.out.top; have := hmm.out; have := hhi9.out; omega))
  have hGw := hide (show ∀ b ∈ [g], b < w.heap.size from by intro b hb; rw [List.mem_singleton.1 hb]; exact hlt)
  clear hr ho n0 n1
  go_wp2_with fail
  go_loopw [4] (fun u wr => ∃ (k k1 k2 k3 lo hi p1 q1 p2 q2 p3 q3 : Nat) (g1 g2 g3 : Option Addr) (l r : List Int) (ps : List Pv), k ≤ N ∧ u = .int .i64 k ∧ Hid (Kd [g] w wr [(w.heap.size, #[.slice none 0 0, .slice none 0 0, .slice none 0 0], 30), (m, #[.slice g1 l.length k1, .slice g2 r.length k2, .slice g3 ps.length k3], 30)]) ∧ Hid (Rd B a len cap wr g) ∧ Hid (OC wr (.slice g1 l.length k1) (.slice g2 r.length k2) (.slice g3 ps.length k3) l r ps lo hi p1 q1 p2 q2 p3 q3) ∧ Hid (CP l r ps (N - k)) ∧ Hid (w.heap.size + 1 ≤ lo) ∧ Hid (m < lo ∨ hi ≤ m)) (fun u _ => (intOf u).toNat)
  case atStart => exact ⟨N, k1, k2, k3, lo, hi, p1, q1, p2, q2, p3, q3, g1, g2, g3, l, r, [], Nat.le_refl _, rfl, X.out, R.out, C.out, (by have := CN.out; exact ⟨this.nl, this.nr, by simp, this.vl, this.vr, this.vp⟩), hlo1.out, hmd.out⟩
  case round =>
    clear X R C CN hlo1 hmd H1
    obtain ⟨k, k1, k2, k3, lo, hi, p1, q1, p2, q2, p3, q3, g1, g2, g3, l, r, ps, hkN, rfl, X, R, O, HCP, hlo1, hmd⟩ := hrel
    by_cases hk0 : k = 0
    · subst hk0
      have c10 : wr.cell? ⟨m, 0, none⟩ = some (.slice g1 l.length k1) := X.out.cell 1 0 rfl rfl
      have c11 : wr.cell? ⟨m, 1, none⟩ = some (.slice g2 r.length k2) := X.out.cell 1 1 rfl rfl
      have c12 : wr.cell? ⟨m, 2, none⟩ = some (.slice g3 ps.length k3) := X.out.cell 1 2 rfl rfl
      have d0 := X.out.cell 0 0 rfl rfl
      have d1 := X.out.cell 0 1 rfl rfl
      have d2 := X.out.cell 0 2 rfl rfl
      have f0 := X.out.free 0 0 rfl
      have f1 := X.out.free 0 1 rfl
      have f2 := X.out.free 0 2 rfl
      go_wp2_with fail
      have Z := ((X.out.set 0 0 rfl (.slice g1 l.length k1)).set 0 1 rfl (.slice g2 r.length k2)).set 0 2 rfl (.slice g3 ps.length k3)
      have z0 := Z.cell 0 0 rfl rfl
      have z1 := Z.cell 0 1 rfl rfl
      have z2 := Z.cell 0 2 rfl rfl
      have O9 := O.out.seg (seg3 wr w.heap.size (.slice g1 l.length k1) (.slice g2 r.length k2) (.slice g3 ps.length k3)) (.inr hlo1.out)
      have hc := HCP.out
      exact bodyPost_ret (v := .agg #[.slice g1 l.length k1, .slice g2 r.length k2, .slice g3 ps.length k3]) (by simp [results, Try.results70, go_sem, z0, z1, z2]) rfl
        ⟨g1, g2, g3, k1, k2, k3, l, r, ps, lo, hi, _, _, _, _, _, _, rfl, O9, by have := hlo1.out; omega, ⟨hc.nl, hc.nr, by have := hc.np; omega, hc.vl, hc.vr, hc.vp⟩, R.out.step ((seg3 wr w.heap.size _ _ _).below.mono (by have := R.out.high; omega)) ((seg3 wr w.heap.size _ _ _).below.block g hlt), Z.only⟩
    · obtain ⟨k, rfl⟩ : ∃ k', k = k' + 1 := ⟨k - 1, by omega⟩
      have HW := hide (HCP.out.wf)
      have hGlo := hide (show g < lo by have := hlo1.out; omega)
      have hGr := hide (show ∀ b ∈ [g], b < wr.heap.size from by intro b hb; rw [List.mem_singleton.1 hb]; exact R.out.lt)
      have c10 : wr.cell? ⟨m, 0, none⟩ = some (.slice g1 l.length k1) := X.out.cell 1 0 rfl rfl
      have c11 : wr.cell? ⟨m, 1, none⟩ = some (.slice g2 r.length k2) := X.out.cell 1 1 rfl rfl
      have c12 : wr.cell? ⟨m, 2, none⟩ = some (.slice g3 ps.length k3) := X.out.cell 1 2 rfl rfl
      have hps : N - (k + 1) ≤ 1000 := by omega
      go_upto_region 2 with fail
      have X1 := X
      go_cut [5] (fun s wx => ∃ (W' : World) (ym k1' k2' k3' lo' hi' p1 q1 p2 q2 p3 q3 : Nat) (g1' g2' g3' : Option Addr) (v : Int), W' = wx ∧ s = .pointer (some ⟨ym, 0, none⟩) ∧ Hid (VP v) ∧ Hid (Kd [g] wr wx [(ym, #[.slice g1' (crL l r ps v).length k1', .slice g2' (crR l r ps v).length k2', .slice g3' (crP l r ps v).length k3'], 30)]) ∧ Hid (Rd B a len cap wx g) ∧ Hid (OC wx (.slice g1' (crL l r ps v).length k1') (.slice g2' (crR l r ps v).length k2') (.slice g3' (crP l r ps v).length k3') (crL l r ps v) (crR l r ps v) (crP l r ps v) lo' hi' p1 q1 p2 q2 p3 q3) ∧ Hid (wr.heap.size ≤ lo'))
      case first =>
        have KS := hide (fun (w' : World) (M : List (Nat × Array Value × TypeId)) (h : Kd [g] wr w' M) => show w'.cell? ⟨m, 0, none⟩ = some (.slice g1 l.length k1) ∧ w'.cell? ⟨m, 1, none⟩ = some (.slice g2 r.length k2) ∧ w'.cell? ⟨m, 2, none⟩ = some (.slice g3 ps.length k3) from ⟨(Kd.join X1.out h hlt).cell 1 0 rfl rfl, (Kd.join X1.out h hlt).cell 1 1 rfl rfl, (Kd.join X1.out h hlt).cell 1 2 rfl rfl⟩)
        have Y0 := hide (Kd.start [g] wr)
        have Y := hide (Y0.out.drew)
        have R0 := R
        have O0 := O
        have R := hide (R.out.step (Below.refl _ _).drew rfl)
        have O := hide (O.out.below (Below.refl _ _).drew)
        clear X X1 c10 c11 c12
        obtain ⟨c10, c11, c12⟩ := KS.out _ _ Y.out
        go_region_held3 (fun w' => w'.cell? ⟨m, 0, none⟩ = some (.slice g1 l.length k1) ∧ w'.cell? ⟨m, 1, none⟩ = some (.slice g2 r.length k2) ∧ w'.cell? ⟨m, 2, none⟩ = some (.slice g3 ps.length k3)) (first | with_reducible exact KS.out _ _ Y.out | with_reducible exact KS.out _ _ (Y.out.alloc _ _) | with_reducible exact KS.out _ _ (Y0.out.alloc _ _).drew | with_reducible exact KS.out _ _ (Kd.put3s Y.out _ _ _) | go_keep) (first
          | (go_at_call 92; refine (value_d B a len cap g _ (by first | with_reducible exact R.out | with_reducible exact R.out.alloc _ | with_reducible exact (R0.out.alloc _).drew') g1 g2 g3 k1 k2 k3 l r ps _ _ _ _ _ _ _ _ (by first | with_reducible exact O.out | with_reducible exact O.out.below (below1 _ _) | with_reducible exact O0.out.below (below1 _ _).drew) hGlo.out (by have := HCP.out.nl; omega) HCP.out.vl).mono ?_; rintro e wq ⟨v, hvp, rfl, hr, ho⟩; (first | replace Y := hide (by with_reducible exact Y.out.drawn ho hGr.out) | replace Y := hide (by with_reducible exact (Y.out.alloc _ _).drawn ho hGr.out) | replace Y := hide (by with_reducible exact (Y0.out.alloc _ _).drew.drawn ho hGr.out)); (first | replace O := hide (by with_reducible exact O.out.only ho hGlo.out) | replace O := hide (by with_reducible exact O.out.only ((Only.of_below (below1 _ _)).trans ho) hGlo.out) | replace O := hide (by with_reducible exact O0.out.only ((Only.of_below (below1 _ _).drew).trans ho) hGlo.out)); replace R := hide hr; have HVP := hide hvp; have HI := hide (show I64 v from (by unfold VP at hvp; exact ⟨(by omega), (by omega)⟩)); clear c10 c11 c12; obtain ⟨c10, c11, c12⟩ := KS.out _ _ Y.out; (first | clear e0 e1 e2 f0 f1 f2 f3 | skip); (first | (have e0 := Y.out.cell 0 0 rfl rfl; have e1 := Y.out.cell 0 1 rfl rfl; have e2 := Y.out.cell 0 2 rfl rfl; have f0 := Y.out.free 0 0 rfl; have f1 := Y.out.free 0 1 rfl; have f2 := Y.out.free 0 2 rfl; have f3 := Y.out.lt 0 rfl) | skip); clear hr ho hvp)
          | (go_at_call 91; refine (sCrack_any _ l r ps v _ _ (OC.ck (by first | with_reducible exact O.out | with_reducible exact O.out.below (below1 _ _) | with_reducible exact O0.out.below (below1 _ _).drew) HW.out.2.2.2.1 HW.out.2.2.2.2.1 (by have := HW.out.2.2.1; omega) HW.out.2.2.2.2.2) (Nat.le_refl _) HW.out.1 HW.out.2.1 (by have := HW.out.2.2.1; omega) HI.out).mono ?_; rintro e wq ⟨x, y, z, sv, lo', hi', p1, q1, p2, q2, p3, q3, slo, shi, rfl, hlo, hhi, C, S, hss, hb⟩; obtain ⟨g1', k1', rfl⟩ := C.x.form; obtain ⟨g2', k2', rfl⟩ := C.y.form; obtain ⟨g3', k3', rfl⟩ := C.z.own.form; have HLO := hide (Nat.le_trans (by first | with_reducible exact Y.out.only.below.size | with_reducible exact (Y.out.alloc _ _).only.below.size | with_reducible exact (Y0.out.alloc _ _).drew.only.below.size) hlo.1); (first | (have hGx := hide (by with_reducible exact Nat.lt_of_lt_of_le f3 hlo.1)) | (have hGx := hide (by with_reducible exact lt_alloc' hlo.1)) | skip); replace C := hide C; (first | replace R := hide (by with_reducible exact R.out.up' hb) | replace R := hide (by with_reducible exact R.out.up' (below_upA' hb)) | replace R := hide (by with_reducible exact R0.out.up' (below_upD' hb))); (first | replace Y := hide (by with_reducible exact Y.out.up hb) | replace Y := hide (by with_reducible exact Y.out.upA hb) | replace Y := hide (by with_reducible exact Y0.out.upD hb)); clear c10 c11 c12; obtain ⟨c10, c11, c12⟩ := KS.out _ _ Y.out; (first | clear e0 e1 e2 f0 f1 f2 f3 | skip); (first | (have e0 := Y.out.cell 0 0 rfl rfl; have e1 := Y.out.cell 0 1 rfl rfl; have e2 := Y.out.cell 0 2 rfl rfl; have f0 := Y.out.free 0 0 rfl; have f1 := Y.out.free 0 1 rfl; have f2 := Y.out.free 0 2 rfl; have f3 := Y.out.lt 0 rfl) | skip); clear hlo hhi hss hb S))
        all_goals go_wp2_with fail
        all_goals go_meet
        all_goals first | exact ⟨_, _, _, _, _, _, _, _, _, _, _, _, _, _, _, _, v, rfl, rfl, HVP, Y.out.alloc _ _, R.out.alloc _, C.out.below (below1 _ _), HLO⟩ | exact ⟨_, _, _, _, _, _, _, _, _, _, _, _, _, _, _, _, v, rfl, rfl, HVP, Kd.put3s Y.out _ _ _, R.out.put3 (Nat.lt_of_lt_of_le (hGr.out g (by simp)) (Y.out.low 0 rfl)), C.out.seg (seg3 _ _ _ _ _) (.inr hGx.out), HLO⟩
      case rest =>
        obtain ⟨w5, ym, k1', k2', k3', lo', hi', p1', q1', p2', q2', p3', q3', g1', g2', g3', v, rfl, rfl, HVP, Y, R, C, HLO⟩ := hcut
        have hlm := hide (X1.out.lt 1 rfl)
        have X := hide (Kd.join X1.out Y.out hlt)
        simp only [List.cons_append, List.nil_append] at X
        have HCP2 := hide (HCP.out.crack hps HVP.out)
        clear X1 Y O HCP HW HVP c10 c11 c12 hlo1 hmd
        have hln := hide (show N - (k + 1) + 1 = N - k by omega)
        obtain ⟨l', hl'⟩ : ∃ q, q = crL l r ps v := ⟨_, rfl⟩
        obtain ⟨r', hr'⟩ : ∃ q, q = crR l r ps v := ⟨_, rfl⟩
        obtain ⟨ps', hps'⟩ : ∃ q, q = crP l r ps v := ⟨_, rfl⟩
        rw [← hl', ← hr', ← hps'] at X C HCP2
        rw [hln.out] at HCP2
        clear hl' hr' hps'
        have c20 : w5.cell? ⟨ym, 0, none⟩ = some (.slice g1' l'.length k1') := X.out.cell 2 0 rfl rfl
        have c21 : w5.cell? ⟨ym, 1, none⟩ = some (.slice g2' r'.length k2') := X.out.cell 2 1 rfl rfl
        have c22 : w5.cell? ⟨ym, 2, none⟩ = some (.slice g3' ps'.length k3') := X.out.cell 2 2 rfl rfl
        have c10 := X.out.cell 1 0 rfl rfl
        have c11 := X.out.cell 1 1 rfl rfl
        have c12 := X.out.cell 1 2 rfl rfl
        have f0 := X.out.free 1 0 rfl
        have f1 := X.out.free 1 1 rfl
        have f2 := X.out.free 1 2 rfl
        have Z := hide (Kd.sub (((X.out.set 1 0 rfl (.slice g1' l'.length k1')).set 1 1 rfl (.slice g2' r'.length k2')).set 1 2 rfl (.slice g3' ps'.length k3')) (M := [(w.heap.size, #[.slice none 0 0, .slice none 0 0, .slice none 0 0], 30), (m, #[.slice g1' l'.length k1', .slice g2' r'.length k2', .slice g3' ps'.length k3'], 30)]) (by exact .cons_cons _ (.cons_cons _ (.cons _ (.refl _)))))
        have R2 := hide (R.out.put3 (x := .slice g1' l'.length k1') (y := .slice g2' r'.length k2') (z := .slice g3' ps'.length k3') (show g < m by have := hmb.out; omega))
        have C2 := hide (C.out.seg (seg3 w5 m (.slice g1' l'.length k1') (.slice g2' r'.length k2') (.slice g3' ps'.length k3')) (.inr (by have := hlm.out; have := HLO.out; omega)))
        clear X
        go_wp2_with fail
        go_roundw
        case rel => exact ⟨k, k1', k2', k3', lo', hi', p1', q1', p2', q2', p3', q3', g1', g2', g3', l', r', ps', by omega, by go_num, Z.out, R2.out, C2.out, HCP2.out, (by show _ ≤ _; have := hlm.out; have := HLO.out; have := hmb.out; omega), .inl (by have := hlm.out; have := HLO.out; omega)⟩
        case measure => simp [intOf]

end Go.Proofs.Ytfldnjkojdnjcaa

/- What EqualCrackers returns: of the reference and of the program (promise 3). -/
namespace Go.Proofs.Ytfldnjkojdnjcaa
open Go.RowKit Go.ChangeShapes
set_option linter.unusedSimpArgs false
set_option linter.unusedVariables false
set_option maxRecDepth 100000

/-- Do two columns read alike? -/
def eqC (l r : List Int) (ps : List Pv) (l' r' : List Int) (ps' : List Pv) : Bool := decide (l = l') && (decide (r = r') && decide (ps = ps'))

end Go.Proofs.Ytfldnjkojdnjcaa

/- FnPartitions: its drawn arguments, and its words in numbers (promise 3). -/
namespace Go.Proofs.Ytfldnjkojdnjcaa
open Go.RowKit Go.ChangeShapes
set_option linter.unusedSimpArgs false
set_option linter.unusedVariables false
set_option maxRecDepth 100000

theorem bigN (a : Option Addr) (len cap : Nat) (w : World) (h : len ≤ 1048576) : Calls Try.prog 8 #[.slice a len cap] w fun e w' => e = .returned (.bool false) ∧ w = w' := by
  have h2 : decide ((1048576 : Int) < (len : Int)) = false := by simp; omega
  go_enter Try.func8, Try.ntmps8
  go_wp2
  go_ret
  exact ⟨rfl, rfl⟩

theorem bigY (a : Option Addr) (len cap : Nat) (w : World) (h : 1048576 < len) : Calls Try.prog 8 #[.slice a len cap] w fun e w' => e = .returned (.bool true) ∧ w = w' := by
  have h2 : decide ((1048576 : Int) < (len : Int)) = true := by simp; omega
  go_enter Try.func8, Try.ntmps8
  go_wp2
  go_ret
  exact ⟨rfl, rfl⟩

/-- What is only read, below the world's own size. -/
def IU (w : World) (v : Value) (l : List Int) : Prop := Ints w w.heap.size v l
def PU (w : World) (v : Value) (l : List Pv) : Prop := Pvs w w.heap.size v l
def CU (w : World) (v : Value) (l r : List Int) (ps : List Pv) : Prop := Ck w w.heap.size v l r ps

theorem Ints.mono' {w : World} {B C : Nat} {v : Value} {l : List Int} (h : Ints w B v l) (hC : B ≤ C) : Ints w C v l := by
  obtain ⟨a, cap, e, h1, h2, h3⟩ := h
  refine ⟨a, cap, e, h1, h2, fun j hj => ?_⟩
  obtain ⟨b, o, e1, e2, e3⟩ := h3 j hj
  exact ⟨b, o, e1, Nat.lt_of_lt_of_le e2 hC, e3⟩
theorem Pvs.mono' {w : World} {B C : Nat} {v : Value} {l : List Pv} (h : Pvs w B v l) (hC : B ≤ C) : Pvs w C v l := by
  obtain ⟨a, cap, e, h1, h2, h3⟩ := h
  refine ⟨a, cap, e, h1, h2, fun j hj => ?_⟩
  obtain ⟨b, o, e1, e2, e3, e4⟩ := h3 j hj
  exact ⟨b, o, e1, Nat.lt_of_lt_of_le e2 hC, e3, e4⟩

theorem IU.below {w w' : World} {v : Value} {l : List Int} (h : IU w v l) (hb : Below w.heap.size w w') : IU w' v l := (Ints.below h hb (Nat.le_refl _)).mono' hb.size
theorem PU.below {w w' : World} {v : Value} {l : List Pv} (h : PU w v l) (hb : Below w.heap.size w w') : PU w' v l := (Pvs.below h hb (Nat.le_refl _)).mono' hb.size
theorem CU.below {w w' : World} {v : Value} {l r : List Int} {ps : List Pv} (h : CU w v l r ps) (hb : Below w.heap.size w w') : CU w' v l r ps := Ck.up h hb

/-- The cells of a column's values and rows, and of pivots, that are only read. -/
theorem CU.left {w : World} {a : Option Addr} {n c : Nat} {y z : Value} {l r : List Int} {ps : List Pv} (h : CU w (.agg #[.slice a n c, y, z]) l r ps) (j : Nat) (hj : j < l.length) :
    ∃ b o, a = some ⟨b, o, none⟩ ∧ w.cell? ⟨b, o + j, none⟩ = some (.int .i64 (l.getD j 0)) := by
  obtain ⟨x', y', z', e, ⟨a', c', e1, -, -, h1⟩, -⟩ := h
  simp only [Value.agg.injEq, Array.mk.injEq, List.cons.injEq, and_true] at e
  obtain ⟨rfl, rfl, rfl⟩ := e
  injection e1 with e1 e2 e3
  subst e1
  obtain ⟨b, o, rfl, -, hc⟩ := h1 j hj
  exact ⟨b, o, rfl, by rw [hc]; simp [List.getD_eq_getElem?_getD, List.getElem?_eq_getElem hj]⟩
theorem CU.right {w : World} {a : Option Addr} {n c : Nat} {x z : Value} {l r : List Int} {ps : List Pv} (h : CU w (.agg #[x, .slice a n c, z]) l r ps) (j : Nat) (hj : j < r.length) :
    ∃ b o, a = some ⟨b, o, none⟩ ∧ w.cell? ⟨b, o + j, none⟩ = some (.int .i64 (r.getD j 0)) := by
  obtain ⟨x', y', z', e, -, ⟨a', c', e1, -, -, h1⟩, -⟩ := h
  simp only [Value.agg.injEq, Array.mk.injEq, List.cons.injEq, and_true] at e
  obtain ⟨rfl, rfl, rfl⟩ := e
  injection e1 with e1 e2 e3
  subst e1
  obtain ⟨b, o, rfl, -, hc⟩ := h1 j hj
  exact ⟨b, o, rfl, by rw [hc]; simp [List.getD_eq_getElem?_getD, List.getElem?_eq_getElem hj]⟩
theorem PU.cells {w : World} {a : Option Addr} {n c : Nat} {ps : List Pv} (h : PU w (.slice a n c) ps) (j : Nat) (hj : j < ps.length) :
    ∃ b o, a = some ⟨b, o, none⟩ ∧ w.cell? ⟨b, o + j * 2, none⟩ = some (.int .i64 ps[j].1) ∧ w.cell? ⟨b, o + j * 2 + 1, none⟩ = some (.int .i64 ps[j].2) := by
  obtain ⟨a', c', e1, -, -, h1⟩ := h
  injection e1 with e1 e2 e3
  subst e1
  obtain ⟨b, o, rfl, -, hc, hc2⟩ := h1 j hj
  exact ⟨b, o, rfl, hc, hc2⟩

/-- Drawn values, places and a pivot. -/
def DrPt (w : World) (e : Ending) (w' : World) : Prop := ∃ gl capl l, ∃ a b p : Int, l.length ≤ 12 ∧ (∀ x ∈ l, -1000 ≤ x ∧ x ≤ 1000) ∧ (-20 ≤ a ∧ a ≤ 20) ∧ (-20 ≤ b ∧ b ≤ 20) ∧ (-20 ≤ p ∧ p ≤ 20) ∧
  e = .returned (.tuple #[.slice (some ⟨gl, 0, none⟩) l.length capl, .int .i64 a, .int .i64 b, .int .i64 p]) ∧ Is w' w.heap.size 3 (.slice (some ⟨gl, 0, none⟩) l.length capl) l ∧ Below w.heap.size w w'

end Go.Proofs.Ytfldnjkojdnjcaa

/- Columns that are only read, their blocks from lo on (RcL): what a drawn column is handed on as (promises 3 and 4). -/
namespace Go.Proofs.Ytfldnjkojdnjcaa
open Go.RowKit Go.ChangeShapes
set_option linter.unusedSimpArgs false
set_option linter.unusedVariables false
set_option maxRecDepth 100000

/-- A column reads as l, r, ps in every world in which the blocks from lo on are as they are here. -/
def RcL (lo : Nat) (w : World) (v : Value) (l r : List Int) (ps : List Pv) : Prop :=
  ∀ w' : World, (∀ b, lo ≤ b → b < w.heap.size → w'.heap[b]? = w.heap[b]?) → w.heap.size ≤ w'.heap.size → CU w' v l r ps

theorem RcL.cu {lo : Nat} {w : World} {v : Value} {l r : List Int} {ps : List Pv} (h : RcL lo w v l r ps) : CU w v l r ps := h w (fun _ _ _ => rfl) (Nat.le_refl _)
theorem RcL.up {lo : Nat} {w w' : World} {v : Value} {l r : List Int} {ps : List Pv} (h : RcL lo w v l r ps) (h1 : ∀ b, lo ≤ b → b < w.heap.size → w'.heap[b]? = w.heap[b]?) (h2 : w.heap.size ≤ w'.heap.size) : RcL lo w' v l r ps :=
  fun w'' k1 k2 => h w'' (fun b hb hlt => (k1 b hb (Nat.lt_of_lt_of_le hlt h2)).trans (h1 b hb hlt)) (Nat.le_trans h2 k2)
theorem RcL.below {lo : Nat} {w w' : World} {v : Value} {l r : List Int} {ps : List Pv} (h : RcL lo w v l r ps) (hb : Below w.heap.size w w') : RcL lo w' v l r ps := h.up (fun b _ hlt => hb.block b hlt) hb.size
theorem RcL.only {lo g : Nat} {w w' : World} {v : Value} {l r : List Int} {ps : List Pv} (h : RcL lo w v l r ps) (ho : Only [g] w w') (hg : g < lo) : RcL lo w' v l r ps :=
  h.up (fun b hb hlt => ho.block b hlt (by simp; omega)) ho.below.size
theorem RcL.seg {lo a b : Nat} {w w' : World} {v : Value} {l r : List Int} {ps : List Pv} (h : RcL lo w v l r ps) (s : Seg a b w w') (hb : b ≤ lo) : RcL lo w' v l r ps :=
  h.up (fun x hx hlt => s.over x (by omega) hlt) s.below.size

theorem Ow.reads {w : World} {v : Value} {l : List Int} {lo hi : Nat} (h : Ow w v l lo hi) (hw : ∀ x ∈ l, I64 x) {w' : World} (hs : ∀ b, lo ≤ b → b < w.heap.size → w'.heap[b]? = w.heap[b]?) : Ints w' w'.heap.size v l := by
  obtain ⟨⟨F, h, hF⟩, hle, ht⟩ := h
  obtain ⟨_, _, _, hl⟩ := h.form
  exact (h.eq fun b hb => hs b (hF b hb).1 (by have := (hF b hb).2; omega)).1.ints (Nat.le_refl _) hl hw

theorem Op.reads {w : World} {base : Nat} {v : Value} {ps : List Pv} (h : Op w base v ps) (hl : ps.length ≤ 9223372036854775807) (hw : ∀ p ∈ ps, I64 p.1 ∧ I64 p.2) {w' : World} (hs : ∀ b, base ≤ b → b < w.heap.size → w'.heap[b]? = w.heap[b]?) : Pvs w' w'.heap.size v ps := by
  have h2 : Op w' base v ps := owns_eq h fun g hg => hs g (World.ownsRow.lt h g hg).1 (World.ownsRow.lt h g hg).2
  exact h2.pvs (Nat.le_refl _) hl hw

theorem OC.reads {w : World} {x y z : Value} {l r : List Int} {ps : List Pv} {lo hi n1 h1 n2 h2 n3 h3 : Nat} (h : OC w x y z l r ps lo hi n1 h1 n2 h2 n3 h3) (hl : ∀ x ∈ l, I64 x) (hr : ∀ x ∈ r, I64 x) (hp : ps.length ≤ 9223372036854775807) (hw : ∀ p ∈ ps, I64 p.1 ∧ I64 p.2) : RcL lo w (.agg #[x, y, z]) l r ps := by
  intro w' hs hsz
  have q := h.low
  exact ⟨x, y, z, rfl, h.x.reads hl (fun b hb hlt => hs b (by omega) hlt), h.y.reads hr (fun b hb hlt => hs b (by omega) hlt), h.z.own.reads hp hw (fun b hb hlt => hs b (by omega) hlt), h.x.cap, h.y.cap, h.z.cap⟩

theorem RcL.at {lo : Nat} {w : World} {g o n c : Nat} {y z : Value} {l r : List Int} {ps : List Pv} (h : RcL lo w (.agg #[.slice (some ⟨g, o, none⟩) n c, y, z]) l r ps) (j : Nat) (hj : j < l.length) : w.cell? ⟨g, o + j, none⟩ = some (.int .i64 l[j]) := by
  obtain ⟨b, o', e, hc⟩ := h.cu.left j hj
  obtain ⟨rfl, rfl⟩ : g = b ∧ o = o' := by simpa using e
  rw [hc]
  simp [List.getD_eq_getElem?_getD, List.getElem?_eq_getElem hj]

set_option maxHeartbeats 4000000 in
theorem value_r (B : Nat) (a : Option Addr) (len cap g : Nat) (w : World) (h : Rd B a len cap w g) (a1 a2 a3 : Option Addr) (c1 c2 c3 : Nat) (l r : List Int) (ps : List Pv) (lo : Nat)
    (o : RcL lo w (.agg #[.slice a1 l.length c1, .slice a2 r.length c2, .slice a3 ps.length c3]) l r ps) (hg : g < lo) (hl : l.length ≤ 1000) (hv : ∀ x ∈ l, -1000 ≤ x ∧ x ≤ 1000) :
    Calls Try.prog 92 #[.pointer (some ⟨g, 0, none⟩), .agg #[.slice a1 l.length c1, .slice a2 r.length c2, .slice a3 ps.length c3]] w (RetD B a len cap g w VP) := by
  have hlt := h.lt
  have R := hide (h.alloc (.cells #[.slice a1 l.length c1, .slice a2 r.length c2, .slice a3 ps.length c3] 30))
  have X := hide (Kd.one [g] w #[.slice a1 l.length c1, .slice a2 r.length c2, .slice a3 ps.length c3] 30)
  have O := hide (o.below (below1 w (.cells #[.slice a1 l.length c1, .slice a2 r.length c2, .slice a3 ps.length c3] 30)))
  have HV := hide hv
  clear hv o
  obtain ⟨w1, hw1⟩ : ∃ w1, w1 = w.alloc (.cells #[.slice a1 l.length c1, .slice a2 r.length c2, .slice a3 ps.length c3] 30) := ⟨_, rfl⟩
  have hz := hide (show w1.heap.size = w.heap.size + 1 by rw [hw1]; simp)
  rw [← hw1] at R X O
  clear h
  have PK := fun (W : World) (hr : Rd B a len cap W g) => pickI_d B a len cap g _ (hr.alloc (.cells ([(0 : Int), 3, -2, -1000, 1000, 50].map (Value.int .i64)).toArray 3)) [0, 3, -2, -1000, 1000, 50] W.heap.size 6 6 rfl (by omega) (by omega) (by have := hr.lt; omega) (by simp) (litsI W [0, 3, -2, -1000, 1000, 50] 3)
  have PK := hide PK
  have P1 := hide (show Calls Try.prog 50 #[.pointer (some ⟨g, 0, none⟩), .slice (some ⟨w.heap.size + 1, 0, none⟩) 6 6] (w1.alloc (.cells #[.int .i64 0, .int .i64 3, .int .i64 (-2), .int .i64 (-1000), .int .i64 1000, .int .i64 50] 3)) (RetD B a len cap g (w1.alloc (.cells #[.int .i64 0, .int .i64 3, .int .i64 (-2), .int .i64 (-1000), .int .i64 1000, .int .i64 50] 3)) (· ∈ [(0 : Int), 3, -2, -1000, 1000, 50])) by
    have := PK.out w1 R.out
    rw [hz.out] at this
    exact this)
  have c00 : w1.cell? ⟨w.heap.size, 0, none⟩ = some (.slice a1 l.length c1) := X.out.cell 0 0 rfl rfl
  by_cases h0 : l.length = 0
  · have t0 : decide (0 < l.length) = false := decide_eq_false (by omega)
    clear h0
    go_enter Try.func92, Try.ntmps92
    rw [hw1] at c00
    go_wp2_with fail
    rw [← hw1]
    clear hw1 c00
    refine P1.out.mono ?_
    rintro e wa ⟨x, hx, rfl, hr, ho⟩
    have hx := hide (pick6 hx)
    have R := hide hr
    have X := hide (X.out.only.trans ((Only.of_below (below1 _ _)).trans ho))
    clear hr ho
    go_wp2_with fail
    go_ret
    exact ⟨x, hx.out, rfl, R.out, X.out⟩
  · have t0 : decide (0 < l.length) = true := decide_eq_true (by omega)
    have HZ := hide h0
    clear h0
    go_enter Try.func92, Try.ntmps92
    rw [hw1] at c00
    go_wp2_with fail
    rw [← hw1]
    clear hw1 c00
    go_at_call 114
    refine (once_d B a len cap g _ R.out 4 (by omega) (by omega)).mono ?_
    rintro e w2 ⟨b, rfl, hr, ho⟩
    have R := hide hr
    have X := hide (X.out.drawn ho (by simp; exact hlt))
    have O := hide (O.out.only ho hg)
    clear hr ho
    cases b
    · have c00 : w2.cell? ⟨w.heap.size, 0, none⟩ = some (.slice a1 l.length c1) := X.out.cell 0 0 rfl rfl
      have hcu := O.out.cu.left 0 (by have := HZ.out; omega)
      obtain ⟨gv, ov, hgv, -⟩ := hcu
      subst hgv
      have HL := hide (show (1 : Int) ≤ (l.length : Int) by have := HZ.out; omega)
      have hGm := hide (show ∀ b ∈ [g], b < w.heap.size from by intro b hb; rw [List.mem_singleton.1 hb]; exact hlt)
      have HL2 := hide (show (l.length : Int) ≤ 4294967296 by omega)
      go_wp2_with fail
      have R := hide (R.out.step (Below.refl _ _).drew rfl)
      have X := hide X.out.drew
      have O := hide (O.out.below (Below.refl _ _).drew)
      go_region_with (first
        | (go_at_call 44; (with_reducible refine (below_d B a len cap g _ R.out (l.length : Int) HL.out HL2.out).mono ?_); rintro e wq ⟨k, ⟨k0, k1⟩, rfl, hr, ho⟩; obtain ⟨k, rfl⟩ := Int.eq_ofNat_of_zero_le k0; have hkl : k < l.length := (by omega); replace R := hide hr; replace X := hide (X.out.drawn ho hGm.out); replace O := hide (O.out.only ho hg); clear c00; have c00 : wq.cell? ⟨w.heap.size, 0, none⟩ = some (.slice (some ⟨gv, ov, none⟩) l.length c1) := X.out.cell 0 0 rfl rfl; obtain ⟨y, hy⟩ : ∃ y, y = l[k] := ⟨_, rfl⟩; have ec := O.out.at k hkl; rw [← hy] at ec; have HY := HV.out _ (List.getElem_mem hkl); rw [← hy] at HY; replace HY := hide HY; have HYY := hide hy; clear hy hr ho k0)
        | (go_at_call 44; (with_reducible refine (below_d B a len cap g _ R.out 3 (by omega) (by omega)).mono ?_); rintro e wq ⟨j, ⟨j0, j1⟩, rfl, hr, ho⟩; replace R := hide hr; replace X := hide (X.out.drawn ho hGm.out); replace O := hide (O.out.only ho hg); clear c00; have c00 : wq.cell? ⟨w.heap.size, 0, none⟩ = some (.slice (some ⟨gv, ov, none⟩) l.length c1) := X.out.cell 0 0 rfl rfl; clear ec; have ec := O.out.at k hkl; rw [← HYY.out] at ec; have hyb := HY.out))
      all_goals go_wp2_with fail
      all_goals
        have w1' : IntKind.i64.wrap (y + j) = y + j := by rw [IntWalk.i64_left, IntWalk.wrap64_in _ (by omega)]
        have w2' : IntKind.i64.wrap (y + j - 1) = y + j - 1 := by rw [IntWalk.i64_left, IntWalk.wrap64_in _ (by omega)]
        have w3' : RowKit.wrap64 (y + j) = y + j := IntWalk.wrap64_in _ (by omega)
        have w4' : RowKit.wrap64 (y + j - 1) = y + j - 1 := IntWalk.wrap64_in _ (by omega)
        exact bodyPost_ret (v := .int .i64 (y + j - 1)) (by simp [results, Try.results92, go_sem, Act.put, w1', w2', w3', w4']) rfl ⟨y + j - 1, by unfold VP; omega, rfl, R.out, X.out.only⟩
    · go_wp2_with fail
      refine (PK.out _ R.out).mono ?_
      rintro e wa ⟨x, hx, rfl, hr, ho⟩
      have hx := hide (pick6 hx)
      have R := hide hr
      have X := hide (X.out.only.trans ((Only.of_below (below1 _ _)).trans ho))
      clear hr ho
      go_wp2_with fail
      go_ret
      exact ⟨x, hx.out, rfl, R.out, X.out⟩

end Go.Proofs.Ytfldnjkojdnjcaa

/- Drawn columns, some of them spoilt: l4Any (promises 3 and 4). Written by gen_drf.py. -/
namespace Go.Proofs.Ytfldnjkojdnjcaa
open Go.RowKit Go.ChangeShapes
set_option linter.unusedSimpArgs false
set_option linter.unusedVariables false
set_option maxRecDepth 100000

theorem Kd.ne' {G : List Nat} {w W : World} {L : List (Nat × Array Value × TypeId)} (h : Kd G w W L) (i j : Nat) {g g' : Nat} {c c' : Array Value} {t t' : TypeId} (ho : L[i]? = some (g, c, t)) (ho' : L[j]? = some (g', c', t')) (hij : i < j) : g ≠ g' := by
  intro e
  obtain ⟨hi, e1⟩ := List.getElem?_eq_some_iff.1 ho
  obtain ⟨hj, e2⟩ := List.getElem?_eq_some_iff.1 ho'
  have hl : (L.map (·.1)).length = L.length := List.length_map _
  have h2 := List.pairwise_iff_getElem.1 h.nodup i j (by omega) (by omega) hij
  simp [e1, e2, e] at h2

/-- A small column that may be spoilt. -/
structure CPA (l r : List Int) (ps : List Pv) : Prop where
  nl : l.length ≤ 64
  nr : r.length ≤ 66
  np : ps.length ≤ 10
  vl : ∀ x ∈ l, -1000 ≤ x ∧ x ≤ 1000
  vr : ∀ x ∈ r, I64 x
  vp : ∀ p ∈ ps, I64 p.1 ∧ I64 p.2

theorem CPA.i64 {l r : List Int} {ps : List Pv} (h : CPA l r ps) : ∀ x ∈ l, I64 x := fun x hx => ⟨by have := h.vl x hx; omega, by have := h.vl x hx; omega⟩

theorem CP.a {l r : List Int} {ps : List Pv} (h : CP l r ps 9) : CPA l r ps := ⟨h.nl, by have := h.nr; omega, by have := h.np; omega, h.vl, h.vr, h.vp⟩

/-- Integers of the call's own, by the stretch, as a row from its first block on. -/
theorem Ow.is {w : World} {v : Value} {l : List Int} {lo hi : Nat} (h : Ow w v l lo hi) : Is w lo 3 v l := by
  obtain ⟨⟨F, ⟨o', rfl⟩, hF⟩, hle, ht⟩ := h
  refine ⟨o'.1, ?_⟩
  rcases o'.2 with h2 | ⟨g, cap, cur, hv, hg, r⟩
  · exact .inl h2
  · exact .inr ⟨g, cap, cur, hv, (hF g (by subst hv; simp [Value.ownBlock])).1, r⟩

theorem Ow.block {w : World} {v : Value} {l : List Int} {lo hi : Nat} (h : Ow w v l lo hi) : ∀ k, v.ownBlock = some k → lo ≤ k ∧ k < hi := by
  obtain ⟨⟨F, ⟨o', rfl⟩, hF⟩, hle, ht⟩ := h
  exact fun k hk => hF k (by rw [hk]; simp)

/-- append(s, i) in a plain region, with what is said of the other blocks. -/
theorem appI_list (W : World) {ops : Array Oper} {rest : List Oper} {o : Oper} {a : Act} {Q : Exit → Act → World → Prop} (hgd : o.guard = none) (s x : Operand)
    (ho : o.op = .call { callee := .builtin .append, args := #[s, x], argTypes := #[24, 24] })
    (base : Nat) (v : Value) (l : List Int) (hown : Is W base 3 v l) (hs : a.eval s = v) (i : Int) (c g : Nat)
    (hx : a.eval x = .slice (some ⟨g, 0, none⟩) 1 c) (hg : W.heap[g]? = some (.cells #[.int .i64 i] 3 (0, 0))) (hlen : l.length < 1099511627776) (hbase : base ≤ W.heap.size)
    (h : ∀ v' w', Is w' base 3 v' (l ++ [i]) → Below base W w' → (∀ k, k < W.heap.size → some k ≠ v.ownBlock → w'.heap[k]? = W.heap[k]?) → wpList Try.prog ops Q rest (a.put o.dst v') w') :
    wpList Try.prog ops Q (o :: rest) a W := by
  refine wpList_plain hgd fun K hK => ?_
  obtain ⟨i0, hi0, hi1, hi2, hi3⟩ := info_parts infoI
  obtain ⟨v', w', hr, hown', hgrow, -, -⟩ := run_append_own_at (P := Try.prog) (w := W) base 24 o.type 3 i0 _ 1 8 Try.underlying24 hi0 hi1 hi2 hi3 rfl (by decide) v l.length (intVs l) hown ⟨g, 0, none⟩ 1 c [.int .i64 i] rfl
    (by intro k u hk
        rw [addr_add, cell_of_row W g (0 + k) _ _ (0, 0) hg, Nat.zero_add]
        simpa using hk)
    (by intro u hu; simp at hu; subst hu; rfl) (by unfold maxLen; omega) (by omega) hbase
  unfold Oper.wp execOp
  simp only [ho, resolve, invoke, builtin, Sem.run_bind, Sem.run_pure, Result.andThen_ok, List.map_toArray, List.map_cons, List.map_nil, hs, hx, hr]
  refine hK _ _ (h v' w' ?_ ((Below.refl base W).grown hgrow hbase (fun k hk => (World.ownsRow.lt hown k hk).1)) (fun k hk hne => hgrow.block k hk hne))
  unfold Is
  rw [show intVs (l ++ [i]) = intVs l ++ [.int .i64 i] by simp [intVs], List.length_append]
  exact hown'

theorem Ow.reads2 {w : World} {v : Value} {l : List Int} {lo hi : Nat} (h : Ow w v l lo hi) (hw : ∀ x ∈ l, I64 x) {w' : World} (hs : ∀ b, lo ≤ b → b < hi → w'.heap[b]? = w.heap[b]?) : Ints w' w'.heap.size v l := by
  obtain ⟨⟨F, h, hF⟩, hle, ht⟩ := h
  obtain ⟨_, _, _, hl⟩ := h.form
  exact (h.eq fun b hb => hs b (hF b hb).1 (hF b hb).2).1.ints (Nat.le_refl _) hl hw

theorem Owp.reads2 {w : World} {v : Value} {ps : List Pv} {lo hi : Nat} (h : Owp w v ps lo hi) (hl : ps.length ≤ 9223372036854775807) (hw : ∀ p ∈ ps, I64 p.1 ∧ I64 p.2) {w' : World} (hs : ∀ b, lo ≤ b → b < hi → w'.heap[b]? = w.heap[b]?) : Pvs w' w'.heap.size v ps := by
  have h2 : Op w' lo v ps := owns_eq h.own fun g hg => hs g (World.ownsRow.lt h.own g hg).1 (h.lt g hg)
  exact h2.pvs (Nat.le_refl _) hl hw

theorem Kd.keep {G : List Nat} {w W W' : World} {L : List (Nat × Array Value × TypeId)} {n : Nat} (h : Kd G w W L) (hb : Below n W W') (hn : w.heap.size ≤ n) (hq : ∀ e ∈ L, W'.heap[e.1]? = W.heap[e.1]?) : Kd G w W' L :=
  ⟨⟨h.only.below.trans (hb.mono (Nat.zero_le _)), fun b h1 h2 => (hb.block b (by omega)).trans (h.only.block b h1 h2)⟩, fun e he => (hq e he).trans (h.hold e he), h.high, h.nodup⟩

/-- A row of integers does not lie in a block of another type. -/
theorem Is.apart {w : World} {base : Nat} {v : Value} {l : List Int} {m : Nat} {cs : Array Value} {t : TypeId} (h : Is w base 3 v l) (hm : w.heap[m]? = some (.cells cs t (0, 0))) (ht : t ≠ 3) : ∀ g, v.ownBlock = some g → g ≠ m := by
  intro g hg e
  subst e
  rcases h.2 with ⟨hv, _⟩ | ⟨g', cap, cur, hv, _, hh, _⟩
  · subst hv; simp [Value.ownBlock] at hg
  · subst hv
    simp only [Value.ownBlock, Option.some.injEq] at hg
    subst hg
    rw [hm] at hh
    simp only [Option.some.injEq, Obj.cells.injEq] at hh
    exact ht hh.2.1

/-- A column whose values, rows or pivots were replaced. -/
theorem RcL.with {lo : Nat} {w w' : World} {x y z x' y' z' : Value} {l r l' r' : List Int} {ps ps' : List Pv} (hw : w.heap.size ≤ w'.heap.size)
    (hx : ∀ W : World, (∀ b, lo ≤ b → b < w'.heap.size → W.heap[b]? = w'.heap[b]?) → w'.heap.size ≤ W.heap.size → Ints W W.heap.size x' l')
    (hy : ∀ W : World, (∀ b, lo ≤ b → b < w'.heap.size → W.heap[b]? = w'.heap[b]?) → w'.heap.size ≤ W.heap.size → Ints W W.heap.size y' r')
    (hz : ∀ W : World, (∀ b, lo ≤ b → b < w'.heap.size → W.heap[b]? = w'.heap[b]?) → w'.heap.size ≤ W.heap.size → Pvs W W.heap.size z' ps')
    (cx : Cap x') (cy : Cap y') (cz : Cap z') : RcL lo w' (.agg #[x', y', z']) l' r' ps' :=
  fun W h1 h2 => ⟨x', y', z', rfl, hx W h1 h2, hy W h1 h2, hz W h1 h2, cx, cy, cz⟩

theorem Ow.free {w : World} {g n c lo hi : Nat} {l : List Int} (h : Ow w (.slice (some ⟨g, 0, none⟩) n c) l lo hi) (j : Nat) (hj : j < l.length) : w.frozen? ⟨g, j, none⟩ = false := by
  obtain ⟨⟨F, ⟨o, rfl⟩, hF⟩, hle, htop⟩ := h
  exact (o.cell j hj).2.1

theorem Ow.put {w : World} {g c lo hi : Nat} {l : List Int} (h : Ow w (.slice (some ⟨g, 0, none⟩) l.length c) l lo hi) (j : Nat) (x : Int) : Ow (w.setCell ⟨g, j, none⟩ (.int .i64 x)) (.slice (some ⟨g, 0, none⟩) l.length c) (l.set j x) lo hi := by
  obtain ⟨⟨F, ⟨o, rfl⟩, hF⟩, hle, htop⟩ := h
  exact ⟨⟨_, ⟨o.store rfl j x, rfl⟩, hF⟩, hle, by simpa using htop⟩

theorem Is.own {w : World} {v : Value} {l : List Int} {lo hi : Nat} (h : Ow w v l lo hi) : Is w lo 3 v l := h.is

theorem Owp.block {w : World} {v : Value} {ps : List Pv} {lo hi : Nat} (h : Owp w v ps lo hi) : ∀ k, v.ownBlock = some k → lo ≤ k ∧ k < hi := fun k hk => ⟨(World.ownsRow.lt h.own k hk).1, h.lt k hk⟩

theorem Kd.keep2 {G : List Nat} {w W W' : World} {g0 m n n3 h3 : Nat} {c0 c1 : Array Value} {t0 t1 : TypeId} {v : Value} (h : Kd G w W [(g0, c0, t0), (m, c1, t1)]) (hb : Below n W W') (hn : w.heap.size ≤ n)
    (hq : ∀ k, k < W.heap.size → some k ≠ v.ownBlock → W'.heap[k]? = W.heap[k]?) (ho : ∀ k, v.ownBlock = some k → n3 ≤ k ∧ k < h3) (h0 : g0 < n3) (h1 : h3 ≤ m) : Kd G w W' [(g0, c0, t0), (m, c1, t1)] := by
  refine h.keep hb hn fun e he => ?_
  simp only [List.mem_cons, List.not_mem_nil, or_false] at he
  rcases he with rfl | rfl
  · exact hq g0 (h.lt 0 rfl) (fun e => by have := ho g0 e.symm; omega)
  · exact hq m (h.lt 1 rfl) (fun e => by have := ho m e.symm; omega)

theorem Kd.poke2 {G : List Nat} {w W : World} {g0 m gv j : Nat} {c0 c1 : Array Value} {t0 t1 : TypeId} {u : Value} (h : Kd G w W [(g0, c0, t0), (m, c1, t1)]) (hn : w.heap.size ≤ gv) (h0 : g0 < gv) (h1 : gv < m) : Kd G w (W.setCell ⟨gv, j, none⟩ u) [(g0, c0, t0), (m, c1, t1)] := by
  have s := Seg.setCell W gv j u
  refine h.keep s.below hn fun e he => ?_
  simp only [List.mem_cons, List.not_mem_nil, or_false] at he
  rcases he with rfl | rfl
  · exact s.below.block g0 h0
  · exact s.over m (by omega) (h.lt 1 rfl)

theorem Rd.keep2 {B : Nat} {a : Option Addr} {len cap g n n3 h3 : Nat} {W W' : World} {v : Value} (h : Rd B a len cap W g) (hb : Below n W W') (hn : g < n)
    (hq : ∀ k, k < W.heap.size → some k ≠ v.ownBlock → W'.heap[k]? = W.heap[k]?) (ho : ∀ k, v.ownBlock = some k → n3 ≤ k ∧ k < h3) (h0 : g < n3) : Rd B a len cap W' g :=
  h.step (hb.mono (by have := h.high; omega)) (hq g h.lt (fun e => by have := ho g e.symm; omega))

theorem Rd.poke {B : Nat} {a : Option Addr} {len cap g m j : Nat} {w : World} {x : Value} (h : Rd B a len cap w g) (hy : g < m) : Rd B a len cap (w.setCell ⟨m, j, none⟩ x) g :=
  h.step ((Seg.setCell w m j x).below.mono (by have := h.high; omega)) ((Seg.setCell w m j x).below.block g hy)

theorem Op.apart {w : World} {base : Nat} {v : Value} {l : List Pv} {m : Nat} {cs : Array Value} {t : TypeId} (h : Op w base v l) (hm : w.heap[m]? = some (.cells cs t (0, 0))) (ht : t ≠ 96) : ∀ g, v.ownBlock = some g → g ≠ m := by
  intro g hg e
  subst e
  rcases h.2 with ⟨hv, _⟩ | ⟨g', cap, cur, hv, _, hh, _⟩
  · subst hv; simp [Value.ownBlock] at hg
  · subst hv
    simp only [Value.ownBlock, Option.some.injEq] at hg
    subst hg
    rw [hm] at hh
    simp only [Option.some.injEq, Obj.cells.injEq] at hh
    exact ht hh.2.1

theorem poke_heap {w : World} {m j g : Nat} {u : Value} (h : g ≠ m) (hg : g < w.heap.size) : (w.setCell ⟨m, j, none⟩ u).heap[g]? = w.heap[g]? := by
  have s := Seg.setCell w m j u
  by_cases hb : g < m
  · exact s.below.block g hb
  · exact s.over g (by omega) hg

theorem Is.poke {w : World} {base m j : Nat} {v u : Value} {l : List Int} (h : Is w base 3 v l) (hm : ∀ g, v.ownBlock = some g → g ≠ m) : Is (w.setCell ⟨m, j, none⟩ u) base 3 v l :=
  owns_eq h fun g hg => poke_heap (hm g hg) (World.ownsRow.lt h g hg).2

theorem Op.pokeOther {w : World} {base m j : Nat} {v u : Value} {l : List Pv} (h : Op w base v l) (hm : ∀ g, v.ownBlock = some g → g ≠ m) : Op (w.setCell ⟨m, j, none⟩ u) base v l :=
  owns_eq h fun g hg => poke_heap (hm g hg) (World.ownsRow.lt h g hg).2

/-- A drawn column whose values were replaced .. -/
theorem OC.partX {w w' : World} {x y z x' : Value} {l r l' : List Int} {ps : List Pv} {lo hi n1 h1 n2 h2 n3 h3 hx' : Nat} (h : OC w x y z l r ps lo hi n1 h1 n2 h2 n3 h3) (hx : Ow w' x' l' n1 hx') (wl : ∀ x ∈ l', I64 x)
    (hs : ∀ b, lo ≤ b → b < hi → ¬(n1 ≤ b ∧ b < h1) → w'.heap[b]? = w.heap[b]?) (hsz : w.heap.size ≤ w'.heap.size) (wr : ∀ x ∈ r, I64 x) (hl : ps.length ≤ 9223372036854775807) (wp : ∀ p ∈ ps, I64 p.1 ∧ I64 p.2) : RcL lo w' (.agg #[x', y, z]) l' r ps := by
  have q1 := h.low; have q2 := h.high; have q3 := h.apart; have q4 := h.top; have q5 := hx.top
  refine RcL.with (w := w') (x := x) (y := y) (z := z) (l := l) (r := r) (ps := ps) (Nat.le_refl _) (fun W e1 e2 => ?_) (fun W e1 e2 => ?_) (fun W e1 e2 => ?_) hx.cap h.y.cap h.z.cap
  · exact hx.reads2 wl fun b b1 b2 => e1 b (by omega) (by omega)
  · exact h.y.reads2 wr fun b b1 b2 => (e1 b (by omega) (by omega)).trans (hs b (by omega) (by omega) (by omega))
  · exact h.z.reads2 hl wp fun b b1 b2 => (e1 b (by omega) (by omega)).trans (hs b (by omega) (by omega) (by omega))

/-- .. or its rows .. -/
theorem OC.partY {w w' : World} {x y z y' : Value} {l r r' : List Int} {ps : List Pv} {lo hi n1 h1 n2 h2 n3 h3 hx' : Nat} (h : OC w x y z l r ps lo hi n1 h1 n2 h2 n3 h3) (hx : Ow w' y' r' n2 hx') (wr : ∀ x ∈ r', I64 x)
    (hs : ∀ b, lo ≤ b → b < hi → ¬(n2 ≤ b ∧ b < h2) → w'.heap[b]? = w.heap[b]?) (hsz : w.heap.size ≤ w'.heap.size) (wl : ∀ x ∈ l, I64 x) (hl : ps.length ≤ 9223372036854775807) (wp : ∀ p ∈ ps, I64 p.1 ∧ I64 p.2) : RcL lo w' (.agg #[x, y', z]) l r' ps := by
  have q1 := h.low; have q2 := h.high; have q3 := h.apart; have q4 := h.top; have q5 := hx.top
  refine RcL.with (w := w') (x := x) (y := y) (z := z) (l := l) (r := r) (ps := ps) (Nat.le_refl _) (fun W e1 e2 => ?_) (fun W e1 e2 => ?_) (fun W e1 e2 => ?_) h.x.cap hx.cap h.z.cap
  · exact h.x.reads2 wl fun b b1 b2 => (e1 b (by omega) (by omega)).trans (hs b (by omega) (by omega) (by omega))
  · exact hx.reads2 wr fun b b1 b2 => e1 b (by omega) (by omega)
  · exact h.z.reads2 hl wp fun b b1 b2 => (e1 b (by omega) (by omega)).trans (hs b (by omega) (by omega) (by omega))

/-- .. or its pivots. -/
theorem OC.partZ {w w' : World} {x y z z' : Value} {l r : List Int} {ps ps' : List Pv} {lo hi n1 h1 n2 h2 n3 h3 hx' : Nat} (h : OC w x y z l r ps lo hi n1 h1 n2 h2 n3 h3) (hx : Owp w' z' ps' n3 hx') (hht : hx' ≤ w'.heap.size) (hl : ps'.length ≤ 9223372036854775807) (wp : ∀ p ∈ ps', I64 p.1 ∧ I64 p.2)
    (hs : ∀ b, lo ≤ b → b < hi → ¬(n3 ≤ b ∧ b < h3) → w'.heap[b]? = w.heap[b]?) (hsz : w.heap.size ≤ w'.heap.size) (wl : ∀ x ∈ l, I64 x) (wr : ∀ x ∈ r, I64 x) : RcL lo w' (.agg #[x, y, z']) l r ps' := by
  have q1 := h.low; have q2 := h.high; have q3 := h.apart; have q4 := h.top
  refine RcL.with (w := w') (x := x) (y := y) (z := z) (l := l) (r := r) (ps := ps) (Nat.le_refl _) (fun W e1 e2 => ?_) (fun W e1 e2 => ?_) (fun W e1 e2 => ?_) h.x.cap h.y.cap hx.cap
  · exact h.x.reads2 wl fun b b1 b2 => (e1 b (by omega) (by omega)).trans (hs b (by omega) (by omega) (by omega))
  · exact h.y.reads2 wr fun b b1 b2 => (e1 b (by omega) (by omega)).trans (hs b (by omega) (by omega) (by omega))
  · exact hx.reads2 hl wp fun b b1 b2 => e1 b (by omega) (by omega)

/-- A drawn column is returned, to be read; the reader stands, of what was there only its block may have turned. -/
def RetDA (B : Nat) (a : Option Addr) (len cap g : Nat) (w : World) (e : Ending) (w' : World) : Prop := ∃ (a1 a2 a3 : Option Addr) (c1 c2 c3 : Nat) (l r : List Int) (ps : List Pv) (lo : Nat),
  e = .returned (.agg #[.slice a1 l.length c1, .slice a2 r.length c2, .slice a3 ps.length c3]) ∧ RcL lo w' (.agg #[.slice a1 l.length c1, .slice a2 r.length c2, .slice a3 ps.length c3]) l r ps ∧ w.heap.size ≤ lo ∧ CPA l r ps ∧ Rd B a len cap w' g ∧ Only [g] w w'

set_option maxHeartbeats 8000000 in
theorem anyC_d (B : Nat) (a : Option Addr) (len cap g : Nat) (w : World) (h : Rd B a len cap w g) :
    Calls Try.prog 42 #[.pointer (some ⟨g, 0, none⟩)] w (RetDA B a len cap g w) := by
  have hlt := h.lt
  have R := hide (h.alloc (.cells #[.slice none 0 0, .slice none 0 0, .slice none 0 0] 30))
  have X := hide (Kd.one [g] w #[.slice none 0 0, .slice none 0 0, .slice none 0 0] 30)
  obtain ⟨w1, hw1⟩ : ∃ w1, w1 = w.alloc (.cells #[.slice none 0 0, .slice none 0 0, .slice none 0 0] 30) := ⟨_, rfl⟩
  have hz := hide (show w1.heap.size = w.heap.size + 1 by rw [hw1]; simp)
  rw [← hw1] at R X
  clear h
  go_enter Try.func42, Try.ntmps42
  go_wp2_with fail
  rw [← hw1]
  clear hw1
  go_at_call 70
  refine (cracker_d _ a len cap g _ R.out).mono ?_
  rintro e w2 ⟨g1, g2, g3, k1, k2, k3, l, r, ps, lo, hi, n1, h1, n2, h2, n3, h3, rfl, C, hlo, hcp, hr, ho⟩
  have R := hide hr
  have X := hide (X.out.drawn ho (by simp; exact hlt))
  have HLO := hide (show w.heap.size + 1 ≤ lo by have := hz.out; omega)
  have HCP := hide hcp
  have bl := below1 w2 (.cells #[.slice g1 l.length k1, .slice g2 r.length k2, .slice g3 ps.length k3] 30)
  have X := hide (X.out.alloc #[.slice g1 l.length k1, .slice g2 r.length k2, .slice g3 ps.length k3] 30)
  have C := hide (C.below bl)
  have R := hide (R.out.alloc (.cells #[.slice g1 l.length k1, .slice g2 r.length k2, .slice g3 ps.length k3] 30))
  have HT := hide (show hi ≤ w2.heap.size from by have := ho.below.size; have := hr.lt; have := ‹OC w2 _ _ _ _ _ _ _ _ _ _ _ _ _ _›.top; omega)
  clear bl hr ho hlo hcp
  obtain ⟨m, hm⟩ : ∃ q, q = w2.heap.size := ⟨_, rfl⟩
  obtain ⟨w3, hw3⟩ : ∃ q, q = w2.alloc (.cells #[.slice g1 l.length k1, .slice g2 r.length k2, .slice g3 ps.length k3] 30) := ⟨_, rfl⟩
  have hs3 := hide (show w3.heap.size = m + 1 by rw [hw3, hm]; simp)
  rw [← hw3] at X C R
  rw [← hm] at X HT
  simp only [List.cons_append, List.nil_append] at X
  go_wp2_with fail
  rw [← hw3]
  try rw [← hm]
  clear hw3 hm
  refine (below_d B a len cap g _ R.out 12 (by omega) (by omega)).mono ?_
  rintro e w4 ⟨s, ⟨s0, s1⟩, rfl, hr, ho⟩
  have R := hide hr
  have X := hide (X.out.drawn ho (by simp; exact hlt))
  have C := hide (C.out.only ho (by have := HLO.out; omega))
  clear hr ho
  have hmg := hide (show g < m by have := X.out.low 1 rfl; omega)
  have HA := hide HCP.out.a
  by_cases e0 : s = 0
  · subst e0
    by_cases hl0 : l.length = 0
    · have t0 : decide (0 < l.length) = false := decide_eq_false (by omega)
      clear hl0
      have c10 : w4.cell? ⟨m, 0, none⟩ = some (.slice g1 l.length k1) := X.out.cell 1 0 rfl rfl
      have c11 : w4.cell? ⟨m, 1, none⟩ = some (.slice g2 r.length k2) := X.out.cell 1 1 rfl rfl
      have c12 : w4.cell? ⟨m, 2, none⟩ = some (.slice g3 ps.length k3) := X.out.cell 1 2 rfl rfl
      have c00 := X.out.cell 0 0 rfl rfl
      have f00 := X.out.free 0 0 rfl
      have c01 := X.out.cell 0 1 rfl rfl
      have f01 := X.out.free 0 1 rfl
      have c02 := X.out.cell 0 2 rfl rfl
      have f02 := X.out.free 0 2 rfl
      have hne := X.out.ne' 0 1 rfl rfl (by omega)
      go_wp2_with fail
      have Z := ((X.out.set 0 0 rfl (.slice g1 l.length k1)).set 0 1 rfl (.slice g2 r.length k2)).set 0 2 rfl (.slice g3 ps.length k3)
      have z0 := Z.cell 0 0 rfl rfl
      have z1 := Z.cell 0 1 rfl rfl
      have z2 := Z.cell 0 2 rfl rfl
      have R9 := R.out.put3 (x := .slice g1 l.length k1) (y := .slice g2 r.length k2) (z := .slice g3 ps.length k3) (show g < w.heap.size from hlt)
      have Q9 := ((C.out.reads HCP.out.a.i64 HCP.out.vr (by have := HCP.out.np; omega) HCP.out.vp)).seg (seg3 _ w.heap.size (.slice g1 l.length k1) (.slice g2 r.length k2) (.slice g3 ps.length k3)) HLO.out
      exact bodyPost_ret (v := .agg #[.slice g1 l.length k1, .slice g2 r.length k2, .slice g3 ps.length k3]) (by simp [results, Try.results42, go_sem, z0, z1, z2]) rfl
        ⟨_, _, _, _, _, _, l, r, ps, lo, rfl, Q9, by have := HLO.out; omega, HA.out, R9, Z.only⟩
    · have t0 : decide (0 < l.length) = true := decide_eq_true (by omega)
      have HL0 := hide hl0
      clear hl0
      obtain ⟨gv, hgv, -⟩ := C.out.x.at (by have := HL0.out; omega)
      subst hgv
      have hbv := C.out.x.block gv rfl
      have HGV := hide (show lo ≤ gv ∧ gv < hi by have := C.out.low; have := C.out.high; omega)
      have HNV := hide hbv
      clear hbv
      have PK := hide (fun (W : World) (hr : Rd B a len cap W g) => show Calls Try.prog 50 #[.pointer (some ⟨g, 0, none⟩), .slice (some ⟨W.heap.size, 0, none⟩) 4 4] (W.alloc (.cells #[.int .i64 0, .int .i64 999, .int .i64 1000, .int .i64 (-5)] 3)) (RetD B a len cap g (W.alloc (.cells #[.int .i64 0, .int .i64 999, .int .i64 1000, .int .i64 (-5)] 3)) (· ∈ [(0 : Int), 999, 1000, -5])) from pickI_d B a len cap g _ (hr.alloc (.cells ([(0 : Int), 999, 1000, -5].map (Value.int .i64)).toArray 3)) [0, 999, 1000, -5] W.heap.size 4 4 rfl (by omega) (by omega) (by have := hr.lt; omega) (by simp) (litsI W [0, 999, 1000, -5] 3))
      have PKd := hide (fun (W : World) (hr : Rd B a len cap W g) => show Calls Try.prog 50 #[.pointer (some ⟨g, 0, none⟩), .slice (some ⟨W.heap.size, 0, none⟩) 4 4] (W.alloc (.cells #[.int .i64 0, .int .i64 999, .int .i64 1000, .int .i64 (-5)] 3)).drew (RetD B a len cap g (W.alloc (.cells #[.int .i64 0, .int .i64 999, .int .i64 1000, .int .i64 (-5)] 3)).drew (· ∈ [(0 : Int), 999, 1000, -5])) from pickI_d B a len cap g _ (hr.alloc (.cells ([(0 : Int), 999, 1000, -5].map (Value.int .i64)).toArray 3)).drew' [0, 999, 1000, -5] W.heap.size 4 4 rfl (by omega) (by omega) (by have := hr.lt; omega) (by simp) (litsI W [0, 999, 1000, -5] 3))
      have hGm := hide (show ∀ b ∈ [g], b < w.heap.size from by intro b hb; rw [List.mem_singleton.1 hb]; exact hlt)
      have c10 : w4.cell? ⟨m, 0, none⟩ = some (.slice (some ⟨gv, 0, none⟩) l.length k1) := X.out.cell 1 0 rfl rfl
      have c11 : w4.cell? ⟨m, 1, none⟩ = some (.slice g2 r.length k2) := X.out.cell 1 1 rfl rfl
      have c12 : w4.cell? ⟨m, 2, none⟩ = some (.slice g3 ps.length k3) := X.out.cell 1 2 rfl rfl
      have c00 := X.out.cell 0 0 rfl rfl
      have f00 := X.out.free 0 0 rfl
      have c01 := X.out.cell 0 1 rfl rfl
      have f01 := X.out.free 0 1 rfl
      have c02 := X.out.cell 0 2 rfl rfl
      have f02 := X.out.free 0 2 rfl
      have hne := X.out.ne' 0 1 rfl rfl (by omega)
      have h0L : (0 : Int) < (l.length : Int) := by have := HL0.out; omega
      have h0N : 0 < l.length := by omega
      have h0E : ¬ l = [] := by intro e; rw [e] at h0N; simp at h0N
      go_upto_region 5 with fail
      have R0 := R
      have X0 := X
      have C0 := C
      have R := hide (R.out.drew')
      have X := hide X.out.drew
      have C := hide (C.out.below (Below.refl _ _).drew)
      have KS := hide (fun (W : World) (h : Kd [g] w W [(w.heap.size, #[.slice none 0 0, .slice none 0 0, .slice none 0 0], 30), (m, #[.slice (some ⟨gv, 0, none⟩) l.length k1, .slice g2 r.length k2, .slice g3 ps.length k3], 30)]) => show W.cell? ⟨m, 0, none⟩ = some (.slice (some ⟨gv, 0, none⟩) l.length k1) from h.cell 1 0 rfl rfl)
      have KX := hide (fun (W : World) (u : Value) (h : Kd [g] w W [(w.heap.size, #[.slice none 0 0, .slice none 0 0, .slice none 0 0], 30), (m, #[.slice (some ⟨gv, 0, none⟩) l.length k1, .slice g2 r.length k2, .slice g3 ps.length k3], 30)]) => show Kd [g] w (W.setCell ⟨gv, 0, none⟩ u) [(w.heap.size, #[.slice none 0 0, .slice none 0 0, .slice none 0 0], 30), (m, #[.slice (some ⟨gv, 0, none⟩) l.length k1, .slice g2 r.length k2, .slice g3 ps.length k3], 30)] from h.poke2 (by have := HLO.out; have := HGV.out; omega) (by have := HLO.out; have := HGV.out; omega) (by have := HT.out; have := HGV.out; omega))
      clear c10 c11 c12 c00 f00 c01 f01 c02 f02 hne
      have c10 := KS.out _ X.out
      go_region_held3 (fun W => W.cell? ⟨m, 0, none⟩ = some (.slice (some ⟨gv, 0, none⟩) l.length k1)) (first | with_reducible exact KS.out _ X.out | with_reducible exact KS.out _ (X.out.up (below1 _ _)) | with_reducible exact KS.out _ (X0.out.up (below1 _ _)).drew | with_reducible exact KS.out _ (KX.out _ _ X.out) | go_keep) (first
        | (go_at_call 50; (first | with_reducible refine (PK.out _ R.out).mono ?_ | with_reducible refine (PKd.out _ R0.out).mono ?_); rintro e wq ⟨x, hx, rfl, hr, ho⟩; have hx := hide hx; replace R := hide hr; replace X := hide (by first | with_reducible exact (X.out.up (below1 _ _)).drawn ho hGm.out | with_reducible exact (X0.out.up (below1 _ _)).drew.drawn ho hGm.out); replace C := hide (by first | with_reducible exact (C.out.below (below1 _ _)).only ho (Nat.lt_of_lt_of_le hlt (Nat.le_trans (Nat.le_succ _) HLO.out)) | with_reducible exact (C0.out.below ((below1 _ _).drew)).only ho (Nat.lt_of_lt_of_le hlt (Nat.le_trans (Nat.le_succ _) HLO.out))); clear hr ho c10; have hcv := (C.out.x.at2 0 (by have := HL0.out; omega)); have hfv := (C.out.x.free 0 (by have := HL0.out; omega)); have c10 := KS.out _ X.out))
      all_goals
        have X5 := hide (KX.out _ (.int .i64 x) X.out)
        have R5 := hide (R.out.poke (m := gv) (j := 0) (x := .int .i64 x) (by have := HLO.out; have := HGV.out; omega))
        have O5 := C.out.x.put 0 x
        have sg := Seg.setCell wq gv 0 (.int .i64 x)
        have hx4 := hx.out
        have hxb : -1000 ≤ x ∧ x ≤ 1000 := by simp at hx4; omega
        have wl5 : ∀ y ∈ l.set 0 x, -1000 ≤ y ∧ y ≤ 1000 := fun y hy => by
          rcases List.mem_or_eq_of_mem_set hy with h | rfl
          · exact HCP.out.a.vl y h
          · exact hxb
        have A5 : CPA (l.set 0 x) r ps := ⟨by simpa using HCP.out.a.nl, HCP.out.a.nr, HCP.out.a.np, wl5, HCP.out.a.vr, HCP.out.a.vp⟩
        have RC := hide (C.out.partX (w' := wq.setCell ⟨gv, 0, none⟩ (.int .i64 x)) O5 A5.i64 (fun b b1 b2 b3 => by
          by_cases hb : b < gv
          · exact sg.below.block b hb
          · exact sg.over b (by have := HNV.out; omega) (by have := C.out.top; omega)) sg.below.size HCP.out.vr (by have := HCP.out.np; omega) HCP.out.vp)
        clear c10 hcv hfv sg hx4 O5
        obtain ⟨w5, hw5⟩ : ∃ q, q = wq.setCell ⟨gv, 0, none⟩ (.int .i64 x) := ⟨_, rfl⟩
        rw [← hw5] at X5 R5 RC
        rw [← hw5]
        clear hw5
        have c10 : w5.cell? ⟨m, 0, none⟩ = some (.slice (some ⟨gv, 0, none⟩) l.length k1) := X5.out.cell 1 0 rfl rfl
        have c11 : w5.cell? ⟨m, 1, none⟩ = some (.slice g2 r.length k2) := X5.out.cell 1 1 rfl rfl
        have c12 : w5.cell? ⟨m, 2, none⟩ = some (.slice g3 ps.length k3) := X5.out.cell 1 2 rfl rfl
        have c00 := X5.out.cell 0 0 rfl rfl
        have f00 := X5.out.free 0 0 rfl
        have c01 := X5.out.cell 0 1 rfl rfl
        have f01 := X5.out.free 0 1 rfl
        have c02 := X5.out.cell 0 2 rfl rfl
        have f02 := X5.out.free 0 2 rfl
        have hne := X5.out.ne' 0 1 rfl rfl (by omega)
        go_wp2_with fail
        have Z := ((X5.out.set 0 0 rfl (.slice (some ⟨gv, 0, none⟩) l.length k1)).set 0 1 rfl (.slice g2 r.length k2)).set 0 2 rfl (.slice g3 ps.length k3)
        have z0 := Z.cell 0 0 rfl rfl
        have z1 := Z.cell 0 1 rfl rfl
        have z2 := Z.cell 0 2 rfl rfl
        have R9 := R5.out.put3 (x := .slice (some ⟨gv, 0, none⟩) l.length k1) (y := .slice g2 r.length k2) (z := .slice g3 ps.length k3) (show g < w.heap.size from hlt)
        have Q9 := (RC.out).seg (seg3 _ w.heap.size (.slice (some ⟨gv, 0, none⟩) l.length k1) (.slice g2 r.length k2) (.slice g3 ps.length k3)) HLO.out
        exact bodyPost_ret (v := .agg #[.slice (some ⟨gv, 0, none⟩) l.length k1, .slice g2 r.length k2, .slice g3 ps.length k3]) (by simp [results, Try.results42, go_sem, z0, z1, z2]) rfl
          ⟨some ⟨gv, 0, none⟩, g2, g3, k1, k2, k3, l.set 0 x, r, ps, lo, by simp, by rw [List.length_set]; exact Q9, by have := HLO.out; omega, A5, R9, Z.only⟩
  by_cases e1 : s = 1
  · subst e1
    have hGm := hide (show ∀ b ∈ [g], b < w.heap.size from by intro b hb; rw [List.mem_singleton.1 hb]; exact hlt)
    have HGL := hide (show g < lo by have := HLO.out; omega)
    have c10 : w4.cell? ⟨m, 0, none⟩ = some (.slice g1 l.length k1) := X.out.cell 1 0 rfl rfl
    have c11 : w4.cell? ⟨m, 1, none⟩ = some (.slice g2 r.length k2) := X.out.cell 1 1 rfl rfl
    have c12 : w4.cell? ⟨m, 2, none⟩ = some (.slice g3 ps.length k3) := X.out.cell 1 2 rfl rfl
    have c00 := X.out.cell 0 0 rfl rfl
    have f00 := X.out.free 0 0 rfl
    have c01 := X.out.cell 0 1 rfl rfl
    have f01 := X.out.free 0 1 rfl
    have c02 := X.out.cell 0 2 rfl rfl
    have f02 := X.out.free 0 2 rfl
    have hne := X.out.ne' 0 1 rfl rfl (by omega)
    go_upto_region 7 with fail
    have KS := hide (fun (W : World) (h : Kd [g] w W [(w.heap.size, #[.slice none 0 0, .slice none 0 0, .slice none 0 0], 30), (m, #[.slice g1 l.length k1, .slice g2 r.length k2, .slice g3 ps.length k3], 30)]) => show W.cell? ⟨m, 2, none⟩ = some (.slice g3 ps.length k3) from h.cell 1 2 rfl rfl)
    have R := hide (R.out.drew')
    have X := hide X.out.drew
    have C := hide (C.out.below (Below.refl _ _).drew)
    clear c10 c11 c12 c00 f00 c01 f01 c02 f02 hne
    have c12 := KS.out _ X.out
    go_region_law (first
      | (have _hh := hI0; go_simp; go_at_call 44; (with_reducible refine (below_d B a len cap g _ R.out 9 (by omega) (by omega)).mono ?_); rintro e wq2 ⟨jj, ⟨j0, j1⟩, rfl, hr, ho⟩; replace R := hide hr; replace X := hide (X.out.drawn ho hGm.out); replace C := hide (C.out.only ho HGL.out); have hJ0 := hide (And.intro j0 j1); clear hr ho j0 j1 c12; have c12 := KS.out _ X.out; have c12a := KS.out _ (X.out.up (below1 wq2 (.cells #[.int .i64 ii, .int .i64 jj] 96))))
      | (go_simp; go_at_call 44; (with_reducible refine (below_d B a len cap g _ R.out 9 (by omega) (by omega)).mono ?_); rintro e wq ⟨ii, ⟨j0, j1⟩, rfl, hr, ho⟩; replace R := hide hr; replace X := hide (X.out.drawn ho hGm.out); replace C := hide (C.out.only ho HGL.out); have hI0 := hide (And.intro j0 j1); clear hr ho j0 j1 c12; have c12 := KS.out _ X.out)
      | (refine op_append_step rfl _ _ rfl n3 (.slice g3 ps.length k3) ps (C.out.z.own.below (below1 _ _)) (by simp [Act.eval, Act.put]) ii jj 1 wq2.heap.size (by simp [Act.eval, Act.put]) (by exact heap_alloc_new _ _) (by have := HCP.out.np; omega) (by have := C.out.z.lt; have := C.out.high; have := C.out.top; have := C.out.z.le; simp; omega) ?_; intro v5 w5 hown hb hq; obtain ⟨q, hqq⟩ : ∃ q, q = ps ++ [(ii, jj)] := ⟨_, rfl⟩; rw [← hqq] at hown; have HQQ := hide hqq; clear hqq; obtain ⟨g5, k5, rfl⟩ := hown.form; have X5 := hide ((X.out.up (below1 _ _)).keep2 hb (by have := HLO.out; have := C.out.low; omega) hq C.out.z.block (by have := HLO.out; have := C.out.low; omega) (by have := HT.out; have := C.out.high; omega)); have R5 := hide ((R.out.alloc _).keep2 hb (by have := HLO.out; have := C.out.low; omega) hq C.out.z.block (by have := HLO.out; have := C.out.low; omega)); have O5 := hide hown; have HB := hide hb; have HQ := hide hq; clear hb hq hown c12 c12a; have c12 := KS.out _ X5.out; have f12 := X5.out.free 1 2 rfl))
    all_goals
      have q1 := C.out.low
      have q2 := C.out.high
      have q3 := C.out.top
      have q4 := HT.out
      have q5 := HLO.out
      have q6 := C.out.z.le
      have hbs := HB.out.size
      have hal : (wq2.alloc (.cells #[.int .i64 ii, .int .i64 jj] 96)).heap.size = wq2.heap.size + 1 := by simp
      have OZ := Owp.of (w' := w5.setCell ⟨m, 2, none⟩ (.slice g5 q.length k5)) (O5.out.pokeOther (m := m) (j := 2) (u := .slice g5 q.length k5) (O5.out.apart (X5.out.mem 1 rfl) (by decide))) (by simp; omega)
      have hin : ∀ x ∈ q, x ∈ ps ∨ x = (ii, jj) := fun x hx => by rw [HQQ.out] at hx; simpa using hx
      have hql : q.length = ps.length + 1 := by rw [HQQ.out]; simp
      have wp5 : ∀ x ∈ q, I64 x.1 ∧ I64 x.2 := fun x hx => by
        rcases hin x hx with h | rfl
        · exact HCP.out.vp x h
        · have := hI0.out
          have := hJ0.out
          exact ⟨⟨by simp only; omega, by simp only; omega⟩, ⟨by simp only; omega, by simp only; omega⟩⟩
      have RC := hide (C.out.partZ OZ (Nat.le_refl _) (by have := HCP.out.np; omega) wp5 (fun b b1 b2 b3 => (poke_heap (by omega) (by omega)).trans ((HQ.out b (by omega) (fun e => b3 (C.out.z.block b e.symm))).trans ((below1 wq2 _).block b (by omega)))) (by simp; omega) HCP.out.a.i64 HCP.out.vr)
      have A5 : CPA l r q := ⟨HCP.out.nl, by have := HCP.out.nr; omega, by have := HCP.out.np; omega, HCP.out.vl, HCP.out.vr, wp5⟩
      have X6 := hide (X5.out.set 1 2 rfl (.slice g5 q.length k5))
      have R6 := hide (R5.out.poke (m := m) (j := 2) (x := .slice g5 q.length k5) hmg.out)
      simp only [List.set_cons_zero, List.set_cons_succ] at X6
      clear c12 f12 q1 q2 q3 q4 q5 q6 hbs hal OZ hin hql wp5
      obtain ⟨w6, hw6⟩ : ∃ q', q' = w5.setCell ⟨m, 2, none⟩ (.slice g5 q.length k5) := ⟨_, rfl⟩
      rw [← hw6] at X6 R6 RC
      rw [← hw6]
      clear hw6
      have c10 : w6.cell? ⟨m, 0, none⟩ = some (.slice g1 l.length k1) := X6.out.cell 1 0 rfl rfl
      have c11 : w6.cell? ⟨m, 1, none⟩ = some (.slice g2 r.length k2) := X6.out.cell 1 1 rfl rfl
      have c12 : w6.cell? ⟨m, 2, none⟩ = some (.slice g5 q.length k5) := X6.out.cell 1 2 rfl rfl
      have c00 := X6.out.cell 0 0 rfl rfl
      have f00 := X6.out.free 0 0 rfl
      have c01 := X6.out.cell 0 1 rfl rfl
      have f01 := X6.out.free 0 1 rfl
      have c02 := X6.out.cell 0 2 rfl rfl
      have f02 := X6.out.free 0 2 rfl
      have hne := X6.out.ne' 0 1 rfl rfl (by omega)
      go_wp2_with fail
      have Z := ((X6.out.set 0 0 rfl (.slice g1 l.length k1)).set 0 1 rfl (.slice g2 r.length k2)).set 0 2 rfl (.slice g5 q.length k5)
      have z0 := Z.cell 0 0 rfl rfl
      have z1 := Z.cell 0 1 rfl rfl
      have z2 := Z.cell 0 2 rfl rfl
      have R9 := R6.out.put3 (x := .slice g1 l.length k1) (y := .slice g2 r.length k2) (z := .slice g5 q.length k5) (show g < w.heap.size from hlt)
      have Q9 := (RC.out).seg (seg3 _ w.heap.size (.slice g1 l.length k1) (.slice g2 r.length k2) (.slice g5 q.length k5)) HLO.out
      exact bodyPost_ret (v := .agg #[.slice g1 l.length k1, .slice g2 r.length k2, .slice g5 q.length k5]) (by simp [results, Try.results42, go_sem, z0, z1, z2]) rfl
        ⟨_, _, _, _, _, _, l, r, q, lo, rfl, Q9, by have := HLO.out; omega, A5, R9, Z.only⟩
  by_cases e2 : s = 2
  · subst e2
    have IY := hide ((C.out.y.below (below1 w4 (.cells #[.int .i64 0] 3))).is)
    have c10 : w4.cell? ⟨m, 0, none⟩ = some (.slice g1 l.length k1) := X.out.cell 1 0 rfl rfl
    have c11 : w4.cell? ⟨m, 1, none⟩ = some (.slice g2 r.length k2) := X.out.cell 1 1 rfl rfl
    have c12 : w4.cell? ⟨m, 2, none⟩ = some (.slice g3 ps.length k3) := X.out.cell 1 2 rfl rfl
    have c00 := X.out.cell 0 0 rfl rfl
    have f00 := X.out.free 0 0 rfl
    have c01 := X.out.cell 0 1 rfl rfl
    have f01 := X.out.free 0 1 rfl
    have c02 := X.out.cell 0 2 rfl rfl
    have f02 := X.out.free 0 2 rfl
    have hne := X.out.ne' 0 1 rfl rfl (by omega)
    go_wp2_with (first | (at_builtin; refine appI_list (w4.alloc (.cells #[.int .i64 0] 3)) rfl _ _ rfl n2 (.slice g2 r.length k2) r IY.out rfl 0 1 w4.heap.size rfl (heap_alloc_new _ _) (by have := HCP.out.nr; omega) (by have := C.out.y.le; have := C.out.y.top; simp; omega) ?_; intro v5 w5 hown hb hq; obtain ⟨q, hqq⟩ : ∃ q, q = r ++ [0] := ⟨_, rfl⟩; rw [← hqq] at hown; have HQQ := hide hqq; clear hqq; obtain ⟨g5, k5, rfl⟩ := hown.form; have X5 := hide ((X.out.up (below1 _ _)).keep2 hb (by have := HLO.out; have := C.out.low; omega) hq C.out.y.block (by have := HLO.out; have := C.out.low; omega) (by have := HT.out; have := C.out.high; omega)); have R5 := hide ((R.out.alloc _).keep2 hb (by have := HLO.out; have := C.out.low; omega) hq C.out.y.block (by have := HLO.out; have := C.out.low; omega)); have O5 := hide hown; have HB := hide hb; have HQ := hide hq; clear hb hq hown c10 c11 c12 c00 f00 c01 f01 c02 f02 hne; have c11 := X5.out.cell 1 1 rfl rfl; have f11 := X5.out.free 1 1 rfl; have c10 := X5.out.cell 1 0 rfl rfl; have c12 := X5.out.cell 1 2 rfl rfl; have c00 := X5.out.cell 0 0 rfl rfl; have c01 := X5.out.cell 0 1 rfl rfl; have c02 := X5.out.cell 0 2 rfl rfl; have f00 := X5.out.free 0 0 rfl; have f01 := X5.out.free 0 1 rfl; have f02 := X5.out.free 0 2 rfl; have hne := X5.out.ne' 0 1 rfl rfl (by omega)) | fail)
    have q1 := C.out.low
    have q2 := C.out.high
    have q3 := C.out.top
    have q4 := HT.out
    have q5 := HLO.out
    have q6 := C.out.y.le
    have hbs := HB.out.size
    have hal : (w4.alloc (.cells #[.int .i64 0] 3)).heap.size = w4.heap.size + 1 := by simp
    have OY := Ow.of (w' := w5.setCell ⟨m, 1, none⟩ (.slice g5 q.length k5)) (O5.out.poke (m := m) (j := 1) (u := .slice g5 q.length k5) (O5.out.apart (X5.out.mem 1 rfl) (by decide))) (by simp; omega)
    have hin : ∀ x ∈ q, x ∈ r ∨ x = 0 := fun x hx => by rw [HQQ.out] at hx; simpa using hx
    have hql : q.length = r.length + 1 := by rw [HQQ.out]; simp
    have wr5 : ∀ x ∈ q, I64 x := fun x hx => by
      rcases hin x hx with h | rfl
      · exact HCP.out.vr x h
      · exact ⟨by omega, by omega⟩
    have RC := hide (C.out.partY OY wr5 (fun b b1 b2 b3 => (poke_heap (by omega) (by omega)).trans ((HQ.out b (by omega) (fun e => b3 (C.out.y.block b e.symm))).trans ((below1 w4 _).block b (by omega)))) (by simp; omega) HCP.out.a.i64 (by have := HCP.out.np; omega) HCP.out.vp)
    have A5 : CPA l q ps := ⟨HCP.out.nl, by have := HCP.out.nr; omega, HCP.out.a.np, HCP.out.vl, wr5, HCP.out.a.vp⟩
    have X6 := hide (X5.out.set 1 1 rfl (.slice g5 q.length k5))
    have R6 := hide (R5.out.poke (m := m) (j := 1) (x := .slice g5 q.length k5) hmg.out)
    simp only [List.set_cons_zero, List.set_cons_succ] at X6
    have Z := ((X6.out.set 0 0 rfl (.slice g1 l.length k1)).set 0 1 rfl (.slice g5 q.length k5)).set 0 2 rfl (.slice g3 ps.length k3)
    have z0 := Z.cell 0 0 rfl rfl
    have z1 := Z.cell 0 1 rfl rfl
    have z2 := Z.cell 0 2 rfl rfl
    have R9 := R6.out.put3 (x := .slice g1 l.length k1) (y := .slice g5 q.length k5) (z := .slice g3 ps.length k3) (show g < w.heap.size from hlt)
    have Q9 := (RC.out).seg (seg3 _ w.heap.size (.slice g1 l.length k1) (.slice g5 q.length k5) (.slice g3 ps.length k3)) HLO.out
    exact bodyPost_ret (v := .agg #[.slice g1 l.length k1, .slice g5 q.length k5, .slice g3 ps.length k3]) (by simp [results, Try.results42, go_sem, z0, z1, z2]) rfl
      ⟨_, _, _, _, _, _, l, q, ps, lo, rfl, Q9, by have := HLO.out; omega, A5, R9, Z.only⟩
  · have t0 : (s == 0) = false := by simp [e0]
    have t1 : (s == 1) = false := by simp [e1]
    have t2 : (s == 2) = false := by simp [e2]
    clear e0 e1 e2
    have c10 : w4.cell? ⟨m, 0, none⟩ = some (.slice g1 l.length k1) := X.out.cell 1 0 rfl rfl
    have c11 : w4.cell? ⟨m, 1, none⟩ = some (.slice g2 r.length k2) := X.out.cell 1 1 rfl rfl
    have c12 : w4.cell? ⟨m, 2, none⟩ = some (.slice g3 ps.length k3) := X.out.cell 1 2 rfl rfl
    have c00 := X.out.cell 0 0 rfl rfl
    have f00 := X.out.free 0 0 rfl
    have c01 := X.out.cell 0 1 rfl rfl
    have f01 := X.out.free 0 1 rfl
    have c02 := X.out.cell 0 2 rfl rfl
    have f02 := X.out.free 0 2 rfl
    have hne := X.out.ne' 0 1 rfl rfl (by omega)
    go_wp2_with fail
    have Z := ((X.out.set 0 0 rfl (.slice g1 l.length k1)).set 0 1 rfl (.slice g2 r.length k2)).set 0 2 rfl (.slice g3 ps.length k3)
    have z0 := Z.cell 0 0 rfl rfl
    have z1 := Z.cell 0 1 rfl rfl
    have z2 := Z.cell 0 2 rfl rfl
    have R9 := R.out.put3 (x := .slice g1 l.length k1) (y := .slice g2 r.length k2) (z := .slice g3 ps.length k3) (show g < w.heap.size from hlt)
    have Q9 := ((C.out.reads HCP.out.a.i64 HCP.out.vr (by have := HCP.out.np; omega) HCP.out.vp)).seg (seg3 _ w.heap.size (.slice g1 l.length k1) (.slice g2 r.length k2) (.slice g3 ps.length k3)) HLO.out
    exact bodyPost_ret (v := .agg #[.slice g1 l.length k1, .slice g2 r.length k2, .slice g3 ps.length k3]) (by simp [results, Try.results42, go_sem, z0, z1, z2]) rfl
      ⟨_, _, _, _, _, _, l, r, ps, lo, rfl, Q9, by have := HLO.out; omega, HA.out, R9, Z.only⟩

end Go.Proofs.Ytfldnjkojdnjcaa
