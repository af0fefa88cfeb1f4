/- What ChoosePivot returns, of the reference and of the program (promise 4). Written by gen_cho.py. -/
import Derived.Test.YtkhhlifnbelckaaPlD
import Derived.Test.YtkhhlifnbelckaaPlN
import Derived.Test.YtkhhlifnbelckaaCkQ
import Derived.Test.YtkhhlifnbelckaaCkT
namespace Go.Proofs.Ytkhhlifnbelckaa
open Go.RowKit Go.ChangeShapes
set_option linter.unusedSimpArgs false
set_option linter.unusedVariables false
set_option maxRecDepth 100000

/-- Two numbers are returned; nothing that was there has turned. -/
def RetNN (w : World) (x y : Int) (e : Ending) (w' : World) : Prop := e = .returned (.tuple #[.int .i64 x, .int .i64 y]) ∧ Below w.heap.size w w'

/-- A number and settings are returned; nothing that was there has turned. -/
def RetMSt (w : World) (m a b c : Int) (e : Ending) (w' : World) : Prop := e = .returned (.tuple #[.int .i64 m, .agg #[.int .i64 a, .int .i64 b, .int .i64 c]]) ∧ Below w.heap.size w w'

theorem Kn.putc {w W : World} {L : List (Nat × Array Value × TypeId)} (h : Kn w W L) (i : Nat) {g : Nat} {x y z : Value} {t : TypeId} (ho : L[i]? = some (g, #[x, y, z], t)) (c : Value) : Kn w (W.setCell ⟨g, 2, none⟩ c) (L.set i (g, #[x, y, c], t)) := h.set i 2 ho c

theorem Ck.leftAt {w : World} {B : Nat} {y z : Value} {a : Option Addr} {n c : Nat} {l r : List Int} {ps : List Pv} (h : Ck w B (.agg #[.slice a n c, y, z]) l r ps) (j : Nat) (hj : j < l.length) : ∃ g o, a = some ⟨g, o, none⟩ ∧ g < B := by
  obtain ⟨x, y', z', e, i1, -⟩ := h
  simp only [Value.agg.injEq, Array.mk.injEq, List.cons.injEq] at e
  obtain ⟨rfl, -⟩ := e
  obtain ⟨a', c', e, -, -, hc⟩ := i1
  injection e with e1
  subst e1
  obtain ⟨g, o, e, hg, -⟩ := hc j hj
  exact ⟨g, o, e, hg⟩

theorem Ints.cellAt {w : World} {B g o n c : Nat} {l : List Int} (h : Ints w B (.slice (some ⟨g, o, none⟩) n c) l) (j : Nat) (hj : j < l.length) : w.cell? ⟨g, o + j, none⟩ = some (.int .i64 (l.getD j 0)) := by
  obtain ⟨a', c', e, -, -, hc⟩ := h
  injection e with e1
  subst e1
  obtain ⟨g', o', e, hg, hx⟩ := hc j hj
  obtain ⟨rfl, rfl⟩ : g = g' ∧ o = o' := by simpa using e
  first | exact hx | (rw [hx]; simp [List.getD_eq_getElem?_getD, List.getElem?_eq_getElem hj])

theorem cut_getD (l : List Int) (a b : Int) (k : Nat) (ha : 0 ≤ a) (h : (k : Int) < b - a) : (cutL l a b).getD k 0 = l.getD (a + k).toNat 0 := by
  unfold cutL
  rw [List.getD_eq_getElem?_getD, List.getD_eq_getElem?_getD, List.getElem?_take, if_pos (by omega), List.getElem?_drop]
  congr 2
  omega

theorem chMed_any (a : Option Addr) (c : Nat) (l : List Int) (s : Int) (w : World) (B : Nat) (h : Ints w B (.slice a l.length c) l) (hn : a = none → c = 0) (hB : B ≤ w.heap.size) (hl : l.length ≤ 1048576) :
    Calls Try.prog 108 #[.slice a l.length c, .int .i64 s] w (RetNN w (medL l) s) := by
  have HM := hide (iMed_any a c l w B h hn hB hl)
  clear h hn
  obtain ⟨L, hL⟩ : ∃ L, L = l.length := ⟨_, rfl⟩
  obtain ⟨m, hm⟩ : ∃ m, m = medL l := ⟨_, rfl⟩
  rw [← hL, ← hm] at HM ⊢
  clear hL hm
  go_enter Try.func108, Try.ntmps108
  go_wp2_with fail
  go_at_call 37
  refine HM.out.mono ?_
  rintro e w1 ⟨rfl, hb⟩
  go_wp2_with fail
  exact bodyPost_ret (v := .tuple #[.int .i64 m, .int .i64 s]) (by simp [results, Try.results108, go_sem]) rfl ⟨rfl, hb⟩

theorem rnd_ix {n : Int} {L : Nat} (hn : 0 ≤ n ∧ n ≤ 10006) (h : 0 < L) : n.tmod (L : Int) = ((n % (L : Int)).toNat : Int) ∧ (n % (L : Int)).toNat < L := by
  have h1 := Int.emod_nonneg n (show (L : Int) ≠ 0 by omega)
  have h2 := Int.emod_lt_of_pos n (show (0 : Int) < L by omega)
  rw [Int.tmod_eq_emod_of_nonneg hn.1]
  omega

theorem chRnd_any (g o : Nat) (c : Nat) (l : List Int) (s : Int) (w : World) (B : Nat) (h : Ints w B (.slice (some ⟨g, o, none⟩) l.length c) l) (h0 : 0 < l.length) (hl : l.length ≤ 1048576) :
    Calls Try.prog 109 #[.slice (some ⟨g, o, none⟩) l.length c, .int .i64 s] w (RetNN w (l.getD (nsF s % (l.length : Int)).toNat 0) (nsF s)) := by
  have HN := hide (iNext_any s w)
  have hr := nsF_range s
  obtain ⟨n, hn⟩ : ∃ n, n = nsF s := ⟨_, rfl⟩
  rw [← hn] at HN hr ⊢
  clear hn
  obtain ⟨e1, e2⟩ := rnd_ix (n := n) hr h0
  have hc := h.cellAt _ e2
  obtain ⟨L, hL⟩ : ∃ L, L = l.length := ⟨_, rfl⟩
  obtain ⟨k, hk⟩ : ∃ k, k = (n % (l.length : Int)).toNat := ⟨_, rfl⟩
  rw [← hk] at e1 e2 hc
  rw [← hk]
  obtain ⟨x, hx⟩ : ∃ x, x = l.getD k 0 := ⟨_, rfl⟩
  rw [← hx] at hc
  rw [← hx]
  rw [← hL] at e1 e2 h0 ⊢
  have hLb : L ≤ 1048576 := by rw [hL]; exact hl
  clear hL hk hx h hl
  have hwk : wrap64 (k : Int) = (k : Int) := IntWalk.wrap64_in _ (by omega)
  have hz : ((L : Int) == 0) = false := by simp; omega
  have hz2 : ¬ (L : Int) = 0 := by omega
  go_enter Try.func109, Try.ntmps109
  go_wp2_with fail
  go_at_call 34
  refine HN.out.mono ?_
  rintro e w1 ⟨rfl, rfl⟩
  go_wp2_with fail
  exact bodyPost_ret (v := .tuple #[.int .i64 x, .int .i64 n]) (by simp [results, Try.results109, go_sem]) rfl ⟨rfl, Below.refl _ _⟩

set_option maxHeartbeats 8000000 in
theorem sCho_any (u : Value) (l r : List Int) (ps : List Pv) (p t s a b : Int) (w : World) (B : Nat) (hv : Ck w B u l r ps) (hB : B ≤ w.heap.size) :
    Calls Try.prog 40 #[u, .agg #[.int .i64 p, .int .i64 t, .int .i64 s], .int .i64 a, .int .i64 b] w (RetMSt w (chM l r ps p t s a b) p t (chS l r ps p t s a b)) := by
  obtain ⟨a1, c1, a2, c2, a3, c3, rfl, i1, i2, i3⟩ := hv.form
  have hcap := hv.caps
  have V := hide hv
  have I1 := hide i1
  have HCP := hide hcap
  clear hv i1 i2 i3 hcap
  obtain ⟨q, hq⟩ : ∃ q, q = isCk l r ps := ⟨_, rfl⟩
  have HQ := hide hq
  have CK := hide (fun (W : World) (h : Below w.heap.size w W) => show Calls Try.prog 25 #[.agg #[.slice a1 l.length c1, .slice a2 r.length c2, .slice a3 ps.length c3]] W (RetB1 W q) by rw [hq]; exact sIsCk_any _ l r ps W B (V.out.below h hB) (Nat.le_trans hB h.size))
  obtain ⟨z, hz⟩ : ∃ z, z = isSet p t s := ⟨_, rfl⟩
  have HZ := hide hz
  have CS := hide (fun (W : World) => show Calls Try.prog 30 #[.agg #[.int .i64 p, .int .i64 t, .int .i64 s]] W (RetB1 W z) by rw [hz]; exact sIsSet_any p t s W)
  obtain ⟨m, hm⟩ : ∃ m, m = chM l r ps p t s a b := ⟨_, rfl⟩
  obtain ⟨ns, hns⟩ : ∃ m, m = chS l r ps p t s a b := ⟨_, rfl⟩
  have NO := hide (fun (h : ¬(q = true ∧ z = true ∧ 0 ≤ a ∧ a < b ∧ b ≤ l.length)) => show m = 0 ∧ ns = s by
    have hh : ¬ chOk l r ps p t s a b = true := by
      unfold chOk
      simp only [Bool.and_eq_true, decide_eq_true_eq, ← hq, ← hz]
      intro h2
      exact h ⟨h2.1.1, h2.1.2, h2.2⟩
    rw [hm, hns]
    unfold chM chS
    rw [if_neg hh, if_neg hh]
    exact ⟨rfl, rfl⟩)
  have YES := hide (fun (h1 : q = true) (h2 : z = true) (h3 : 0 ≤ a ∧ a < b ∧ b ≤ l.length) => show m = (if p = 2 then l.getD (a + nsF s % (b - a)).toNat 0 else medL (cutL l a b)) ∧ ns = (if p = 2 then nsF s else s) by
    have hh : chOk l r ps p t s a b = true := by
      unfold chOk
      rw [← hq, ← hz, h1, h2, decide_eq_true h3]
      rfl
    rw [hm, hns]
    unfold chM chS
    rw [if_pos hh, if_pos hh]
    exact ⟨rfl, rfl⟩)
  have HL := hide (fun (h : q = true) => areVals_len (isCk_parts (hq.symm.trans h)).1)
  rw [← hm, ← hns]
  clear hq hz hm hns
  have X := hide (Kn.three w #[.slice a1 l.length c1, .slice a2 r.length c2, .slice a3 ps.length c3] #[.int .i64 p, .int .i64 t, .int .i64 s] #[.int .i64 0, .int .i64 0, .int .i64 0] 27 56 56)
  obtain ⟨w1, hw1⟩ : ∃ w1, w1 = ((w.alloc (.cells #[.slice a1 l.length c1, .slice a2 r.length c2, .slice a3 ps.length c3] 27)).alloc (.cells #[.int .i64 p, .int .i64 t, .int .i64 s] 56)).alloc (.cells #[.int .i64 0, .int .i64 0, .int .i64 0] 56) := ⟨_, rfl⟩
  rw [← hw1] at X
  have d0 : w1.cell? ⟨w.heap.size, 0, none⟩ = some (.slice a1 l.length c1) := X.out.cell 0 0 rfl rfl
  have d1 : w1.cell? ⟨w.heap.size, 1, none⟩ = some (.slice a2 r.length c2) := X.out.cell 0 1 rfl rfl
  have d2 : w1.cell? ⟨w.heap.size, 2, none⟩ = some (.slice a3 ps.length c3) := X.out.cell 0 2 rfl rfl
  rw [hw1] at d0 d1 d2
  go_enter Try.func40, Try.ntmps40
  go_wp2_with fail
  rw [← hw1]
  clear hw1 d0 d1 d2
  go_at_call 25
  refine (CK.out _ X.out.below).mono ?_
  rintro e w2 ⟨rfl, hb⟩
  have X := hide (X.out.up hb)
  clear hb
  have e0 : w2.cell? ⟨w.heap.size + 1, 0, none⟩ = some (.int .i64 p) := X.out.cell 1 0 rfl rfl
  have e1 : w2.cell? ⟨w.heap.size + 1, 1, none⟩ = some (.int .i64 t) := X.out.cell 1 1 rfl rfl
  have e2 : w2.cell? ⟨w.heap.size + 1, 2, none⟩ = some (.int .i64 s) := X.out.cell 1 2 rfl rfl
  cases q with
  | false =>
    obtain ⟨rfl, rfl⟩ := NO.out (by simp)
    have f20 := X.out.free 2 0 rfl
    have f21 := X.out.free 2 1 rfl
    have f22 := X.out.free 2 2 rfl
    have r0 : w2.cell? ⟨w.heap.size + 1 + 1, 0, none⟩ = some (.int .i64 0) := X.out.cell 2 0 rfl rfl
    have r1 : w2.cell? ⟨w.heap.size + 1 + 1, 1, none⟩ = some (.int .i64 0) := X.out.cell 2 1 rfl rfl
    have r2 : w2.cell? ⟨w.heap.size + 1 + 1, 2, none⟩ = some (.int .i64 0) := X.out.cell 2 2 rfl rfl
    have hne := X.out.apart 1 2 rfl rfl (by omega)
    have hne2 := fun e => hne (Eq.symm e)
    go_upto_region 2 with fail
    go_region
    have Z := (((X.out.set 2 0 rfl (.int .i64 p)).set 2 1 rfl (.int .i64 t)).set 2 2 rfl (.int .i64 ns)).drew
    have z0 := Z.cell 2 0 rfl rfl
    have z1 := Z.cell 2 1 rfl rfl
    have z2 := Z.cell 2 2 rfl rfl
    go_wp2_with fail
    exact bodyPost_ret (v := .tuple #[.int .i64 0, .agg #[.int .i64 p, .int .i64 t, .int .i64 ns]]) (by simp [results, Try.results40, go_sem, z0, z1, z2]) rfl ⟨rfl, Z.below⟩
  | true =>
    go_wp2_with fail
    go_at_call 30
    refine (CS.out _).mono ?_
    rintro e w3 ⟨rfl, hb⟩
    have X := hide (X.out.up hb)
    clear hb e0 e1 e2
    have e0 : w3.cell? ⟨w.heap.size + 1, 0, none⟩ = some (.int .i64 p) := X.out.cell 1 0 rfl rfl
    have e1 : w3.cell? ⟨w.heap.size + 1, 1, none⟩ = some (.int .i64 t) := X.out.cell 1 1 rfl rfl
    have e2 : w3.cell? ⟨w.heap.size + 1, 2, none⟩ = some (.int .i64 s) := X.out.cell 1 2 rfl rfl
    have d0 : w3.cell? ⟨w.heap.size, 0, none⟩ = some (.slice a1 l.length c1) := X.out.cell 0 0 rfl rfl
    have d1 : w3.cell? ⟨w.heap.size, 1, none⟩ = some (.slice a2 r.length c2) := X.out.cell 0 1 rfl rfl
    have d2 : w3.cell? ⟨w.heap.size, 2, none⟩ = some (.slice a3 ps.length c3) := X.out.cell 0 2 rfl rfl
    cases z with
    | false =>
      obtain ⟨rfl, rfl⟩ := NO.out (by simp)
      have f20 := X.out.free 2 0 rfl
      have f21 := X.out.free 2 1 rfl
      have f22 := X.out.free 2 2 rfl
      have r0 : w3.cell? ⟨w.heap.size + 1 + 1, 0, none⟩ = some (.int .i64 0) := X.out.cell 2 0 rfl rfl
      have r1 : w3.cell? ⟨w.heap.size + 1 + 1, 1, none⟩ = some (.int .i64 0) := X.out.cell 2 1 rfl rfl
      have r2 : w3.cell? ⟨w.heap.size + 1 + 1, 2, none⟩ = some (.int .i64 0) := X.out.cell 2 2 rfl rfl
      have hne := X.out.apart 1 2 rfl rfl (by omega)
      have hne2 := fun e => hne (Eq.symm e)
      go_upto_region 2 with fail
      go_region
      have Z := (((X.out.set 2 0 rfl (.int .i64 p)).set 2 1 rfl (.int .i64 t)).set 2 2 rfl (.int .i64 ns)).drew
      have z0 := Z.cell 2 0 rfl rfl
      have z1 := Z.cell 2 1 rfl rfl
      have z2 := Z.cell 2 2 rfl rfl
      go_wp2_with fail
      exact bodyPost_ret (v := .tuple #[.int .i64 0, .agg #[.int .i64 p, .int .i64 t, .int .i64 ns]]) (by simp [results, Try.results40, go_sem, z0, z1, z2]) rfl ⟨rfl, Z.below⟩
    | true =>
      by_cases h1 : a < 0
      · have t1 : decide (a < 0) = true := decide_eq_true h1
        obtain ⟨rfl, rfl⟩ := NO.out (by intro h; omega)
        have f20 := X.out.free 2 0 rfl
        have f21 := X.out.free 2 1 rfl
        have f22 := X.out.free 2 2 rfl
        have r0 : w3.cell? ⟨w.heap.size + 1 + 1, 0, none⟩ = some (.int .i64 0) := X.out.cell 2 0 rfl rfl
        have r1 : w3.cell? ⟨w.heap.size + 1 + 1, 1, none⟩ = some (.int .i64 0) := X.out.cell 2 1 rfl rfl
        have r2 : w3.cell? ⟨w.heap.size + 1 + 1, 2, none⟩ = some (.int .i64 0) := X.out.cell 2 2 rfl rfl
        have hne := X.out.apart 1 2 rfl rfl (by omega)
        have hne2 := fun e => hne (Eq.symm e)
        go_upto_region 2 with fail
        go_region
        have Z := (((X.out.set 2 0 rfl (.int .i64 p)).set 2 1 rfl (.int .i64 t)).set 2 2 rfl (.int .i64 ns)).drew
        have z0 := Z.cell 2 0 rfl rfl
        have z1 := Z.cell 2 1 rfl rfl
        have z2 := Z.cell 2 2 rfl rfl
        go_wp2_with fail
        exact bodyPost_ret (v := .tuple #[.int .i64 0, .agg #[.int .i64 p, .int .i64 t, .int .i64 ns]]) (by simp [results, Try.results40, go_sem, z0, z1, z2]) rfl ⟨rfl, Z.below⟩
      have t1 : decide (a < 0) = false := decide_eq_false h1
      by_cases h2 : b ≤ a
      · have t2 : decide (b ≤ a) = true := decide_eq_true h2
        obtain ⟨rfl, rfl⟩ := NO.out (by intro h; omega)
        have f20 := X.out.free 2 0 rfl
        have f21 := X.out.free 2 1 rfl
        have f22 := X.out.free 2 2 rfl
        have r0 : w3.cell? ⟨w.heap.size + 1 + 1, 0, none⟩ = some (.int .i64 0) := X.out.cell 2 0 rfl rfl
        have r1 : w3.cell? ⟨w.heap.size + 1 + 1, 1, none⟩ = some (.int .i64 0) := X.out.cell 2 1 rfl rfl
        have r2 : w3.cell? ⟨w.heap.size + 1 + 1, 2, none⟩ = some (.int .i64 0) := X.out.cell 2 2 rfl rfl
        have hne := X.out.apart 1 2 rfl rfl (by omega)
        have hne2 := fun e => hne (Eq.symm e)
        go_upto_region 2 with fail
        go_region
        have Z := (((X.out.set 2 0 rfl (.int .i64 p)).set 2 1 rfl (.int .i64 t)).set 2 2 rfl (.int .i64 ns)).drew
        have z0 := Z.cell 2 0 rfl rfl
        have z1 := Z.cell 2 1 rfl rfl
        have z2 := Z.cell 2 2 rfl rfl
        go_wp2_with fail
        exact bodyPost_ret (v := .tuple #[.int .i64 0, .agg #[.int .i64 p, .int .i64 t, .int .i64 ns]]) (by simp [results, Try.results40, go_sem, z0, z1, z2]) rfl ⟨rfl, Z.below⟩
      have t2 : decide (b ≤ a) = false := decide_eq_false h2
      by_cases h3 : (l.length : Int) < b
      · have t3 : decide ((l.length : Int) < b) = true := decide_eq_true h3
        obtain ⟨rfl, rfl⟩ := NO.out (by intro h; omega)
        have f20 := X.out.free 2 0 rfl
        have f21 := X.out.free 2 1 rfl
        have f22 := X.out.free 2 2 rfl
        have r0 : w3.cell? ⟨w.heap.size + 1 + 1, 0, none⟩ = some (.int .i64 0) := X.out.cell 2 0 rfl rfl
        have r1 : w3.cell? ⟨w.heap.size + 1 + 1, 1, none⟩ = some (.int .i64 0) := X.out.cell 2 1 rfl rfl
        have r2 : w3.cell? ⟨w.heap.size + 1 + 1, 2, none⟩ = some (.int .i64 0) := X.out.cell 2 2 rfl rfl
        have hne := X.out.apart 1 2 rfl rfl (by omega)
        have hne2 := fun e => hne (Eq.symm e)
        go_upto_region 2 with fail
        go_region
        have Z := (((X.out.set 2 0 rfl (.int .i64 p)).set 2 1 rfl (.int .i64 t)).set 2 2 rfl (.int .i64 ns)).drew
        have z0 := Z.cell 2 0 rfl rfl
        have z1 := Z.cell 2 1 rfl rfl
        have z2 := Z.cell 2 2 rfl rfl
        go_wp2_with fail
        exact bodyPost_ret (v := .tuple #[.int .i64 0, .agg #[.int .i64 p, .int .i64 t, .int .i64 ns]]) (by simp [results, Try.results40, go_sem, z0, z1, z2]) rfl ⟨rfl, Z.below⟩
      have t3 : decide ((l.length : Int) < b) = false := decide_eq_false h3
      obtain ⟨hm, hns⟩ := YES.out (by simp) (by simp) ⟨by omega, by omega, by omega⟩
      have hl64 := HL.out (by simp)
      obtain ⟨g, o, rfl, hg⟩ := V.out.leftAt 0 (by omega)
      obtain ⟨i, rfl⟩ : ∃ i : Nat, a = (i : Int) := ⟨a.toNat, by omega⟩
      obtain ⟨j, rfl⟩ : ∃ j : Nat, b = (j : Int) := ⟨b.toNat, by omega⟩
      have hij : i < j := by omega
      have hjl : j ≤ l.length := by omega
      have hkc : l.length ≤ c1 := HCP.out.1
      clear NO YES HL h1 h2 h3
      have hd : ((j : Int) - (i : Int)) = ((j - i : Nat) : Int) := by omega
      have hcut : cutL l (i : Int) (j : Int) = (l.drop i).take (j - i) := by simp [cutL]
      have hcl : ((l.drop i).take (j - i)).length = j - i := by simp; omega
      have PI := hide (fun (W : World) (h : Below w.heap.size w W) (c' : Nat) => show Ints W B (.slice (some ⟨g, o + i, none⟩) (j - i) c') ((l.drop i).take (j - i)) by
        have := (I1.out.below h hB).part i j (by omega) hjl (some ⟨g, o + i, none⟩) c' (fun _ => by simp [addr_add])
        rwa [hcl] at this)
      by_cases hp : p = 2
      · rw [if_pos hp] at hm hns
        subst hp
        have hnr := nsF_range s
        obtain ⟨n, hn⟩ : ∃ n, n = nsF s := ⟨_, rfl⟩
        rw [← hn] at hm hns hnr
        have HN := hide hn
        subst hns
        clear hn
        obtain ⟨k1, k2⟩ := rnd_ix (n := ns) (L := j - i) hnr (by omega)
        obtain ⟨k, hk⟩ : ∃ k, k = (ns % ((j - i : Nat) : Int)).toNat := ⟨_, rfl⟩
        have hk0 := Int.emod_nonneg ns (show ((j - i : Nat) : Int) ≠ 0 by omega)
        rw [← hk] at k1 k2
        obtain ⟨x, hx⟩ : ∃ x, x = i + k := ⟨_, rfl⟩
        have hm' := hide (show m = l.getD x 0 by rw [hm, hd]; congr 1; omega)
        have hkz : ns % ((j - i : Nat) : Int) = (k : Int) := by rw [hk]; exact (Int.toNat_of_nonneg hk0).symm
        have w5' : wrap64 ((i : Int) + ns % ((j : Int) - (i : Int))) = (x : Int) := by rw [hd, hkz, hx, IntWalk.wrap64_in _ (by omega)]; rfl
        obtain ⟨d, hd'⟩ : ∃ d, d = j - i := ⟨_, rfl⟩
        rw [← hd'] at k1
        have w1' : wrap64 ((j : Int) - (i : Int)) = (d : Int) := by rw [IntWalk.wrap64_in _ (by omega)]; omega
        have w2' : wrap64 ((i : Int) + (k : Int)) = (x : Int) := by rw [IntWalk.wrap64_in _ (by omega)]; omega
        have w3' : ((d : Int) == 0) = false := by simp; omega
        have w4' : ¬ (d : Int) = 0 := by omega
        have hxl : x < l.length := by rw [hx]; exact Nat.lt_of_lt_of_le (Nat.add_lt_of_lt_sub' k2) hjl
        clear hm hk hx hk0 k2 hd hd' hcut hcl PI hkz
        have X := hide (X.out.alloc #[.int .i64 2, .int .i64 t, .int .i64 s] 56)
        obtain ⟨w4, hw4⟩ : ∃ q, q = w3.alloc (.cells #[.int .i64 2, .int .i64 t, .int .i64 s] 56) := ⟨_, rfl⟩
        obtain ⟨b4, hb4⟩ : ∃ q, q = w3.heap.size := ⟨_, rfl⟩
        rw [← hw4, ← hb4] at X
        simp only [List.cons_append, List.nil_append] at X
        have e3 : w4.cell? ⟨w.heap.size + 1, 0, none⟩ = some (.int .i64 2) := X.out.cell 1 0 rfl rfl
        have e4 : w4.cell? ⟨w.heap.size + 1, 2, none⟩ = some (.int .i64 s) := X.out.cell 1 2 rfl rfl
        rw [hw4] at e3 e4
        go_wp2_with fail
        rw [← hw4]
        try rw [← hb4]
        clear hw4 hb4 e0 e1 e2 e3 e4 d0 d1 d2
        go_at_call 33
        refine (sNext_any s _).mono ?_
        rintro e w5 ⟨rfl, rfl⟩
        rw [← HN.out]
        have f3 := X.out.free 3 2 rfl
        have c3q := X.out.cell 3 2 rfl rfl
        go_upto_region 6 with fail
        have X := hide (X.out.putc 3 rfl (.int .i64 ns))
        obtain ⟨w5, hw5⟩ : ∃ q, q = w4.setCell ⟨b4, 2, none⟩ (.int .i64 ns) := ⟨_, rfl⟩
        rw [← hw5] at X
        rw [← hw5]
        simp only [List.set_cons_zero, List.set_cons_succ] at X
        clear hw5 f3 c3q
        have d0 : w5.cell? ⟨w.heap.size, 0, none⟩ = some (.slice (some ⟨g, o, none⟩) l.length c1) := X.out.cell 0 0 rfl rfl
        have d1 : w5.cell? ⟨w.heap.size, 1, none⟩ = some (.slice a2 r.length c2) := X.out.cell 0 1 rfl rfl
        have d2 : w5.cell? ⟨w.heap.size, 2, none⟩ = some (.slice a3 ps.length c3) := X.out.cell 0 2 rfl rfl
        have s0 : w5.cell? ⟨b4, 0, none⟩ = some (.int .i64 2) := X.out.cell 3 0 rfl rfl
        have s1 : w5.cell? ⟨b4, 1, none⟩ = some (.int .i64 t) := X.out.cell 3 1 rfl rfl
        have s2 : w5.cell? ⟨b4, 2, none⟩ = some (.int .i64 ns) := X.out.cell 3 2 rfl rfl
        have r0 : w5.cell? ⟨w.heap.size + 1 + 1, 0, none⟩ = some (.int .i64 0) := X.out.cell 2 0 rfl rfl
        have r1 : w5.cell? ⟨w.heap.size + 1 + 1, 1, none⟩ = some (.int .i64 0) := X.out.cell 2 1 rfl rfl
        have r2 : w5.cell? ⟨w.heap.size + 1 + 1, 2, none⟩ = some (.int .i64 0) := X.out.cell 2 2 rfl rfl
        have f20 := X.out.free 2 0 rfl
        have f21 := X.out.free 2 1 rfl
        have f22 := X.out.free 2 2 rfl
        have hne := X.out.apart 2 3 rfl rfl (by omega)
        have hne2 := fun e => hne (Eq.symm e)
        have hne3 := X.out.apart 0 2 rfl rfl (by omega)
        have hne4 := fun e => hne3 (Eq.symm e)
        have ec := (I1.out.below X.out.below hB).cellAt x hxl
        rw [← hm'.out] at ec
        have hgr : g ≠ w.heap.size + 1 + 1 := by omega
        have hgr2 : w.heap.size + 1 + 1 ≠ g := by omega
        go_region
        have Z := (((X.out.set 2 0 rfl (.int .i64 2)).set 2 1 rfl (.int .i64 t)).set 2 2 rfl (.int .i64 ns)).drew
        have z0 := Z.cell 2 0 rfl rfl
        have z1 := Z.cell 2 1 rfl rfl
        have z2 := Z.cell 2 2 rfl rfl
        go_wp2_with fail
        exact bodyPost_ret (v := .tuple #[.int .i64 m, .agg #[.int .i64 2, .int .i64 t, .int .i64 ns]]) (by simp [results, Try.results40, go_sem, z0, z1, z2]) rfl ⟨rfl, Z.below⟩
      · rw [if_neg hp] at hm hns
        subst hns
        have tp : (p == 2) = false := by simp [hp]
        have hjc : j ≤ c1 := by omega
        have CM := hide (fun (W : World) (h : Below w.heap.size w W) (c' : Nat) => show Calls Try.prog 35 #[.slice (some ⟨g, o + i, none⟩) (j - i) c'] W (RetNB W m) by
          have := sMed_any (some ⟨g, o + i, none⟩) c' ((l.drop i).take (j - i)) W B (by rw [hcl]; exact PI.out W h c') (by simp) (Nat.le_trans hB h.size) (by rw [hcl]; omega)
          rw [hcl] at this
          rw [hm, hcut]
          exact this)
        clear hd hcut hcl PI hm
        have X := hide (X.out.alloc #[.int .i64 p, .int .i64 t, .int .i64 ns] 56)
        obtain ⟨w4, hw4⟩ : ∃ q, q = w3.alloc (.cells #[.int .i64 p, .int .i64 t, .int .i64 ns] 56) := ⟨_, rfl⟩
        obtain ⟨b4, hb4⟩ : ∃ q, q = w3.heap.size := ⟨_, rfl⟩
        rw [← hw4, ← hb4] at X
        simp only [List.cons_append, List.nil_append] at X
        have e3 : w4.cell? ⟨w.heap.size + 1, 0, none⟩ = some (.int .i64 p) := X.out.cell 1 0 rfl rfl
        rw [hw4] at e3
        go_upto_region 7 with fail
        rw [← hw4]
        try rw [← hb4]
        clear hw4 hb4 e0 e1 e2 e3 d0 d1 d2
        have hne := X.out.apart 2 3 rfl rfl (by omega)
        have hne2 := fun e => hne (Eq.symm e)
        have X := hide X.out.drew
        have d0 : w4.drew.cell? ⟨w.heap.size, 0, none⟩ = some (.slice (some ⟨g, o, none⟩) l.length c1) := X.out.cell 0 0 rfl rfl
        have s0 : w4.drew.cell? ⟨b4, 0, none⟩ = some (.int .i64 p) := X.out.cell 3 0 rfl rfl
        have s1 : w4.drew.cell? ⟨b4, 1, none⟩ = some (.int .i64 t) := X.out.cell 3 1 rfl rfl
        have s2 : w4.drew.cell? ⟨b4, 2, none⟩ = some (.int .i64 ns) := X.out.cell 3 2 rfl rfl
        have r0 : w4.drew.cell? ⟨w.heap.size + 1 + 1, 0, none⟩ = some (.int .i64 0) := X.out.cell 2 0 rfl rfl
        have r1 : w4.drew.cell? ⟨w.heap.size + 1 + 1, 1, none⟩ = some (.int .i64 0) := X.out.cell 2 1 rfl rfl
        have r2 : w4.drew.cell? ⟨w.heap.size + 1 + 1, 2, none⟩ = some (.int .i64 0) := X.out.cell 2 2 rfl rfl
        have f20 : w4.drew.frozen? ⟨w.heap.size + 1 + 1, 0, none⟩ = false := X.out.free 2 0 rfl
        have f21 : w4.drew.frozen? ⟨w.heap.size + 1 + 1, 1, none⟩ = false := X.out.free 2 1 rfl
        have f22 : w4.drew.frozen? ⟨w.heap.size + 1 + 1, 2, none⟩ = false := X.out.free 2 2 rfl
        go_region_with (first
          | (go_at_call 35; refine (CM.out _ X.out.below _).mono ?_; rintro e wq ⟨rfl, hb⟩; replace X := hide (X.out.up hb); clear hb d0 s0 s1 s2 r0 r1 r2 f20 f21 f22; have d0 : wq.cell? ⟨w.heap.size, 0, none⟩ = some (.slice (some ⟨g, o, none⟩) l.length c1) := X.out.cell 0 0 rfl rfl; have s0 : wq.cell? ⟨b4, 0, none⟩ = some (.int .i64 p) := X.out.cell 3 0 rfl rfl; have s1 : wq.cell? ⟨b4, 1, none⟩ = some (.int .i64 t) := X.out.cell 3 1 rfl rfl; have s2 : wq.cell? ⟨b4, 2, none⟩ = some (.int .i64 ns) := X.out.cell 3 2 rfl rfl; have r0 : wq.cell? ⟨w.heap.size + 1 + 1, 0, none⟩ = some (.int .i64 0) := X.out.cell 2 0 rfl rfl; have r1 : wq.cell? ⟨w.heap.size + 1 + 1, 1, none⟩ = some (.int .i64 0) := X.out.cell 2 1 rfl rfl; have r2 : wq.cell? ⟨w.heap.size + 1 + 1, 2, none⟩ = some (.int .i64 0) := X.out.cell 2 2 rfl rfl; have f20 : wq.frozen? ⟨w.heap.size + 1 + 1, 0, none⟩ = false := X.out.free 2 0 rfl; have f21 : wq.frozen? ⟨w.heap.size + 1 + 1, 1, none⟩ = false := X.out.free 2 1 rfl; have f22 : wq.frozen? ⟨w.heap.size + 1 + 1, 2, none⟩ = false := X.out.free 2 2 rfl))
        all_goals
          have Z := (((X.out.set 2 0 rfl (.int .i64 p)).set 2 1 rfl (.int .i64 t)).set 2 2 rfl (.int .i64 ns))
          have z0 := Z.cell 2 0 rfl rfl
          have z1 := Z.cell 2 1 rfl rfl
          have z2 := Z.cell 2 2 rfl rfl
          go_wp2_with fail
          exact bodyPost_ret (v := .tuple #[.int .i64 m, .agg #[.int .i64 p, .int .i64 t, .int .i64 ns]]) (by simp [results, Try.results40, go_sem, z0, z1, z2]) rfl ⟨rfl, Z.below⟩

end Go.Proofs.Ytkhhlifnbelckaa
