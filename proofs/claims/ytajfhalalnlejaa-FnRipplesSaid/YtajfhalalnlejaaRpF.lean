/- fill of the program: one element moves into the hole (promise 7). -/
import Derived.Test.YtajfhalalnlejaaRpB
import Derived.Test.YtajfhalalnlejaaCpy2
import Derived.Deep.RegionLaw
import Derived.Deep.RegionHeld3
namespace Go.Proofs.Ytajfhalalnlejaa
open Go.RowKit Go.ChangeShapes
set_option linter.unusedSimpArgs false
set_option linter.unusedVariables false
set_option maxRecDepth 100000

theorem splice_one (cur : List Value) (l : List Int) (h : Nat) (x : Int) (hh : h < l.length) (hc : l.length ≤ cur.length) (ht : cur.take l.length = intVs l) : (splice cur h [.int .i64 x]).take l.length = intVs (l.set h x) := by
  unfold splice
  apply List.ext_getElem?
  intro i
  have e1 : (intVs (l.set h x))[i]? = ((intVs l).set h (.int .i64 x))[i]? := by simp [intVs, List.map_set]
  rw [e1, ← ht]
  by_cases hi : i < l.length
  · rw [List.getElem?_take, if_pos hi]
    by_cases c1 : i = h
    · subst c1
      rw [List.getElem?_set_self (by simp; omega), List.getElem?_append_right (by simp; omega)]
      simp [Nat.min_eq_left (show i ≤ cur.length by omega)]
    · rw [List.getElem?_set_ne (Ne.symm c1), List.getElem?_take, if_pos hi]
      by_cases c2 : i < h
      · rw [List.getElem?_append_left (by simp; omega), List.getElem?_take, if_pos c2]
      · rw [List.getElem?_append_right (by simp; omega)]
        simp only [List.length_take, Nat.min_eq_left (show h ≤ cur.length by omega)]
        rw [List.getElem?_append_right (by simp; omega), List.getElem?_drop]
        congr 1
        simp
        omega
  · rw [List.getElem?_eq_none (by simp; omega), List.getElem?_eq_none (by simp; omega)]

/-- copy(s[h:], s[a:a+1]) in a row of the call's own. -/
theorem copy1 (w : World) (ty : TypeId) (g n c h a lo hi : Nat) (l : List Int) (O : Ow w (.slice (some ⟨g, 0, none⟩) n c) l lo hi) (hn : n = l.length) (hh : h < l.length) (ha : a < l.length) :
    ∃ w', (Builtin.copy_ #[22, 22] ty #[.slice (some ⟨g, h, none⟩) (n - h) (c - h), .slice (some ⟨g, a, none⟩) 1 (c - a)]).run Try.prog w = .ok (goInt 1) w' ∧
      Ow w' (.slice (some ⟨g, 0, none⟩) n c) (l.set h (l.getD a 0)) lo hi ∧ Trn (fun b => b = g) w w' := by
  subst hn
  obtain ⟨g', e1, -, -, -, hc⟩ := O.at (by omega)
  obtain rfl : g = g' := by injection e1 with e1; injection e1
  obtain ⟨⟨F, ⟨o, rfl⟩, hF⟩, hle, htop⟩ := O
  rcases o.2 with ⟨e, hn⟩ | ⟨g', cap', cur, e, hb, hg, hnc, hcm, hcs, htk⟩
  · cases e
  simp only [Value.slice.injEq, Option.some.injEq, Addr.mk.injEq, and_true, true_and] at e
  obtain ⟨rfl, rfl⟩ := e
  simp only [Nat.mul_one] at hcs htk
  have hcl : cur.toList.length = c := by simpa using hcs
  obtain ⟨i0, hi0, hi1, hi2, hi3⟩ := info_parts infoI
  have hsz : (Try.prog.info? 3).map (·.size) = some 1 := by rw [hi0]; simp [hi2]
  have hmin : Nat.min 1 (l.length - h) = 1 := by simp only [Nat.min_def]; split <;> omega
  obtain ⟨w', q1, q2, q3, q4⟩ := run_copyN (P := Try.prog) w 22 22 ty 3 1 g h (l.length - h) (c - h) ⟨g, a, none⟩ 1 (c - a) cur.toList 3 [.int .i64 (l.getD a 0)] Try.underlying22 hsz
    (by rw [Array.toArray_toList]; exact hg) (by rw [hmin]; rfl)
    (by intro j v hj
        match j, hj with
        | 0, hj =>
          simp only [List.getElem?_cons_zero, Option.some.injEq] at hj
          subst hj
          rw [Addr.add_lit]
          exact (hc a ha).1)
    (by simp only [List.length_singleton]; omega)
    (by intro u hu; simp at hu; subst hu; rfl)
  rw [hmin] at q1
  refine ⟨w', q1, ⟨⟨_, ⟨⟨by simp [intVs], .inr ⟨g, c, _, by rw [List.length_set], hb, q2, by rw [List.length_set]; exact hnc, hcm, ?_, ?_⟩⟩, rfl⟩, hF⟩, hle, Nat.le_trans htop q3.size⟩, ⟨[g], ⟨⟨q3.os, q3.tape, q3.output, q3.size, fun k hk => absurd hk (Nat.not_lt_zero k)⟩, fun b hb hn => q4 b (by simpa using hn)⟩, by simp⟩⟩
  · rw [List.size_toArray, length_splice _ _ _ (by simp only [List.length_singleton]; omega), hcl, Nat.mul_one]
  · rw [List.length_set, Nat.mul_one]
    exact splice_one _ l h _ hh (by omega) htk

theorem step_copy1 {ops : Array Oper} {o : Oper} {a : Act} {w : World} {K : Act → World → Prop} {Q : Exit → Act → World → Prop} {E : Prop} (hgd : o.guard = none) (d s : Operand)
    (ho : o.op = .call { callee := .builtin .copy, args := #[d, s], argTypes := #[22, 22] }) (g n c h i lo hi : Nat) (l : List Int) (O : Ow w (.slice (some ⟨g, 0, none⟩) n c) l lo hi) (hn : n = l.length) (hh : h < l.length) (hi' : i < l.length)
    (hd : a.eval d = .slice (some ⟨g, h, none⟩) (n - h) (c - h)) (hs : a.eval s = .slice (some ⟨g, i, none⟩) 1 (c - i))
    (hK : ∀ w', Ow w' (.slice (some ⟨g, 0, none⟩) n c) (l.set h (l.getD i 0)) lo hi → Trn (fun b => b = g) w w' → K (a.put o.dst (goInt 1)) w') :
    if Region.wanted o (yielded ops a.tmps) = true then Oper.wp Try.prog o a w K Q else E := by
  have hw : Region.wanted o (yielded ops a.tmps) = true := by simp [Region.wanted, hgd]
  rw [if_pos hw]
  obtain ⟨w', hrun, q1, q2⟩ := copy1 w o.type g n c h i lo hi l O hn hh hi'
  unfold Oper.wp
  simp [execOp, ho, resolve, invoke, builtin, hd, hs, hrun, Result.andThen]
  exact hK w' q1 q2

theorem O3.copyX {w w' : World} {x y z : Value} {S : RP} {l' : List Int} {g n1 h1 n2 h2 n3 h3 : Nat} (h : O3 w x y z S n1 h1 n2 h2 n3 h3) (ho : Ow w' x l' n1 h1) (s : Trn (fun b => b = g) w w') (q1 : n1 ≤ g) (q2 : g < h1) : O3 w' x y z ⟨l', S.r, S.ps, S.h, S.n⟩ n1 h1 n2 h2 n3 h3 := by
  have a := h.apart
  exact ⟨ho, h.y.trn s fun b p1 p2 e => by omega, h.z.trn s fun b p1 p2 e => by omega, a⟩
theorem O3.copyY {w w' : World} {x y z : Value} {S : RP} {r' : List Int} {g n1 h1 n2 h2 n3 h3 : Nat} (h : O3 w x y z S n1 h1 n2 h2 n3 h3) (ho : Ow w' y r' n2 h2) (s : Trn (fun b => b = g) w w') (q1 : n2 ≤ g) (q2 : g < h2) : O3 w' x y z ⟨S.l, r', S.ps, S.h, S.n⟩ n1 h1 n2 h2 n3 h3 := by
  have a := h.apart
  exact ⟨h.x.trn s fun b p1 p2 e => by omega, ho, h.z.trn s fun b p1 p2 e => by omega, a⟩

/-- Nothing is returned; the column of the call's own and its hole read as S now, its box too; only they have turned. -/
def RetFi (w : World) (m : Nat) (x y z : Value) (n1 h1 n2 h2 n3 h3 : Nat) (S : RP) (e : Ending) (w' : World) : Prop := (∃ u, e = .returned u) ∧ O3 w' x y z S n1 h1 n2 h2 n3 h3 ∧ w'.heap[m]? = some (.cells #[x, y, z, .int .i64 (S.h : Int), .int .i64 (S.n : Int)] 107 (0, 0)) ∧ Trn (fun b => P3 n1 h1 n2 h2 n3 h3 b ∨ b = m) w w'

set_option maxHeartbeats 8000000 in
theorem iFill_oc (m : Nat) (x y z : Value) (S : RP) (a M c k n1 h1 n2 h2 n3 h3 : Nat) (w : World) (O : O3 w x y z S n1 h1 n2 h2 n3 h3) (hb : w.heap[m]? = some (.cells #[x, y, z, .int .i64 (S.h : Int), .int .i64 (S.n : Int)] 107 (0, 0))) (hm : ¬ P3 n1 h1 n2 h2 n3 h3 m) (ok : S.Ok M c k) (ha : a < M) (hSn : S.n ≤ 1048576) :
    Calls Try.prog 72 #[.pointer (some ⟨m, 0, none⟩), .int .i64 a] w (RetFi w m x y z n1 h1 n2 h2 n3 h3 (S.fill a)) := by
  have b3 : w.cell? ⟨m, 3, none⟩ = some (.int .i64 (S.h : Int)) := cell_of_row w m 3 _ _ (0, 0) hb
  by_cases hah : a = S.h
  · have e : S.fill a = S := by unfold RP.fill; rw [if_pos hah]
    rw [e]
    have t1 : ((a : Int) == (S.h : Int)) = true := by simp [hah]
    have t2 : decide ((a : Int) = (S.h : Int)) = true := by simp [hah]
    have O := hide O
    have hab := hide hah
    have HB := hide hb
    clear hb hah e
    go_enter Try.func72, Try.ntmps72
    go_wp2_with fail
    exact bodyPost_end (v := .tuple #[]) (by simp [results, Try.results72]) rfl ⟨⟨_, rfl⟩, O.out, HB.out, Trn.refl _ _⟩
  · have e : S.fill a = ⟨S.l.set S.h (S.l.getD a 0), S.r.set S.h (S.r.getD a 0), S.ps, a, S.n + 1⟩ := by unfold RP.fill; rw [if_neg hah]
    rw [e]
    have ok1 := ok.l
    have ok2 := ok.r
    have ok3 := ok.h
    have ok4 := ok.hm
    obtain ⟨ax, cx, rfl⟩ := O.x.form
    obtain ⟨ay, cy, rfl⟩ := O.y.form
    have capx := (Ow.cap O.x)
    have capy := (Ow.cap O.y)
    obtain ⟨gx, rfl, -, x1, x2, xc⟩ := O.x.at (by omega)
    obtain ⟨gy, rfl, -, y1, y2, yc⟩ := O.y.at (by omega)
    have lcx : S.l.length ≤ cx := by obtain ⟨_, _, _, e1, e2, _⟩ := capx; simp only [Value.slice.injEq] at e1; omega
    have lcy : S.r.length ≤ cy := by obtain ⟨_, _, _, e1, e2, _⟩ := capy; simp only [Value.slice.injEq] at e1; omega
    have b0 : w.cell? ⟨m, 0, none⟩ = some (.slice (some ⟨gx, 0, none⟩) S.l.length cx) := cell_of_row w m 0 _ _ (0, 0) hb
    have b1 : w.cell? ⟨m, 1, none⟩ = some (.slice (some ⟨gy, 0, none⟩) S.r.length cy) := cell_of_row w m 1 _ _ (0, 0) hb
    have t1 : ((a : Int) == (S.h : Int)) = false := by simp; omega
    have t2 : decide ((a : Int) = (S.h : Int)) = false := by simp; omega
    have i1 : (S.h : Int) ≤ (S.l.length : Int) := by omega
    have i2 : (S.h : Int) ≤ (S.r.length : Int) := by omega
    have j1 : ¬ (cx = S.h) := by omega
    have j2 : ¬ (cy = S.h) := by omega
    have j3 : ¬ (cx = a) := by omega
    have j4 : ¬ (cy = a) := by omega
    have hw1 : IntKind.i64.wrap ((a : Int) + 1) = (a : Int) + 1 := by rw [IntKind.wrap_i64]; omega
    have hp1 : (0 : Int) ≤ (a : Int) + 1 := by omega
    have htn : ((a : Int) + 1).toNat = a + 1 := by omega
    have k1 : (a : Int) + 1 ≤ (cx : Int) := by omega
    have k2 : (a : Int) + 1 ≤ (cy : Int) := by omega
    have k3 : (a : Int) ≤ (a : Int) + 1 := by omega
    have OO := hide O
    have HB := hide hb
    have HX := hide (And.intro x1 x2)
    have HY := hide (And.intro y1 y2)
    have L1 := hide (show S.h < S.l.length by omega)
    have L2 := hide (show a < S.l.length by omega)
    have L3 := hide (show S.h < S.r.length by omega)
    have L4 := hide (show a < S.r.length by omega)
    have HM := hide hm
    have HS := hide hSn
    clear O hb ok e ok1 ok2 ok3 ok4 capx capy x1 x2 y1 y2 xc yc hm ha hah lcx lcy hSn
    go_enter Try.func72, Try.ntmps72
    go_wp2_with fail
    have KX := hide (fun (W : World) (h : Trn (fun b => b = gx) w W) => show W.cell? ⟨m, 0, none⟩ = some (.slice (some ⟨gx, 0, none⟩) S.l.length cx) ∧ W.cell? ⟨m, 3, none⟩ = some (.int .i64 (S.h : Int)) by
      have e := (h.block m (Array.getElem?_eq_some_iff.1 HB.out).1 (fun e => HM.out (.inl (e ▸ HX.out)))).trans HB.out
      exact ⟨cell_of_row W m 0 _ _ (0, 0) e, cell_of_row W m 3 _ _ (0, 0) e⟩)
    have TT := hide ((Trn.refl (fun b => b = gx) w).drew)
    go_region_held3 (fun W => W.cell? ⟨m, 0, none⟩ = some (.slice (some ⟨gx, 0, none⟩) S.l.length cx) ∧ W.cell? ⟨m, 3, none⟩ = some (.int .i64 (S.h : Int))) (first | with_reducible exact KX.out _ TT.out | go_keep) (first | (refine step_copy1 rfl _ _ rfl gx S.l.length cx S.h a n1 h1 S.l OO.out.drew.x rfl L1.out L2.out (by simp [Act.eval, Act.put]) (by simp [Act.eval, Act.put]) ?_; intro w2 q1 q2; replace TT := hide (TT.out.trans q2)))
    clear TT KX
    have ap := OO.out.apart
    have hx := HX.out
    have hy := HY.out
    have nm1 : m ≠ gx := fun e => HM.out (.inl (e ▸ hx))
    have nm2 : m ≠ gy := fun e => HM.out (.inr (.inl (e ▸ hy)))
    have O2 := hide (OO.out.drew.copyX q1 q2 hx.1 hx.2)
    have HB2 := hide ((q2.block m (Array.getElem?_eq_some_iff.1 HB.out).1 nm1).trans HB.out)
    have T2 := hide (((Trn.below (Below.refl w.heap.size w).drew).trans q2).mono (Q := fun b => P3 n1 h1 n2 h2 n3 h3 b ∨ b = m) fun b e => by subst e; exact .inl (.inl hx))
    clear q1 q2 b0 b1 b3
    have b1 : w2.cell? ⟨m, 1, none⟩ = some (.slice (some ⟨gy, 0, none⟩) S.r.length cy) := cell_of_row w2 m 1 _ _ (0, 0) HB2.out
    have b3 : w2.cell? ⟨m, 3, none⟩ = some (.int .i64 (S.h : Int)) := cell_of_row w2 m 3 _ _ (0, 0) HB2.out
    clear ap hx hy
    go_wp2_with fail
    have KX := hide (fun (W : World) (h : Trn (fun b => b = gy) w2 W) => show W.cell? ⟨m, 1, none⟩ = some (.slice (some ⟨gy, 0, none⟩) S.r.length cy) ∧ W.cell? ⟨m, 3, none⟩ = some (.int .i64 (S.h : Int)) by
      have e := (h.block m (Array.getElem?_eq_some_iff.1 HB2.out).1 (fun e => HM.out (.inr (.inl (e ▸ HY.out))))).trans HB2.out
      exact ⟨cell_of_row W m 1 _ _ (0, 0) e, cell_of_row W m 3 _ _ (0, 0) e⟩)
    have TT := hide ((Trn.refl (fun b => b = gy) w2).drew)
    go_region_held3 (fun W => W.cell? ⟨m, 1, none⟩ = some (.slice (some ⟨gy, 0, none⟩) S.r.length cy) ∧ W.cell? ⟨m, 3, none⟩ = some (.int .i64 (S.h : Int))) (first | with_reducible exact KX.out _ TT.out | go_keep) (first | (refine step_copy1 rfl _ _ rfl gy S.r.length cy S.h a n2 h2 S.r O2.out.drew.y rfl L3.out L4.out (by simp [Act.eval, Act.put]) (by simp [Act.eval, Act.put]) ?_; intro w3 q1 q2; replace TT := hide (TT.out.trans q2)))
    clear TT KX
    have hy := HY.out
    have O3' := hide (O2.out.drew.copyY q1 q2 hy.1 hy.2)
    have HB3 := hide ((q2.block m (Array.getElem?_eq_some_iff.1 HB2.out).1 nm2).trans HB2.out)
    have T3 := hide (T2.out.trans (((Trn.below (Below.refl w2.heap.size w2).drew).trans q2).mono (Q := fun b => P3 n1 h1 n2 h2 n3 h3 b ∨ b = m) fun b e => by subst e; exact .inl (.inr (.inl hy))))
    clear q1 q2 b1 b3 hy
    have b3 : w3.cell? ⟨m, 3, none⟩ = some (.int .i64 (S.h : Int)) := cell_of_row w3 m 3 _ _ (0, 0) HB3.out
    have b4 : w3.cell? ⟨m, 4, none⟩ = some (.int .i64 (S.n : Int)) := cell_of_row w3 m 4 _ _ (0, 0) HB3.out
    have f3 : w3.frozen? ⟨m, 3, none⟩ = false := frozen_of_row w3 m 3 _ _ HB3.out
    have f4 : w3.frozen? ⟨m, 4, none⟩ = false := frozen_of_row w3 m 4 _ _ HB3.out
    have hsn : (S.n : Int) ≤ 1048576 := by have := HS.out; omega
    go_wp2_with fail
    have s1 := heap_setCell_same w3 m 3 _ _ (.int .i64 (a : Int)) HB3.out
    have s2 := heap_setCell_same _ m 4 _ _ (.int .i64 ((S.n : Int) + 1)) s1
    exact bodyPost_end (v := .tuple #[]) (by simp [results, Try.results72]) rfl ⟨⟨_, rfl⟩, ((O3'.out.set HM.out 3 _).set HM.out 4 _).like rfl rfl rfl, by simpa using s2, (T3.out.setCell (.inr rfl) 3 _).setCell (.inr rfl) 4 _⟩

end Go.Proofs.Ytajfhalalnlejaa
