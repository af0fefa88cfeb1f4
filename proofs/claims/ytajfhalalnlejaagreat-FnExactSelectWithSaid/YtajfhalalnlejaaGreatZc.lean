/- Several texts in one: LcW, RcM, CwS, Lw, SwM, SwI, SwS, Rf, SwL. -/
import Derived.Test.YtajfhalalnlejaaGreatZb
import Derived.Test.YtajfhalalnlejaaGreatIn
import Derived.Test.YtajfhalalnlejaaGreatKw
import Derived.Test.YtajfhalalnlejaaGreatZa
import Derived.Test.YtajfhalalnlejaaGreatRng
import Derived.Test.YtajfhalalnlejaaGreatRng2
import Derived.Test.YtajfhalalnlejaaGreatAny
import Derived.Test.YtajfhalalnlejaaGreatCkO
/- l7Total, l7With of the reference: the sum of a ledger; a column is divided by a policy (promises 4, 6). Written by gen_lcw.py. -/
namespace Go.Proofs.YtajfhalalnlejaaGreat
open Go.RowKit Go.ChangeShapes
set_option linter.unusedSimpArgs false
set_option linter.unusedVariables false
set_option maxRecDepth 100000

theorem cgT_take : ∀ (cs : List Chg) (k : Nat) (h : k < cs.length), cgT (cs.take (k + 1)) = cgT (cs.take k) + cs[k].n
  | c :: cs, 0, _ => by simp [cgT]
  | c :: cs, k + 1, h => by
    have := cgT_take cs k (by simpa using h)
    simp only [List.take_succ_cons, cgT, List.getElem_cons_succ]
    omega

theorem cgT_bound : ∀ cs : List Chg, (∀ c ∈ cs, 0 ≤ c.n ∧ c.n ≤ 1048576) → 0 ≤ cgT cs ∧ cgT cs ≤ cs.length * 1048576
  | [], _ => by simp [cgT]
  | c :: cs, h => by
    have h1 := cgT_bound cs (fun x hx => h x (by simp [hx]))
    have h2 := h c (by simp)
    simp only [cgT, List.length_cons]
    omega

set_option maxHeartbeats 2000000 in
theorem l7Total_any (sv : Value) (cs : List Chg) (base : Nat) (w : World) (h : Lg w base sv cs) (hn : ∀ c ∈ cs, 0 ≤ c.n ∧ c.n ≤ 1048576) (hl : cs.length ≤ 1048576) :
    Calls Tryz.prog 88 #[sv] w (RetI1 w (cgT cs)) := by
  obtain ⟨a, c, rfl⟩ := h.form
  have HA := hide (show ∀ (k : Nat) (hk : k < cs.length), ∃ g, a = some ⟨g, 0, none⟩ ∧ w.cell? ⟨g, k * 5 + 4, none⟩ = some (.int .i64 cs[k].n) from fun k hk => by
    obtain ⟨g, e⟩ := h.at' (by omega)
    exact ⟨g, e, (Lg.cell (by rw [e] at h; exact h) k hk).2.2.2.2⟩)
  have HT := hide (fun k hk => cgT_take cs k hk)
  have HB := hide (fun (k : Nat) => cgT_bound (cs.take k) (fun x hx => hn x (List.mem_of_mem_take hx)))
  have HE := hide (show cgT cs = cgT (cs.take cs.length) by rw [List.take_length])
  have HLT := hide (fun (k : Nat) => show (cs.take k).length ≤ cs.length from List.length_take_le' ..)
  obtain ⟨L, hL⟩ : ∃ L, L = cs.length := ⟨_, rfl⟩
  rw [← hL] at HE hl HLT ⊢
  have HL := hide hL
  have HN := hide hn
  clear h hL hn
  go_enter Tryz.func88, Tryz.ntmps88
  go_wp2_with fail
  go_loopw [3, 4] (fun n x wr => ∃ k : Nat, k ≤ L ∧ x = .int .i64 (k : Int) ∧ n = .int .i64 (cgT (cs.take k)) ∧ wr = w) (fun _ x _ => L - (intOf x).toNat)
  case atStart => exact ⟨0, by omega, rfl, by simp [cgT], rfl⟩
  case round =>
    obtain ⟨k, hk, rfl, rfl, rfl⟩ := hrel
    by_cases hlt : k < L
    · have hkl : k < cs.length := by rw [← HL.out]; exact hlt
      obtain ⟨g, rfl, ec⟩ := HA.out k hkl
      have ht := HT.out k hkl
      have hb := HB.out k
      have hb2 := HB.out (k + 1)
      have hlt2 := HLT.out k
      have hlt3 := HLT.out (k + 1)
      obtain ⟨x, hx⟩ : ∃ x, x = cs[k].n := ⟨_, rfl⟩
      obtain ⟨n, hnn⟩ : ∃ n, n = cgT (cs.take k) := ⟨_, rfl⟩
      obtain ⟨n2, hn2⟩ : ∃ n, n = cgT (cs.take (k + 1)) := ⟨_, rfl⟩
      rw [← hx] at ec ht
      rw [← hnn] at ht hb ⊢
      rw [← hn2] at ht hb2
      have H2 := hide hn2
      have hw : wrap64 (n + x) = n2 := by rw [IntWalk.wrap64_in _ (by omega)]; exact ht.symm
      have hw2 : IntKind.i64.wrap (n + x) = n2 := by rw [IntWalk.i64_left]; exact hw
      clear ht hb hb2 hx hnn hn2 hlt2 hlt3
      go_wp2_with fail
      exact ⟨⟨k + 1, by omega, by go_num, by rw [← H2.out], trivial⟩, by simp [intOf]; omega⟩
    · have hkL : k = L := by omega
      subst hkL
      have he := HE.out
      obtain ⟨n, hnn⟩ : ∃ n, n = cgT (cs.take k) := ⟨_, rfl⟩
      rw [← hnn] at he ⊢
      have he := hide he
      clear hnn
      go_wp2_with fail
      go_ret
      exact ⟨by rw [he.out]; rfl, Below.refl _ _⟩

/-- The row of the ledger is the old one, or lies from block B on. -/
def SvB (sv sv' : Value) (B : Nat) : Prop := sv'.ownBlock = sv.ownBlock ∨ ∃ g, sv'.ownBlock = some g ∧ B ≤ g
theorem SvB.refl (sv : Value) (B : Nat) : SvB sv sv B := .inl rfl
theorem SvB.next {sv sv' sv2 : Value} {B C : Nat} (h : SvB sv sv' B) (h2 : sv2.ownBlock = sv'.ownBlock ∨ ∃ g, sv2.ownBlock = some g ∧ C ≤ g) (hc : B ≤ C) : SvB sv sv2 B := by
  rcases h2 with e | ⟨g, e, hg⟩
  · rcases h with e2 | ⟨g, e2, hg⟩
    · exact .inl (e.trans e2)
    · exact .inr ⟨g, e.trans e2, hg⟩
  · exact .inr ⟨g, e, Nat.le_trans hc hg⟩
theorem SvB.sub {w : World} {lb : Nat} {sv sv' : Value} {B : Nat} (h : SvB sv sv' B) (hB : w.heap.size ≤ B) : ∀ b ∈ lbF lb sv', b ∈ lbF lb sv ∨ w.heap.size ≤ b := by
  intro b hb
  rcases List.mem_cons.1 hb with rfl | hb
  · exact .inl (List.mem_cons_self ..)
  · rcases h with e | ⟨g, e, hg⟩
    · rw [e] at hb; exact .inl (List.mem_cons_of_mem _ hb)
    · rw [e] at hb
      obtain rfl : b = g := by simpa using hb
      exact .inr (Nat.le_trans hB hg)
theorem SvB.not {w : World} {lb : Nat} {sv sv' : Value} {B : Nat} (h : SvB sv sv' B) (hF : ∀ b ∈ lbF lb sv, b < w.heap.size) {e : Nat} (h1 : w.heap.size ≤ e) (h2 : e < B) : e ∉ lbF lb sv' := by
  intro hb
  rcases List.mem_cons.1 hb with rfl | hb
  · have := hF e (List.mem_cons_self ..); omega
  · rcases h with e2 | ⟨g, e2, hg⟩
    · rw [e2] at hb
      have := hF e (List.mem_cons_of_mem _ hb); omega
    · rw [e2] at hb
      obtain rfl : e = g := by simpa using hb
      omega
theorem SvB.ne {w : World} {lb : Nat} {sv sv' : Value} {B : Nat} (h : SvB sv sv' B) (hF : ∀ b ∈ lbF lb sv, b < w.heap.size) {e : Nat} (h1 : w.heap.size ≤ e) (h2 : e < B) : lb ≠ e ∧ sv'.ownBlock ≠ some e :=
  ⟨fun hh => h.not hF h1 h2 (by rw [← hh]; exact List.mem_cons_self ..), fun hh => h.not hF h1 h2 (List.mem_cons_of_mem _ (Option.mem_toList.2 hh))⟩

theorem LB.poke3 {w : World} {lb base : Nat} {sv : Value} {cs : List Chg} (h : LB w lb base sv cs) {g : Nat} {x y z : Value} (hh : lb ≠ g ∧ sv.ownBlock ≠ some g) : LB (((w.setCell ⟨g, 0, none⟩ x).setCell ⟨g, 1, none⟩ y).setCell ⟨g, 2, none⟩ z) lb base sv cs :=
  ((h.poke hh.1 hh.2).poke hh.1 hh.2).poke hh.1 hh.2

theorem Kd.put3c {G : List Nat} {w W : World} {L : List (Nat × Array Value × TypeId)} (h : Kd G w W L) (i : Nat) {g : Nat} {a b c : Value} {t : TypeId} (ho : L[i]? = some (g, #[a, b, c], t)) (x y z : Value) :
    Kd G w (((W.setCell ⟨g, 0, none⟩ x).setCell ⟨g, 1, none⟩ y).setCell ⟨g, 2, none⟩ z) (L.set i (g, #[x, y, z], t)) := by
  have hi := (List.getElem?_eq_some_iff.1 ho).1
  have h1 := h.set i 0 ho x
  have h2 := h1.set i 1 (by rw [List.getElem?_set_self hi]) y
  have h3 := h2.set i 2 (by rw [List.getElem?_set_self (by simpa using hi)]) z
  simpa using h3

/-- A column of the call's own and settings are returned, the ledger has grown; nothing else that was there has turned. -/
def RetLW (w : World) (lb base : Nat) (sv : Value) (S : PS) (p t : Int) (cs : List Chg) (e : Ending) (w' : World) : Prop := ∃ x y z lo hi n1 h1 n2 h2 n3 h3 sv', e = .returned (.tuple #[.agg #[x, y, z], .agg #[.int .i64 p, .int .i64 t, .int .i64 S.s]]) ∧ w.heap.size ≤ lo ∧ OC w' x y z S.l S.r S.ps lo hi n1 h1 n2 h2 n3 h3 ∧ LB w' lb base sv' cs ∧ SvB sv sv' w.heap.size ∧ Only (lbF lb sv) w w'

set_option maxHeartbeats 20000000 in
theorem l7With_any (u : Value) (S : PS) (p t v q : Int) (lb base : Nat) (sv : Value) (cs : List Chg) (w : World) (n0 : Nat) (hv : CU w u S.l S.r S.ps) (hok : S.Ok n0) (hp : 0 ≤ p ∧ p ≤ 2) (ht : 1 ≤ t ∧ t ≤ 64) (hvb : -1000 ≤ v ∧ v ≤ 1000) (hlg : LB w lb base sv cs) (hcl : cs.length ≤ 100000) (hbs : base ≤ w.heap.size) :
    Calls Tryz.prog 87 #[u, .agg #[.int .i64 p, .int .i64 t, .int .i64 S.s], .int .i64 v, .int .i64 q, .pointer (some ⟨lb, 0, none⟩)] w (RetLW w lb base sv ((PS.run p t v 64 S).crack v) p t (cs ++ (PS.runC p t v q 64 S ++ (PS.run p t v 64 S).chg v q))) := by
  obtain ⟨a1, c1, a2, c2, a3, c3, rfl, -⟩ := Ck.form hv
  have X := hide (((((Kd.one (lbF lb sv) w #[.slice a1 S.l.length c1, .slice a2 S.r.length c2, .slice a3 S.ps.length c3] 33).alloc #[.int .i64 p, .int .i64 t, .int .i64 S.s] 34).alloc #[.slice none 0 0, .slice none 0 0, .slice none 0 0] 33).alloc #[.int .i64 0, .int .i64 0, .int .i64 0] 34).alloc #[.slice a1 S.l.length c1, .slice a2 S.r.length c2, .slice a3 S.ps.length c3] 33)
  obtain ⟨w1, hw1⟩ : ∃ w1, w1 = ((((w.alloc (.cells #[.slice a1 S.l.length c1, .slice a2 S.r.length c2, .slice a3 S.ps.length c3] 33)).alloc (.cells #[.int .i64 p, .int .i64 t, .int .i64 S.s] 34)).alloc (.cells #[.slice none 0 0, .slice none 0 0, .slice none 0 0] 33)).alloc (.cells #[.int .i64 0, .int .i64 0, .int .i64 0] 34)).alloc (.cells #[.slice a1 S.l.length c1, .slice a2 S.r.length c2, .slice a3 S.ps.length c3] 33) := ⟨_, rfl⟩
  have hb1 : Below w.heap.size w w1 := by rw [hw1]; exact ((((below1 w _).alloc (by simp) _).alloc (by simp; omega) _).alloc (by simp; omega) _).alloc (by simp; omega) _
  rw [← hw1] at X
  simp only [List.cons_append, List.nil_append, World.size_alloc] at X
  have HF := hide (lbF_lt hlg)
  have LG := hide (hlg.below hb1)
  have V := hide (show CS w.heap.size (w.heap.size + 1 + 1 + 1 + 1 + 1) w1 (.agg #[.slice a1 S.l.length c1, .slice a2 S.r.length c2, .slice a3 S.ps.length c3]) S.l S.r S.ps from CS.of_ck (Ck.below hv hb1 (Nat.le_refl _)) hb1.size)
  have hz := hide (show w1.heap.size = w.heap.size + 5 by rw [hw1]; simp)
  have HOK := hide hok
  have X := hide (X.out.sub (M := [(w.heap.size + 1, #[.int .i64 p, .int .i64 t, .int .i64 S.s], 34), (w.heap.size + 1 + 1, #[.slice none 0 0, .slice none 0 0, .slice none 0 0], 33), (w.heap.size + 1 + 1 + 1, #[.int .i64 0, .int .i64 0, .int .i64 0], 34), (w.heap.size + 1 + 1 + 1 + 1, #[.slice a1 S.l.length c1, .slice a2 S.r.length c2, .slice a3 S.ps.length c3], 33)]) (List.sublist_cons_self ..))
  clear hlg hb1 hv hok
  have HRUN := hide (fun (T : PS) (k : Nat) (h : T.more p t v = true) => show PS.run p t v (k + 1) T = PS.run p t v k (T.step p t v) by rw [PS.run, if_pos h])
  have HRUNC := hide (fun (T : PS) (k : Nat) (h : T.more p t v = true) => show PS.runC p t v q (k + 1) T = T.chgs p t v q ++ PS.runC p t v q k (T.step p t v) by rw [PS.runC, if_pos h])
  have HST := hide (fun (T : PS) (k : Nat) (h : T.more p t v = false) => show PS.run p t v k T = T ∧ PS.runC p t v q k T = [] from ⟨PS.run_stop h k, PS.runC_stop h k⟩)
  obtain ⟨RS, hRS⟩ : ∃ x, x = PS.run p t v 64 S := ⟨_, rfl⟩
  obtain ⟨RC, hRC⟩ : ∃ x, x = PS.runC p t v q 64 S := ⟨_, rfl⟩
  rw [← hRS, ← hRC]
  obtain ⟨T9, hT9⟩ : ∃ x, x = RS.crack v := ⟨_, rfl⟩
  obtain ⟨cs9, hcs9⟩ : ∃ x, x = cs ++ (RC ++ RS.chg v q) := ⟨_, rfl⟩
  rw [← hT9, ← hcs9]
  have HT9 := hide hT9
  have HC9 := hide hcs9
  clear hT9 hcs9
  have HRS := hide hRS
  have HRC := hide hRC
  clear hRS hRC
  have d0 : w1.cell? ⟨w.heap.size + 1, 0, none⟩ = some (.int .i64 p) := X.out.cell 0 0 rfl rfl
  go_enter Tryz.func87, Tryz.ntmps87
  go_wp2_with fail
  rw [← hw1]
  clear hw1 d0
  obtain ⟨x1, hx1⟩ : ∃ q, q = w.heap.size + 1 + 1 + 1 + 1 := ⟨_, rfl⟩
  obtain ⟨r2, hr2⟩ : ∃ q, q = w.heap.size + 1 + 1 + 1 := ⟨_, rfl⟩
  obtain ⟨r1, hr1⟩ : ∃ q, q = w.heap.size + 1 + 1 := ⟨_, rfl⟩
  obtain ⟨s1, hs1⟩ : ∃ q, q = w.heap.size + 1 := ⟨_, rfl⟩
  have HBL := hide (show w.heap.size < s1 ∧ s1 < r1 ∧ r1 < r2 ∧ r2 < x1 ∧ w1.heap.size = x1 + 1 by have := hz.out; omega)
  rw [← hx1, ← hr2, ← hr1, ← hs1]
  rw [← hx1, ← hr2, ← hr1, ← hs1] at X
  rw [← hx1] at V
  clear hx1 hr2 hr1 hs1
  have KS := hide (fun (W : World) (x y z : Value) (ss : Int) (h : Kd (lbF lb sv) w W [(s1, #[.int .i64 p, .int .i64 t, .int .i64 ss], 34), (r1, #[.slice none 0 0, .slice none 0 0, .slice none 0 0], 33), (r2, #[.int .i64 0, .int .i64 0, .int .i64 0], 34), (x1, #[x, y, z], 33)]) => show W.cell? ⟨s1, 0, none⟩ = some (.int .i64 p) ∧ W.cell? ⟨s1, 1, none⟩ = some (.int .i64 t) ∧ W.cell? ⟨s1, 2, none⟩ = some (.int .i64 ss) ∧ W.frozen? ⟨s1, 0, none⟩ = false ∧ W.frozen? ⟨s1, 1, none⟩ = false ∧ W.frozen? ⟨s1, 2, none⟩ = false ∧ W.cell? ⟨x1, 0, none⟩ = some x ∧ W.cell? ⟨x1, 1, none⟩ = some y ∧ W.cell? ⟨x1, 2, none⟩ = some z ∧ W.frozen? ⟨x1, 0, none⟩ = false ∧ W.frozen? ⟨x1, 1, none⟩ = false ∧ W.frozen? ⟨x1, 2, none⟩ = false from ⟨h.cell 0 0 rfl rfl, h.cell 0 1 rfl rfl, h.cell 0 2 rfl rfl, h.free 0 0 rfl, h.free 0 1 rfl, h.free 0 2 rfl, h.cell 3 0 rfl rfl, h.cell 3 1 rfl rfl, h.cell 3 2 rfl rfl, h.free 3 0 rfl, h.free 3 1 rfl, h.free 3 2 rfl⟩)
  have KR := hide (fun (W : World) (x y z : Value) (ss : Int) (h : Kd (lbF lb sv) w W [(s1, #[.int .i64 p, .int .i64 t, .int .i64 ss], 34), (r1, #[.slice none 0 0, .slice none 0 0, .slice none 0 0], 33), (r2, #[.int .i64 0, .int .i64 0, .int .i64 0], 34), (x1, #[x, y, z], 33)]) => show W.cell? ⟨r1, 0, none⟩ = some (.slice none 0 0) ∧ W.cell? ⟨r1, 1, none⟩ = some (.slice none 0 0) ∧ W.cell? ⟨r1, 2, none⟩ = some (.slice none 0 0) ∧ W.cell? ⟨r2, 0, none⟩ = some (.int .i64 0) ∧ W.cell? ⟨r2, 1, none⟩ = some (.int .i64 0) ∧ W.cell? ⟨r2, 2, none⟩ = some (.int .i64 0) ∧ W.frozen? ⟨r1, 0, none⟩ = false ∧ W.frozen? ⟨r1, 1, none⟩ = false ∧ W.frozen? ⟨r1, 2, none⟩ = false ∧ W.frozen? ⟨r2, 0, none⟩ = false ∧ W.frozen? ⟨r2, 1, none⟩ = false ∧ W.frozen? ⟨r2, 2, none⟩ = false from ⟨h.cell 1 0 rfl rfl, h.cell 1 1 rfl rfl, h.cell 1 2 rfl rfl, h.cell 2 0 rfl rfl, h.cell 2 1 rfl rfl, h.cell 2 2 rfl rfl, h.free 1 0 rfl, h.free 1 1 rfl, h.free 1 2 rfl, h.free 2 0 rfl, h.free 2 1 rfl, h.free 2 2 rfl⟩)
  have HLT := hide (fun (W : World) (x y z : Value) (ss : Int) (h : Kd (lbF lb sv) w W [(s1, #[.int .i64 p, .int .i64 t, .int .i64 ss], 34), (r1, #[.slice none 0 0, .slice none 0 0, .slice none 0 0], 33), (r2, #[.int .i64 0, .int .i64 0, .int .i64 0], 34), (x1, #[x, y, z], 33)]) => show ∀ e ∈ ([(s1, #[.int .i64 p, .int .i64 t, .int .i64 ss], 34), (r1, #[.slice none 0 0, .slice none 0 0, .slice none 0 0], 33), (r2, #[.int .i64 0, .int .i64 0, .int .i64 0], 34), (x1, #[x, y, z], 33)] : List (Nat × Array Value × TypeId)), e.1 < x1 + 1 by
    intro e he
    have := HBL.out
    simp only [List.mem_cons, List.not_mem_nil, or_false] at he
    rcases he with rfl | rfl | rfl | rfl <;> simp only <;> omega)
  go_loopg [17] 64 (fun g s17 wr => ∃ (x y z sv' : Value) (T : PS) (cs1 : List Chg) (nn : Nat), Hid (T.Ok nn) ∧ Hid ((T.piece v).2 - (T.piece v).1 ≤ g) ∧ Hid (PS.run p t v g T = RS) ∧ Hid (cs1 ++ PS.runC p t v q g T = RC) ∧ Hid (cs1.length + 2 * g ≤ 128) ∧ Hid (Kd (lbF lb sv) w wr [(s1, #[.int .i64 p, .int .i64 t, .int .i64 T.s], 34), (r1, #[.slice none 0 0, .slice none 0 0, .slice none 0 0], 33), (r2, #[.int .i64 0, .int .i64 0, .int .i64 0], 34), (x1, #[x, y, z], 33)]) ∧ Hid (CS w.heap.size (x1 + 1) wr (.agg #[x, y, z]) T.l T.r T.ps) ∧ Hid (LB wr lb base sv' (cs ++ cs1)) ∧ Hid (SvB sv sv' (x1 + 1)))
  case atStart => exact ⟨_, _, _, sv, S, [], n0, HOK.out, (piece_le HOK.out).1, HRS.out.symm, by rw [List.nil_append]; exact HRC.out.symm, by simp [Hid], X.out, V.out, by rw [List.append_nil]; exact LG.out, SvB.refl _ _⟩
  case round =>
    obtain ⟨x, y, z, sv', T, cs1, nn, hT, hpc, hrun, hrunc, hlen, X, V, LG, hSB⟩ := hrel
    obtain ⟨b1, k1, b2, k2, b3, k3, hform, -⟩ := Ck.form V.out.cu
    simp only [Value.agg.injEq, Array.mk.injEq, List.cons.injEq, and_true] at hform
    obtain ⟨rfl, rfl, rfl⟩ := hform
    obtain ⟨cx0, cx1, cx2, g0, g1, g2, d0, d1, d2, ex0, ex1, ex2⟩ := KS.out _ _ _ _ _ X.out
    by_cases hp0 : p = 0
    · have hm : T.more p t v = false := by unfold PS.more; simp [hp0]
      have tp : (p != 0) = false := by simp [hp0]
      clear hp0
      have hst := HST.out T gk hm
      have e1 : RS = T := hrun.out.symm.trans hst.1
      have e2 : RC = cs1 := by have := hrunc.out; rw [hst.2, List.append_nil] at this; exact this.symm
      have HT9 := hide (show T.crack v = T9 by rw [HT9.out, e1])
      have HC9 := hide (show (cs ++ cs1) ++ T.chg v q = cs9 by rw [HC9.out, e1, e2, List.append_assoc])
      clear hst e1 e2 hm HRS HRC hrun hrunc HRUN HRUNC HST hpc
      have CL := hide (fun (W : World) (hv' : CU W (.agg #[.slice b1 T.l.length k1, .slice b2 T.r.length k2, .slice b3 T.ps.length k3]) T.l T.r T.ps) (hl' : LB W lb base sv' (cs ++ cs1)) (hb' : base ≤ W.heap.size) => l7Crack_any (.agg #[.slice b1 T.l.length k1, .slice b2 T.r.length k2, .slice b3 T.ps.length k3]) T v q lb base sv' (cs ++ cs1) W 2001 hv' hT.out.2.1 (by omega) ⟨by omega, by omega⟩ hl' (by have := hlen.out; rw [List.length_append]; omega) hb')
      have HSS := hide (show (T.crack v).s = T.s from rfl)
      have HW9 := hide (show Wf (T.crack v).l (T.crack v).r (T.crack v).ps 2001 from (PS.crack_ok hT.out hvb).2.1)
      obtain ⟨ss, hss⟩ : ∃ q, q = T.s := ⟨_, rfl⟩
      rw [HT9.out, HC9.out] at CL
      rw [HT9.out, ← hss] at HSS
      rw [HT9.out] at HW9
      rw [← hss] at X
      clear HT9 HC9 hss hlen
      obtain ⟨kq0, kq1, kq2, lq0, lq1, lq2, mq0, mq1, mq2, n0', n1', n2'⟩ := KR.out _ _ _ _ _ X.out
      go_upto_region 10 with fail
      clear kq0 kq1 kq2 lq0 lq1 lq2 mq0 mq1 mq2 n0' n1' n2' cx0 cx1 cx2 g0 g1 g2 d0 d1 d2 ex0 ex1 ex2
      have X := hide X.out.drew
      have V := hide (V.out.drew (by have := HBL.out; have := X.out.lt 3 rfl; simp at this; omega))
      have LG := hide (LG.out.below (Below.refl _ _).drew)
      obtain ⟨cx0, cx1, cx2, g0, g1, g2, d0, d1, d2, ex0, ex1, ex2⟩ := KS.out _ _ _ _ _ X.out
      obtain ⟨kq0, kq1, kq2, lq0, lq1, lq2, mq0, mq1, mq2, n0', n1', n2'⟩ := KR.out _ _ _ _ _ X.out
      have hne1 : r1 ≠ r2 := by have := HBL.out; omega
      have hne2 : r2 ≠ r1 := by have := HBL.out; omega
      have hne3 : s1 ≠ r1 := by have := HBL.out; omega
      have hne4 : s1 ≠ r2 := by have := HBL.out; omega
      have hne5 : x1 ≠ r1 := by have := HBL.out; omega
      have hne6 : x1 ≠ r2 := by have := HBL.out; omega
      go_region_with (first
        | (go_at_call 122; refine (CL.out _ V.out.cu LG.out (by have := HBL.out; have := X.out.lt 3 rfl; omega)).mono ?_; rintro e wq ⟨x', y', z', lo, hi, n1, h1, n2, h2, n3, h3, sv2, rfl, q1, O, L2, hsv, ho⟩; obtain ⟨v1, j1, rfl⟩ := O.x.form; obtain ⟨v2, j2, rfl⟩ := O.y.form; obtain ⟨v3, j3, rfl⟩ := O.z.own.form; have Q1 := hide (show x1 + 1 ≤ lo from Nat.le_trans (X.out.lt 3 rfl) q1); replace X := hide (X.out.others ho (hSB.out.sub (by have := HBL.out; omega)) (fun e he => hSB.out.not HF.out (X.out.high e he) (HLT.out _ _ _ _ _ X.out e he))); have O := hide O; have L2 := hide L2; have HS2 := hide (hSB.out.next hsv (Nat.le_trans Q1.out O.out.top.1)); clear q1 hsv ho cx0 cx1 cx2 g0 g1 g2 d0 d1 d2 ex0 ex1 ex2 kq0 kq1 kq2 lq0 lq1 lq2 mq0 mq1 mq2 n0' n1' n2'; obtain ⟨cx0, cx1, cx2, g0, g1, g2, d0, d1, d2, ex0, ex1, ex2⟩ := KS.out _ _ _ _ _ X.out; obtain ⟨kq0, kq1, kq2, lq0, lq1, lq2, mq0, mq1, mq2, n0', n1', n2'⟩ := KR.out _ _ _ _ _ X.out))
      all_goals
        have Z := (X.out.put3c 1 rfl (.slice v1 T9.l.length j1) (.slice v2 T9.r.length j2) (.slice v3 T9.ps.length j3)).put3c 2 rfl (.int .i64 p) (.int .i64 t) (.int .i64 ss)
        have z0 := Z.cell 1 0 rfl rfl
        have z1 := Z.cell 1 1 rfl rfl
        have z2 := Z.cell 1 2 rfl rfl
        have z3 := Z.cell 2 0 rfl rfl
        have z4 := Z.cell 2 1 rfl rfl
        have z5 := Z.cell 2 2 rfl rfl
        have O9 := (O.out.seg (seg3 _ r1 (.slice v1 T9.l.length j1) (.slice v2 T9.r.length j2) (.slice v3 T9.ps.length j3)) (.inr (by have := Q1.out; have := HBL.out; omega))).seg (seg3 _ r2 (.int .i64 p) (.int .i64 t) (.int .i64 ss)) (.inr (by have := Q1.out; have := HBL.out; omega))
        have ne1 := HS2.out.ne HF.out (e := r1) (by have := HBL.out; omega) (by have := HBL.out; omega)
        have ne2 := HS2.out.ne HF.out (e := r2) (by have := HBL.out; omega) (by have := HBL.out; omega)
        have L8 := L2.out.poke3 (x := .slice v1 T9.l.length j1) (y := .slice v2 T9.r.length j2) (z := .slice v3 T9.ps.length j3) ne1
        have L9 := L8.poke3 (x := .int .i64 p) (y := .int .i64 t) (z := .int .i64 ss) ne2
        have L9 := hide L9
        clear L8 ne1 ne2 cx0 cx1 cx2 g0 g1 g2 d0 d1 d2 ex0 ex1 ex2 kq0 kq1 kq2 lq0 lq1 lq2 mq0 mq1 mq2 n0' n1' n2' hne1 hne2 hne3 hne4 hne5 hne6
        rename ∀ (a : Act) (w' : World), Code.wp _ Code.ret _ a w' → _ => HK
        refine HK _ _ ?_
        refine wp_ret ?_
        exact bodyPost_ret (v := .tuple #[.agg #[.slice v1 T9.l.length j1, .slice v2 T9.r.length j2, .slice v3 T9.ps.length j3], .agg #[.int .i64 p, .int .i64 t, .int .i64 ss]]) (by simp [results, Tryz.results87, go_sem, z0, z1, z2, z3, z4, z5]) rfl
          ⟨_, _, _, lo, hi, n1, h1, n2, h2, n3, h3, sv2, by rw [HSS.out], by have := Q1.out; have := HBL.out; omega, O9, L9.out, HS2.out.elim .inl (fun ⟨g, e, hg⟩ => .inr ⟨g, e, by have := HBL.out; omega⟩), Z.only⟩
    · have tp : (p != 0) = true := by simp [hp0]
      have hpcl := piece_le (v := v) hT.out
      have hfd := piece_found (v := v) hT.out.1 (by omega) (by omega)
      have CH := hide (fun (W : World) (hv' : CU W (.agg #[.slice b1 T.l.length k1, .slice b2 T.r.length k2, .slice b3 T.ps.length k3]) T.l T.r T.ps) => show Calls Tryz.prog 121 #[.agg #[.slice b1 T.l.length k1, .slice b2 T.r.length k2, .slice b3 T.ps.length k3], .agg #[.int .i64 p, .int .i64 t, .int .i64 T.s], .int .i64 (T.piece v).1, .int .i64 (T.piece v).2] W (RetMSt W (T.m p t v) p t (T.chosen p t v).s) from sCho_any _ T.l T.r T.ps p t T.s (T.piece v).1 (T.piece v).2 W W.heap.size hv' (Nat.le_refl _))
      have CP := hide (show Calls Tryz.prog 120 #[.agg #[.slice b1 T.l.length k1, .slice b2 T.r.length k2, .slice b3 T.ps.length k3], .int .i64 v] wr (RetII wr (T.piece v)) from sPieceOf_any _ T.l T.r T.ps v wr wr.heap.size V.out.cu (Nat.le_refl _))
      have CF := hide (fun (W : World) (hv' : CU W (.agg #[.slice b1 T.l.length k1, .slice b2 T.r.length k2, .slice b3 T.ps.length k3]) T.l T.r T.ps) => show Calls Tryz.prog 62 #[.agg #[.slice b1 T.l.length k1, .slice b2 T.r.length k2, .slice b3 T.ps.length k3], .int .i64 v] W (RetPB W (fndP T.ps v)) from sFindP_any _ T.l T.r T.ps v W W.heap.size hv' (Nat.le_refl _))
      have HMORE := hide (show T.more p t v = decide (t < (T.piece v).2 - (T.piece v).1) by unfold PS.more; rw [show decide (p ≠ 0) = true from decide_eq_true hp0]; simp)
      have HFD := hide (show (fndP T.ps v).2 = true → (T.piece v).2 = (T.piece v).1 from hfd)
      have HLESS := hide (fun (h : T.more p t v = true) => PS.less hT.out hp ht hvb h)
      obtain ⟨pc, hpcc⟩ : ∃ q, q = T.piece v := ⟨_, rfl⟩
      obtain ⟨fd, hfdd⟩ : ∃ q, q = fndP T.ps v := ⟨_, rfl⟩
      rw [← hpcc] at CP CH HMORE HFD hpc hpcl HLESS
      rw [← hfdd] at CF HFD
      clear hpcc hfdd hfd
      obtain ⟨pa, pb⟩ := pc
      obtain ⟨f0, f1⟩ := fd
      simp only at CP CF CH HMORE HFD hpc hpcl HLESS
      have hpcl := hide hpcl
      obtain ⟨sd, hsd⟩ : ∃ q, q = T.s := ⟨_, rfl⟩
      rw [← hsd] at X CH
      have HSD := hide hsd
      clear hsd cx0 cx1 cx2 g0 g1 g2 d0 d1 d2 ex0 ex1 ex2 hp0
      obtain ⟨cx0, cx1, cx2, g0, g1, g2, d0, d1, d2, ex0, ex1, ex2⟩ := KS.out _ _ _ _ _ X.out
      go_wp2_with fail
      go_at_call 120
      refine CP.out.mono ?_
      rintro e w2 ⟨rfl, hb⟩
      have hW0 := hide (show w.heap.size ≤ wr.heap.size from Nat.le_trans (X.out.low 3 rfl) (Nat.le_of_lt (X.out.lt 3 rfl)))
      have X := hide (X.out.up hb)
      have V := hide (V.out.below hb hW0.out)
      have LG := hide (LG.out.below hb)
      clear hb CP cx0 cx1 cx2 g0 g1 g2 d0 d1 d2 ex0 ex1 ex2
      obtain ⟨cx0, cx1, cx2, g0, g1, g2, d0, d1, d2, ex0, ex1, ex2⟩ := KS.out _ _ _ _ _ X.out
      go_wp2_with fail
      clear cx0 cx1 cx2 g0 g1 g2 d0 d1 d2 ex0 ex1 ex2
      go_at_call 62
      refine (CF.out _ V.out.cu).mono ?_
      rintro e w3 ⟨rfl, hb⟩
      have hW2 := hide (show w.heap.size ≤ w2.heap.size from Nat.le_trans (X.out.low 3 rfl) (Nat.le_of_lt (X.out.lt 3 rfl)))
      have X := hide (X.out.up hb)
      have V := hide (V.out.below hb hW2.out)
      have LG := hide (LG.out.below hb)
      clear hb CF hW0 hW2
      obtain ⟨cx0, cx1, cx2, g0, g1, g2, d0, d1, d2, ex0, ex1, ex2⟩ := KS.out _ _ _ _ _ X.out
      cases f1 with
      | true =>
        have hm : T.more p t v = false := by rw [HMORE.out]; have := HFD.out rfl; exact decide_eq_false (by omega)
        have hst0 := HSD.out
        subst hst0
        clear HMORE HFD CH hpcl HSD
        have hst := HST.out T gk hm
        have e1 : RS = T := hrun.out.symm.trans hst.1
        have e2 : RC = cs1 := by have := hrunc.out; rw [hst.2, List.append_nil] at this; exact this.symm
        have HT9 := hide (show T.crack v = T9 by rw [HT9.out, e1])
        have HC9 := hide (show (cs ++ cs1) ++ T.chg v q = cs9 by rw [HC9.out, e1, e2, List.append_assoc])
        clear hst e1 e2 hm HRS HRC hrun hrunc HRUN HRUNC HST hpc
        have CL := hide (fun (W : World) (hv' : CU W (.agg #[.slice b1 T.l.length k1, .slice b2 T.r.length k2, .slice b3 T.ps.length k3]) T.l T.r T.ps) (hl' : LB W lb base sv' (cs ++ cs1)) (hb' : base ≤ W.heap.size) => l7Crack_any (.agg #[.slice b1 T.l.length k1, .slice b2 T.r.length k2, .slice b3 T.ps.length k3]) T v q lb base sv' (cs ++ cs1) W 2001 hv' hT.out.2.1 (by omega) ⟨by omega, by omega⟩ hl' (by have := hlen.out; rw [List.length_append]; omega) hb')
        have HSS := hide (show (T.crack v).s = T.s from rfl)
        have HW9 := hide (show Wf (T.crack v).l (T.crack v).r (T.crack v).ps 2001 from (PS.crack_ok hT.out hvb).2.1)
        obtain ⟨ss, hss⟩ : ∃ q, q = T.s := ⟨_, rfl⟩
        rw [HT9.out, HC9.out] at CL
        rw [HT9.out, ← hss] at HSS
        rw [HT9.out] at HW9
        rw [← hss] at X
        clear HT9 HC9 hss hlen
        obtain ⟨kq0, kq1, kq2, lq0, lq1, lq2, mq0, mq1, mq2, n0', n1', n2'⟩ := KR.out _ _ _ _ _ X.out
        go_upto_region 10 with fail
        clear kq0 kq1 kq2 lq0 lq1 lq2 mq0 mq1 mq2 n0' n1' n2' cx0 cx1 cx2 g0 g1 g2 d0 d1 d2 ex0 ex1 ex2
        have X := hide X.out.drew
        have V := hide (V.out.drew (by have := HBL.out; have := X.out.lt 3 rfl; simp at this; omega))
        have LG := hide (LG.out.below (Below.refl _ _).drew)
        obtain ⟨cx0, cx1, cx2, g0, g1, g2, d0, d1, d2, ex0, ex1, ex2⟩ := KS.out _ _ _ _ _ X.out
        obtain ⟨kq0, kq1, kq2, lq0, lq1, lq2, mq0, mq1, mq2, n0', n1', n2'⟩ := KR.out _ _ _ _ _ X.out
        have hne1 : r1 ≠ r2 := by have := HBL.out; omega
        have hne2 : r2 ≠ r1 := by have := HBL.out; omega
        have hne3 : s1 ≠ r1 := by have := HBL.out; omega
        have hne4 : s1 ≠ r2 := by have := HBL.out; omega
        have hne5 : x1 ≠ r1 := by have := HBL.out; omega
        have hne6 : x1 ≠ r2 := by have := HBL.out; omega
        go_region_with (first
          | (go_at_call 122; refine (CL.out _ V.out.cu LG.out (by have := HBL.out; have := X.out.lt 3 rfl; omega)).mono ?_; rintro e wq ⟨x', y', z', lo, hi, n1, h1, n2, h2, n3, h3, sv2, rfl, q1, O, L2, hsv, ho⟩; obtain ⟨v1, j1, rfl⟩ := O.x.form; obtain ⟨v2, j2, rfl⟩ := O.y.form; obtain ⟨v3, j3, rfl⟩ := O.z.own.form; have Q1 := hide (show x1 + 1 ≤ lo from Nat.le_trans (X.out.lt 3 rfl) q1); replace X := hide (X.out.others ho (hSB.out.sub (by have := HBL.out; omega)) (fun e he => hSB.out.not HF.out (X.out.high e he) (HLT.out _ _ _ _ _ X.out e he))); have O := hide O; have L2 := hide L2; have HS2 := hide (hSB.out.next hsv (Nat.le_trans Q1.out O.out.top.1)); clear q1 hsv ho cx0 cx1 cx2 g0 g1 g2 d0 d1 d2 ex0 ex1 ex2 kq0 kq1 kq2 lq0 lq1 lq2 mq0 mq1 mq2 n0' n1' n2'; obtain ⟨cx0, cx1, cx2, g0, g1, g2, d0, d1, d2, ex0, ex1, ex2⟩ := KS.out _ _ _ _ _ X.out; obtain ⟨kq0, kq1, kq2, lq0, lq1, lq2, mq0, mq1, mq2, n0', n1', n2'⟩ := KR.out _ _ _ _ _ X.out))
        all_goals
          have Z := (X.out.put3c 1 rfl (.slice v1 T9.l.length j1) (.slice v2 T9.r.length j2) (.slice v3 T9.ps.length j3)).put3c 2 rfl (.int .i64 p) (.int .i64 t) (.int .i64 ss)
          have z0 := Z.cell 1 0 rfl rfl
          have z1 := Z.cell 1 1 rfl rfl
          have z2 := Z.cell 1 2 rfl rfl
          have z3 := Z.cell 2 0 rfl rfl
          have z4 := Z.cell 2 1 rfl rfl
          have z5 := Z.cell 2 2 rfl rfl
          have O9 := (O.out.seg (seg3 _ r1 (.slice v1 T9.l.length j1) (.slice v2 T9.r.length j2) (.slice v3 T9.ps.length j3)) (.inr (by have := Q1.out; have := HBL.out; omega))).seg (seg3 _ r2 (.int .i64 p) (.int .i64 t) (.int .i64 ss)) (.inr (by have := Q1.out; have := HBL.out; omega))
          have ne1 := HS2.out.ne HF.out (e := r1) (by have := HBL.out; omega) (by have := HBL.out; omega)
          have ne2 := HS2.out.ne HF.out (e := r2) (by have := HBL.out; omega) (by have := HBL.out; omega)
          have L8 := L2.out.poke3 (x := .slice v1 T9.l.length j1) (y := .slice v2 T9.r.length j2) (z := .slice v3 T9.ps.length j3) ne1
          have L9 := L8.poke3 (x := .int .i64 p) (y := .int .i64 t) (z := .int .i64 ss) ne2
          have L9 := hide L9
          clear L8 ne1 ne2 cx0 cx1 cx2 g0 g1 g2 d0 d1 d2 ex0 ex1 ex2 kq0 kq1 kq2 lq0 lq1 lq2 mq0 mq1 mq2 n0' n1' n2' hne1 hne2 hne3 hne4 hne5 hne6
          rename ∀ (a : Act) (w' : World), Code.wp _ Code.ret _ a w' → _ => HK
          refine HK _ _ ?_
          refine wp_ret ?_
          exact bodyPost_ret (v := .tuple #[.agg #[.slice v1 T9.l.length j1, .slice v2 T9.r.length j2, .slice v3 T9.ps.length j3], .agg #[.int .i64 p, .int .i64 t, .int .i64 ss]]) (by simp [results, Tryz.results87, go_sem, z0, z1, z2, z3, z4, z5]) rfl
            ⟨_, _, _, lo, hi, n1, h1, n2, h2, n3, h3, sv2, by rw [HSS.out], by have := Q1.out; have := HBL.out; omega, O9, L9.out, HS2.out.elim .inl (fun ⟨g, e, hg⟩ => .inr ⟨g, e, by have := HBL.out; omega⟩), Z.only⟩
      | false =>
        by_cases hlt : t < pb - pa
        · have hm : T.more p t v = true := by rw [HMORE.out]; exact decide_eq_true hlt
          have hw : wrap64 (pb - pa) = pb - pa := IntWalk.wrap64_in _ (by have := hpcl.out; omega)
          have tl : decide (pb - pa ≤ t) = false := decide_eq_false (by omega)
          have hmb := PS.m_in hT.out hp ht hm
          have hg1 := hide (show 1 ≤ gk by have := hpc.out; omega)
          have hless := hide (HLESS.out hm)
          have hT0 := PS.chosen_ok (p := p) (t := t) (v := v) hT.out
          have hT1 := PS.crack_ok (x := T.m p t v) hT0 (by omega)
          have hT2 := PS.crack_ok (x := T.m p t v + 1) hT1 (by omega)
          have HN := hide (show PS.run p t v (gk - 1) (T.step p t v) = RS by
            have := HRUN.out T (gk - 1) hm
            rw [show gk - 1 + 1 = gk by have := hg1.out; omega] at this
            rw [← this]; exact hrun.out)
          have HNC := hide (show (cs1 ++ T.chgs p t v q) ++ PS.runC p t v q (gk - 1) (T.step p t v) = RC by
            have := HRUNC.out T (gk - 1) hm
            rw [show gk - 1 + 1 = gk by have := hg1.out; omega] at this
            rw [List.append_assoc, ← this]; exact hrunc.out)
          have hcl1 := PS.chg_len (T.chosen p t v) (T.m p t v) q
          have hcl2 := PS.chg_len ((T.chosen p t v).crack (T.m p t v)) (T.m p t v + 1) q
          have HCH := hide (show T.chgs p t v q = (T.chosen p t v).chg (T.m p t v) q ++ ((T.chosen p t v).crack (T.m p t v)).chg (T.m p t v + 1) q from rfl)
          have HS2 := hide (show T.step p t v = ((T.chosen p t v).crack (T.m p t v)).crack (T.m p t v + 1) from rfl)
          have HSS1 := hide (show ((T.chosen p t v).crack (T.m p t v)).s = (T.chosen p t v).s from rfl)
          have HSS2 := hide (show (((T.chosen p t v).crack (T.m p t v)).crack (T.m p t v + 1)).s = (T.chosen p t v).s from rfl)
          have V0 := hide (show CS w.heap.size (x1 + 1) w3 (.agg #[.slice b1 T.l.length k1, .slice b2 T.r.length k2, .slice b3 T.ps.length k3]) (T.chosen p t v).l (T.chosen p t v).r (T.chosen p t v).ps from V.out)
          have CK1 := hide (fun (W : World) (hv' : CU W (.agg #[.slice b1 T.l.length k1, .slice b2 T.r.length k2, .slice b3 T.ps.length k3]) (T.chosen p t v).l (T.chosen p t v).r (T.chosen p t v).ps) (hl' : LB W lb base sv' (cs ++ cs1)) (hb' : base ≤ W.heap.size) => l7Crack_any (.agg #[.slice b1 T.l.length k1, .slice b2 T.r.length k2, .slice b3 T.ps.length k3]) (T.chosen p t v) (T.m p t v) q lb base sv' (cs ++ cs1) W 2001 hv' hT0.2.1 (by omega) ⟨by omega, by omega⟩ hl' (by have := hlen.out; rw [List.length_append]; omega) hb')
          have CK2 := hide (fun (W : World) (u' sv2 : Value) (hv' : CU W u' ((T.chosen p t v).crack (T.m p t v)).l ((T.chosen p t v).crack (T.m p t v)).r ((T.chosen p t v).crack (T.m p t v)).ps) (hl' : LB W lb base sv2 ((cs ++ cs1) ++ (T.chosen p t v).chg (T.m p t v) q)) (hb' : base ≤ W.heap.size) => l7Crack_any u' ((T.chosen p t v).crack (T.m p t v)) (T.m p t v + 1) q lb base sv2 ((cs ++ cs1) ++ (T.chosen p t v).chg (T.m p t v) q) W 2001 hv' hT1.2.1 (by omega) ⟨by omega, by omega⟩ hl' (by have := hlen.out; rw [List.length_append, List.length_append]; omega) hb')
          have HW1 := hide hT1.2.1
          have HW2 := hide hT2.2.1
          have HOK2 := hide (show ((T.chosen p t v).crack (T.m p t v)).crack (T.m p t v + 1) |>.Ok _ from hT2)
          obtain ⟨m, hmm⟩ : ∃ m', m' = T.m p t v := ⟨_, rfl⟩
          rw [← hmm] at CK1 CK2 HCH HS2 HSS1 HSS2 HW1 HW2 HOK2 hmb hcl1 hcl2 CH
          obtain ⟨s2, hs2⟩ : ∃ m', m' = (T.chosen p t v).s := ⟨_, rfl⟩
          rw [← hs2] at CH HSS1 HSS2
          obtain ⟨T1, hT1'⟩ : ∃ m', m' = (T.chosen p t v).crack m := ⟨_, rfl⟩
          rw [← hT1'] at CK1 CK2 HCH HS2 HSS1 HSS2 HW1 HW2 HOK2 hcl2
          obtain ⟨T2, hT2'⟩ : ∃ m', m' = T1.crack (m + 1) := ⟨_, rfl⟩
          rw [← hT2'] at CK2 HS2 HSS2 HW2 HOK2
          obtain ⟨ch1, hch1⟩ : ∃ m', m' = (T.chosen p t v).chg m q := ⟨_, rfl⟩
          rw [← hch1] at CK1 CK2 HCH hcl1
          obtain ⟨ch2, hch2⟩ : ∃ m', m' = T1.chg (m + 1) q := ⟨_, rfl⟩
          rw [← hch2] at CK2 HCH hcl2
          rw [HS2.out] at HN HNC hless
          rw [HCH.out] at HNC
          have hlen2 := hide (show (cs1 ++ (ch1 ++ ch2)).length + 2 * (gk - 1) ≤ 128 by have := hlen.out; have := hg1.out; simp only [List.length_append]; omega)
          have hwm : wrap64 (m + 1) = m + 1 := IntWalk.wrap64_in _ (by omega)
          have hwm2 : IntKind.i64.wrap (m + 1) = m + 1 := by rw [IntWalk.i64_left, hwm]
          have hpc2 := hide (show (T2.piece v).2 - (T2.piece v).1 ≤ ((gk - 1 : Nat) : Int) by have h1 := hless.out; have h2 := hpc.out; have h3 := hg1.out; omega)
          clear HLESS hmm hs2 hT1' hT2' hch1 hch2 hT0 hT1 hT2 HMORE HFD HS2 HCH hm hlt hmb hcl1 hcl2 hless hlen hpc HRUN HRUNC HST HRS HRC hrun hrunc HT9 HC9 HSD V hpcl
          have V := V0
          clear V0
          go_wp2_with fail
          go_at_call 121
          refine (CH.out _ V.out.cu).mono ?_
          rintro e w4 ⟨rfl, hb⟩
          have hW3 := hide (show w.heap.size ≤ w3.heap.size from Nat.le_trans (X.out.low 3 rfl) (Nat.le_of_lt (X.out.lt 3 rfl)))
          have X := hide (X.out.up hb)
          have V := hide (V.out.below hb hW3.out)
          have LG := hide (LG.out.below hb)
          clear hb CH cx0 cx1 cx2 g0 g1 g2 d0 d1 d2 ex0 ex1 ex2 hW3 hw tl
          obtain ⟨cx0, cx1, cx2, g0, g1, g2, d0, d1, d2, ex0, ex1, ex2⟩ := KS.out _ _ _ _ _ X.out
          go_upto_region 8 with fail
          clear cx0 cx1 cx2 g0 g1 g2 d0 d1 d2 ex0 ex1 ex2
          have X := hide (X.out.put3c 0 rfl (.int .i64 p) (.int .i64 t) (.int .i64 s2))
          have V := hide (V.out.seg ((seg3 w4 s1 (.int .i64 p) (.int .i64 t) (.int .i64 s2)).mono (by have := HBL.out; omega) (by have := HBL.out; omega)))
          have LG := hide (LG.out.poke3 (g := s1) (x := .int .i64 p) (y := .int .i64 t) (z := .int .i64 s2) (hSB.out.ne HF.out (by have := HBL.out; omega) (by have := HBL.out; omega)))
          simp only [List.set_cons_zero] at X
          obtain ⟨w5, hw5⟩ : ∃ q, q = ((w4.setCell ⟨s1, 0, none⟩ (.int .i64 p)).setCell ⟨s1, 1, none⟩ (.int .i64 t)).setCell ⟨s1, 2, none⟩ (.int .i64 s2) := ⟨_, rfl⟩
          rw [← hw5] at X V LG
          rw [← hw5]
          clear hw5
          obtain ⟨cx0, cx1, cx2, g0, g1, g2, d0, d1, d2, ex0, ex1, ex2⟩ := KS.out _ _ _ _ _ X.out
          go_wp2_with fail
          clear cx0 cx1 cx2 g0 g1 g2 d0 d1 d2 ex0 ex1 ex2
          go_at_call 122
          refine (CK1.out _ V.out.cu LG.out (by have := HBL.out; have := X.out.lt 3 rfl; omega)).mono ?_
          rintro e w6 ⟨x', y', z', lo, hi, n1, h1, n2, h2, n3, h3, sv2, rfl, q1, O, L2, hsv, ho⟩
          obtain ⟨v1, j1, rfl⟩ := O.x.form
          obtain ⟨v2, j2, rfl⟩ := O.y.form
          obtain ⟨v3, j3, rfl⟩ := O.z.own.form
          have Q1 := hide (show x1 + 1 ≤ lo from Nat.le_trans (X.out.lt 3 rfl) q1)
          have X := hide (X.out.others ho (hSB.out.sub (by have := HBL.out; omega)) (fun e he => hSB.out.not HF.out (X.out.high e he) (HLT.out _ _ _ _ _ X.out e he)))
          have HS2 := hide (hSB.out.next hsv (Nat.le_trans Q1.out O.top.1))
          have O := hide O
          have LG := hide L2
          clear q1 hsv ho L2 CK1 V hSB
          obtain ⟨cx0, cx1, cx2, g0, g1, g2, d0, d1, d2, ex0, ex1, ex2⟩ := KS.out _ _ _ _ _ X.out
          go_upto_region 9 with fail
          clear cx0 cx1 cx2 g0 g1 g2 d0 d1 d2 ex0 ex1 ex2
          have X := hide (X.out.put3c 3 rfl (.slice v1 T1.l.length j1) (.slice v2 T1.r.length j2) (.slice v3 T1.ps.length j3))
          have V := hide (CS.of_oc (a := w.heap.size) (b := x1 + 1) (O.out.seg (seg3 w6 x1 (.slice v1 T1.l.length j1) (.slice v2 T1.r.length j2) (.slice v3 T1.ps.length j3)) (.inr Q1.out)) Q1.out HW1.out (by omega))
          have LG := hide (LG.out.poke3 (g := x1) (x := .slice v1 T1.l.length j1) (y := .slice v2 T1.r.length j2) (z := .slice v3 T1.ps.length j3) (HS2.out.ne HF.out (by have := HBL.out; omega) (by have := HBL.out; omega)))
          simp only [List.set_cons_zero, List.set_cons_succ] at X
          obtain ⟨w7, hw7⟩ : ∃ q, q = ((w6.setCell ⟨x1, 0, none⟩ (.slice v1 T1.l.length j1)).setCell ⟨x1, 1, none⟩ (.slice v2 T1.r.length j2)).setCell ⟨x1, 2, none⟩ (.slice v3 T1.ps.length j3) := ⟨_, rfl⟩
          rw [← hw7] at X V LG
          rw [← hw7]
          clear hw7 O
          obtain ⟨cx0, cx1, cx2, g0, g1, g2, d0, d1, d2, ex0, ex1, ex2⟩ := KS.out _ _ _ _ _ X.out
          go_wp2_with fail
          clear cx0 cx1 cx2 g0 g1 g2 d0 d1 d2 ex0 ex1 ex2
          go_at_call 122
          refine (CK2.out _ _ _ V.out.cu LG.out (by have := HBL.out; have := X.out.lt 3 rfl; omega)).mono ?_
          rintro e w8 ⟨x', y', z', lo, hi, n1, h1, n2, h2, n3, h3, sv3, rfl, q1, O, L2, hsv, ho⟩
          obtain ⟨u1, i1, rfl⟩ := O.x.form
          obtain ⟨u2, i2, rfl⟩ := O.y.form
          obtain ⟨u3, i3, rfl⟩ := O.z.own.form
          have Q2 := hide (show x1 + 1 ≤ lo from Nat.le_trans (X.out.lt 3 rfl) q1)
          have X := hide (X.out.others ho (HS2.out.sub (by have := HBL.out; omega)) (fun e he => HS2.out.not HF.out (X.out.high e he) (HLT.out _ _ _ _ _ X.out e he)))
          have HS3 := hide (HS2.out.next hsv (Nat.le_trans Q2.out O.top.1))
          have O := hide O
          have LG := hide L2
          clear q1 hsv ho L2 CK2 V HS2
          obtain ⟨cx0, cx1, cx2, g0, g1, g2, d0, d1, d2, ex0, ex1, ex2⟩ := KS.out _ _ _ _ _ X.out
          go_wp2_with fail
          clear cx0 cx1 cx2 g0 g1 g2 d0 d1 d2 ex0 ex1 ex2
          have X := hide (X.out.put3c 3 rfl (.slice u1 T2.l.length i1) (.slice u2 T2.r.length i2) (.slice u3 T2.ps.length i3))
          have V := hide (CS.of_oc (a := w.heap.size) (b := x1 + 1) (O.out.seg (seg3 w8 x1 (.slice u1 T2.l.length i1) (.slice u2 T2.r.length i2) (.slice u3 T2.ps.length i3)) (.inr Q2.out)) Q2.out HW2.out (by omega))
          have LG := hide (LG.out.poke3 (g := x1) (x := .slice u1 T2.l.length i1) (y := .slice u2 T2.r.length i2) (z := .slice u3 T2.ps.length i3) (HS3.out.ne HF.out (by have := HBL.out; omega) (by have := HBL.out; omega)))
          go_roundg (gk - 1)
          case measure => have := hg1.out; omega
          case rel => exact ⟨_, _, _, sv3, T2, cs1 ++ (ch1 ++ ch2), _, HOK2.out, hpc2.out, HN.out, HNC.out, hlen2.out, by rw [HSS2.out]; exact X.out, V.out, by show LB _ _ _ _ _; have := LG.out; simpa only [List.append_assoc] using this, HS3.out⟩
        · have hm : T.more p t v = false := by rw [HMORE.out]; exact decide_eq_false hlt
          have hw : wrap64 (pb - pa) = pb - pa := IntWalk.wrap64_in _ (by have := hpcl.out; omega)
          have tl : decide (pb - pa ≤ t) = true := decide_eq_true (by omega)
          have hst0 := HSD.out
          subst hst0
          clear HMORE HFD CH hpcl HSD hlt
          have hst := HST.out T gk hm
          have e1 : RS = T := hrun.out.symm.trans hst.1
          have e2 : RC = cs1 := by have := hrunc.out; rw [hst.2, List.append_nil] at this; exact this.symm
          have HT9 := hide (show T.crack v = T9 by rw [HT9.out, e1])
          have HC9 := hide (show (cs ++ cs1) ++ T.chg v q = cs9 by rw [HC9.out, e1, e2, List.append_assoc])
          clear hst e1 e2 hm HRS HRC hrun hrunc HRUN HRUNC HST hpc
          have CL := hide (fun (W : World) (hv' : CU W (.agg #[.slice b1 T.l.length k1, .slice b2 T.r.length k2, .slice b3 T.ps.length k3]) T.l T.r T.ps) (hl' : LB W lb base sv' (cs ++ cs1)) (hb' : base ≤ W.heap.size) => l7Crack_any (.agg #[.slice b1 T.l.length k1, .slice b2 T.r.length k2, .slice b3 T.ps.length k3]) T v q lb base sv' (cs ++ cs1) W 2001 hv' hT.out.2.1 (by omega) ⟨by omega, by omega⟩ hl' (by have := hlen.out; rw [List.length_append]; omega) hb')
          have HSS := hide (show (T.crack v).s = T.s from rfl)
          have HW9 := hide (show Wf (T.crack v).l (T.crack v).r (T.crack v).ps 2001 from (PS.crack_ok hT.out hvb).2.1)
          obtain ⟨ss, hss⟩ : ∃ q, q = T.s := ⟨_, rfl⟩
          rw [HT9.out, HC9.out] at CL
          rw [HT9.out, ← hss] at HSS
          rw [HT9.out] at HW9
          rw [← hss] at X
          clear HT9 HC9 hss hlen
          obtain ⟨kq0, kq1, kq2, lq0, lq1, lq2, mq0, mq1, mq2, n0', n1', n2'⟩ := KR.out _ _ _ _ _ X.out
          go_upto_region 10 with fail
          clear kq0 kq1 kq2 lq0 lq1 lq2 mq0 mq1 mq2 n0' n1' n2' cx0 cx1 cx2 g0 g1 g2 d0 d1 d2 ex0 ex1 ex2
          have X := hide X.out.drew
          have V := hide (V.out.drew (by have := HBL.out; have := X.out.lt 3 rfl; simp at this; omega))
          have LG := hide (LG.out.below (Below.refl _ _).drew)
          obtain ⟨cx0, cx1, cx2, g0, g1, g2, d0, d1, d2, ex0, ex1, ex2⟩ := KS.out _ _ _ _ _ X.out
          obtain ⟨kq0, kq1, kq2, lq0, lq1, lq2, mq0, mq1, mq2, n0', n1', n2'⟩ := KR.out _ _ _ _ _ X.out
          have hne1 : r1 ≠ r2 := by have := HBL.out; omega
          have hne2 : r2 ≠ r1 := by have := HBL.out; omega
          have hne3 : s1 ≠ r1 := by have := HBL.out; omega
          have hne4 : s1 ≠ r2 := by have := HBL.out; omega
          have hne5 : x1 ≠ r1 := by have := HBL.out; omega
          have hne6 : x1 ≠ r2 := by have := HBL.out; omega
          go_region_with (first
            | (go_at_call 122; refine (CL.out _ V.out.cu LG.out (by have := HBL.out; have := X.out.lt 3 rfl; omega)).mono ?_; rintro e wq ⟨x', y', z', lo, hi, n1, h1, n2, h2, n3, h3, sv2, rfl, q1, O, L2, hsv, ho⟩; obtain ⟨v1, j1, rfl⟩ := O.x.form; obtain ⟨v2, j2, rfl⟩ := O.y.form; obtain ⟨v3, j3, rfl⟩ := O.z.own.form; have Q1 := hide (show x1 + 1 ≤ lo from Nat.le_trans (X.out.lt 3 rfl) q1); replace X := hide (X.out.others ho (hSB.out.sub (by have := HBL.out; omega)) (fun e he => hSB.out.not HF.out (X.out.high e he) (HLT.out _ _ _ _ _ X.out e he))); have O := hide O; have L2 := hide L2; have HS2 := hide (hSB.out.next hsv (Nat.le_trans Q1.out O.out.top.1)); clear q1 hsv ho cx0 cx1 cx2 g0 g1 g2 d0 d1 d2 ex0 ex1 ex2 kq0 kq1 kq2 lq0 lq1 lq2 mq0 mq1 mq2 n0' n1' n2'; obtain ⟨cx0, cx1, cx2, g0, g1, g2, d0, d1, d2, ex0, ex1, ex2⟩ := KS.out _ _ _ _ _ X.out; obtain ⟨kq0, kq1, kq2, lq0, lq1, lq2, mq0, mq1, mq2, n0', n1', n2'⟩ := KR.out _ _ _ _ _ X.out))
          all_goals
            have Z := (X.out.put3c 1 rfl (.slice v1 T9.l.length j1) (.slice v2 T9.r.length j2) (.slice v3 T9.ps.length j3)).put3c 2 rfl (.int .i64 p) (.int .i64 t) (.int .i64 ss)
            have z0 := Z.cell 1 0 rfl rfl
            have z1 := Z.cell 1 1 rfl rfl
            have z2 := Z.cell 1 2 rfl rfl
            have z3 := Z.cell 2 0 rfl rfl
            have z4 := Z.cell 2 1 rfl rfl
            have z5 := Z.cell 2 2 rfl rfl
            have O9 := (O.out.seg (seg3 _ r1 (.slice v1 T9.l.length j1) (.slice v2 T9.r.length j2) (.slice v3 T9.ps.length j3)) (.inr (by have := Q1.out; have := HBL.out; omega))).seg (seg3 _ r2 (.int .i64 p) (.int .i64 t) (.int .i64 ss)) (.inr (by have := Q1.out; have := HBL.out; omega))
            have ne1 := HS2.out.ne HF.out (e := r1) (by have := HBL.out; omega) (by have := HBL.out; omega)
            have ne2 := HS2.out.ne HF.out (e := r2) (by have := HBL.out; omega) (by have := HBL.out; omega)
            have L8 := L2.out.poke3 (x := .slice v1 T9.l.length j1) (y := .slice v2 T9.r.length j2) (z := .slice v3 T9.ps.length j3) ne1
            have L9 := L8.poke3 (x := .int .i64 p) (y := .int .i64 t) (z := .int .i64 ss) ne2
            have L9 := hide L9
            clear L8 ne1 ne2 cx0 cx1 cx2 g0 g1 g2 d0 d1 d2 ex0 ex1 ex2 kq0 kq1 kq2 lq0 lq1 lq2 mq0 mq1 mq2 n0' n1' n2' hne1 hne2 hne3 hne4 hne5 hne6
            rename ∀ (a : Act) (w' : World), Code.wp _ Code.ret _ a w' → _ => HK
            refine HK _ _ ?_
            refine wp_ret ?_
            exact bodyPost_ret (v := .tuple #[.agg #[.slice v1 T9.l.length j1, .slice v2 T9.r.length j2, .slice v3 T9.ps.length j3], .agg #[.int .i64 p, .int .i64 t, .int .i64 ss]]) (by simp [results, Tryz.results87, go_sem, z0, z1, z2, z3, z4, z5]) rfl
              ⟨_, _, _, lo, hi, n1, h1, n2, h2, n3, h3, sv2, by rw [HSS.out], by have := Q1.out; have := HBL.out; omega, O9, L9.out, HS2.out.elim .inl (fun ⟨g, e, hg⟩ => .inr ⟨g, e, by have := HBL.out; omega⟩), Z.only⟩

end Go.Proofs.YtajfhalalnlejaaGreat

/- The charges of a run, in numbers: each number of swaps is small (promises 4, 6). No function of the program. -/
namespace Go.Proofs.YtajfhalalnlejaaGreat
set_option linter.unusedSimpArgs false
set_option linter.unusedVariables false
set_option maxRecDepth 100000

theorem PS.chg_n {S : PS} {n : Nat} {v q : Int} (h : S.Ok n) (hv : -1000 ≤ v ∧ v ≤ 1000) : ∀ c ∈ S.chg v q, 0 ≤ c.n ∧ c.n ≤ 1048576 := by
  intro c hc
  obtain ⟨-, s1, -⟩ := crack_Wf (v := v) h.2.1 (by omega) ⟨by omega, by omega⟩
  unfold PS.chg at hc
  split at hc
  · obtain rfl : c = _ := List.mem_singleton.1 hc
    exact ⟨Int.natCast_nonneg _, by show ((crS S.l S.r S.ps v).length : Int) ≤ 1048576; omega⟩
  · simp at hc

theorem PS.runC_n {p t v q : Int} (hp : 0 ≤ p ∧ p ≤ 2) (ht : 1 ≤ t ∧ t ≤ 64) (hv : -1000 ≤ v ∧ v ≤ 1000) : ∀ (k n : Nat) (S : PS), S.Ok n → ∀ c ∈ PS.runC p t v q k S, 0 ≤ c.n ∧ c.n ≤ 1048576
  | 0, n, S, h, c, hc => by rw [PS.runC] at hc; simp at hc
  | k + 1, n, S, h, c, hc => by
    rw [PS.runC] at hc
    by_cases hm : S.more p t v = true
    · rw [if_pos hm] at hc
      have hb := PS.m_in h hp ht hm
      have h0 := PS.chosen_ok (p := p) (t := t) (v := v) h
      have h1 := PS.crack_ok (x := S.m p t v) h0 ⟨by omega, by omega⟩
      rcases List.mem_append.1 hc with hc | hc
      · unfold PS.chgs at hc
        rcases List.mem_append.1 hc with hc | hc
        · exact PS.chg_n h0 ⟨by omega, by omega⟩ c hc
        · exact PS.chg_n h1 ⟨by omega, by omega⟩ c hc
      · exact PS.runC_n hp ht hv k _ _ (PS.step_ok h hp ht hm) c hc
    · rw [if_neg hm] at hc; simp at hc

/-- What dividing by a policy leaves is valid. -/
theorem cwF_run {l r : List Int} {ps : List Pv} {p t s v : Int} (hwf : Wf l r ps 1048576) (h : cwOk l r ps p t s v = true) : (cwF l r ps p t s v).Ok (64 * 2097152 + 1048576) ∧ cwF l r ps p t s v = (PS.run p t v 64 ⟨l, r, ps, s, 0⟩).crack v := by
  have e : cwF l r ps p t s v = (PS.run p t v 64 ⟨l, r, ps, s, 0⟩).crack v := by unfold cwF; rw [if_pos h]
  unfold cwOk at h
  simp only [Bool.and_eq_true, decide_eq_true_eq] at h
  obtain ⟨⟨h1, h2⟩, h3⟩ := h
  obtain ⟨a1, a2, a3, a4, a5, a6⟩ := of_decide_eq_true h2
  have h0 : (⟨l, r, ps, s, 0⟩ : PS).Ok 0 := ⟨h1, wf_ck hwf h1, a5, a6, Nat.le_refl _⟩
  have hr := PS.run_ok (v := v) ⟨a1, a2⟩ ⟨a3, a4⟩ 64 0 _ h0
  rw [e]
  exact ⟨by have := PS.crack_ok (x := v) hr h3; rwa [Nat.zero_add] at this, rfl⟩

end Go.Proofs.YtajfhalalnlejaaGreat

/- What CrackWith of the reference returns (promise 4). Written by gen_cws.py. -/
namespace Go.Proofs.YtajfhalalnlejaaGreat
open Go.RowKit Go.ChangeShapes
set_option linter.unusedSimpArgs false
set_option linter.unusedVariables false
set_option maxRecDepth 100000

set_option maxHeartbeats 20000000 in
theorem sCw_any (u : Value) (l r : List Int) (ps : List Pv) (p t s v : Int) (w : World) (hv : CU w u l r ps) (hwf : Wf l r ps 1048576) (hvw : I64 v) :
    Calls Tryz.prog 31 #[u, .agg #[.int .i64 p, .int .i64 t, .int .i64 s], .int .i64 v] w (RetCW w (cwF l r ps p t s v) p t) := by
  obtain ⟨a1, c1, a2, c2, a3, c3, rfl, -⟩ := Ck.form hv
  have X := hide ((((Kn.two w #[.slice a1 l.length c1, .slice a2 r.length c2, .slice a3 ps.length c3] #[.int .i64 p, .int .i64 t, .int .i64 s] 33 34).alloc #[.slice none 0 0, .slice none 0 0, .slice none 0 0] 33).alloc #[.int .i64 0, .int .i64 0, .int .i64 0] 34))
  obtain ⟨w1, hw1⟩ : ∃ w1, w1 = (((w.alloc (.cells #[.slice a1 l.length c1, .slice a2 r.length c2, .slice a3 ps.length c3] 33)).alloc (.cells #[.int .i64 p, .int .i64 t, .int .i64 s] 34)).alloc (.cells #[.slice none 0 0, .slice none 0 0, .slice none 0 0] 33)).alloc (.cells #[.int .i64 0, .int .i64 0, .int .i64 0] 34) := ⟨_, rfl⟩
  rw [← hw1] at X
  simp only [List.cons_append, List.nil_append, World.size_alloc] at X
  have V := hide (hv.below X.out.below)
  have hz := hide (show w1.heap.size = w.heap.size + 1 + 1 + 1 + 1 by rw [hw1]; simp)
  clear hv
  have CC := hide (fun (W : World) (h : CU W (.agg #[.slice a1 l.length c1, .slice a2 r.length c2, .slice a3 ps.length c3]) l r ps) => sCopy_any _ l r ps W W.heap.size h (Nat.le_refl _) hwf.1 hwf.2.1 (by have := hwf.2.2.1; omega))
  obtain ⟨q, hq⟩ : ∃ q, q = isCk l r ps := ⟨_, rfl⟩
  obtain ⟨z0, hzz⟩ : ∃ q, q = isSet p t s := ⟨_, rfl⟩
  have HQ := hide (fun (h : q = true) => show isCk l r ps = true from hq.symm.trans h)
  have HZ := hide (fun (h : z0 = true) => show 0 ≤ p ∧ p ≤ 2 ∧ 1 ≤ t ∧ t ≤ 64 ∧ 0 ≤ s ∧ s ≤ 10006 from of_decide_eq_true (hzz.symm.trans h))
  have HCK := hide (fun (W : World) (h : CU W (.agg #[.slice a1 l.length c1, .slice a2 r.length c2, .slice a3 ps.length c3]) l r ps) => show Calls Tryz.prog 26 #[.agg #[.slice a1 l.length c1, .slice a2 r.length c2, .slice a3 ps.length c3]] W (RetB1 W q) by rw [hq]; exact sIsCk_any _ l r ps W W.heap.size h (Nat.le_refl _))
  have HCS := hide (fun (W : World) => show Calls Tryz.prog 27 #[.agg #[.int .i64 p, .int .i64 t, .int .i64 s]] W (RetB1 W z0) by rw [hzz]; exact sIsSet_any p t s W)
  obtain ⟨S9, hS9⟩ : ∃ q, q = cwF l r ps p t s v := ⟨_, rfl⟩
  have NO := hide (fun (h : ¬(q = true ∧ z0 = true ∧ -1000 ≤ v ∧ v ≤ 1000)) => show S9 = ⟨l, r, ps, s, 0⟩ by
    rw [hS9]
    unfold cwF
    rw [if_neg]
    unfold cwOk
    simp only [Bool.and_eq_true, decide_eq_true_eq, ← hq, ← hzz]
    exact fun h2 => h ⟨h2.1.1, h2.1.2, h2.2⟩)
  obtain ⟨RS, hRS⟩ : ∃ q, q = PS.run p t v 64 ⟨l, r, ps, s, 0⟩ := ⟨_, rfl⟩
  have YES := hide (fun (h1 : q = true) (h2 : z0 = true) (h3 : -1000 ≤ v ∧ v ≤ 1000) => show S9 = RS.crack v by
    rw [hS9, hRS]
    unfold cwF
    rw [if_pos]
    unfold cwOk
    rw [← hq, ← hzz, h1, h2, decide_eq_true h3]
    rfl)
  have HRS := hide hRS
  rw [← hS9]
  have HWF := hide hwf
  clear hq hzz hS9 hRS hwf
  have d0 : w1.cell? ⟨w.heap.size, 0, none⟩ = some (.slice a1 l.length c1) := X.out.cell 0 0 rfl rfl
  have d1 : w1.cell? ⟨w.heap.size, 1, none⟩ = some (.slice a2 r.length c2) := X.out.cell 0 1 rfl rfl
  have d2 : w1.cell? ⟨w.heap.size, 2, none⟩ = some (.slice a3 ps.length c3) := X.out.cell 0 2 rfl rfl
  rw [hw1] at d0 d1 d2
  go_enter Tryz.func31, Tryz.ntmps31
  go_wp2_with fail
  rw [← hw1]
  clear hw1 d0 d1 d2
  obtain ⟨r2, hr2⟩ : ∃ q, q = w.heap.size + 1 + 1 + 1 := ⟨_, rfl⟩
  obtain ⟨r1, hr1⟩ : ∃ q, q = w.heap.size + 1 + 1 := ⟨_, rfl⟩
  obtain ⟨s1, hs1⟩ : ∃ q, q = w.heap.size + 1 := ⟨_, rfl⟩
  obtain ⟨h0, hh0⟩ : ∃ q, q = w.heap.size := ⟨_, rfl⟩
  have HBL0 := hide (show h0 < s1 ∧ s1 < r1 ∧ r1 < r2 ∧ w1.heap.size = r2 + 1 ∧ w.heap.size = h0 by have := hz.out; omega)
  rw [← hr2, ← hr1, ← hs1, ← hh0] at X
  rw [← hr2, ← hr1, ← hs1, ← hh0]
  clear hr2 hr1 hs1 hh0 hz
  have KA := hide (fun (W : World) (h : Kn w W [(h0, #[.slice a1 l.length c1, .slice a2 r.length c2, .slice a3 ps.length c3], 33), (s1, #[.int .i64 p, .int .i64 t, .int .i64 s], 34), (r1, #[.slice none 0 0, .slice none 0 0, .slice none 0 0], 33), (r2, #[.int .i64 0, .int .i64 0, .int .i64 0], 34)]) => show W.cell? ⟨h0, 0, none⟩ = some (.slice a1 l.length c1) ∧ W.cell? ⟨h0, 1, none⟩ = some (.slice a2 r.length c2) ∧ W.cell? ⟨h0, 2, none⟩ = some (.slice a3 ps.length c3) ∧ W.cell? ⟨s1, 0, none⟩ = some (.int .i64 p) ∧ W.cell? ⟨s1, 1, none⟩ = some (.int .i64 t) ∧ W.cell? ⟨s1, 2, none⟩ = some (.int .i64 s) ∧ W.cell? ⟨r1, 0, none⟩ = some (.slice none 0 0) ∧ W.cell? ⟨r1, 1, none⟩ = some (.slice none 0 0) ∧ W.cell? ⟨r1, 2, none⟩ = some (.slice none 0 0) ∧ W.cell? ⟨r2, 0, none⟩ = some (.int .i64 0) ∧ W.cell? ⟨r2, 1, none⟩ = some (.int .i64 0) ∧ W.cell? ⟨r2, 2, none⟩ = some (.int .i64 0) ∧ W.frozen? ⟨r1, 0, none⟩ = false ∧ W.frozen? ⟨r1, 1, none⟩ = false ∧ W.frozen? ⟨r1, 2, none⟩ = false ∧ W.frozen? ⟨r2, 0, none⟩ = false ∧ W.frozen? ⟨r2, 1, none⟩ = false ∧ W.frozen? ⟨r2, 2, none⟩ = false from ⟨h.cell 0 0 rfl rfl, h.cell 0 1 rfl rfl, h.cell 0 2 rfl rfl, h.cell 1 0 rfl rfl, h.cell 1 1 rfl rfl, h.cell 1 2 rfl rfl, h.cell 2 0 rfl rfl, h.cell 2 1 rfl rfl, h.cell 2 2 rfl rfl, h.cell 3 0 rfl rfl, h.cell 3 1 rfl rfl, h.cell 3 2 rfl rfl, h.free 2 0 rfl, h.free 2 1 rfl, h.free 2 2 rfl, h.free 3 0 rfl, h.free 3 1 rfl, h.free 3 2 rfl⟩)
  go_at_call 26
  refine (HCK.out _ V.out).mono ?_
  rintro e w4 ⟨rfl, hb⟩
  have X := hide (X.out.up hb)
  have V := hide (V.out.below hb)
  clear hb
  cases q with
  | false =>
    obtain rfl := NO.out (by simp)
    have hne1 : r1 ≠ r2 := by have := HBL0.out; omega
    have hne2 : r2 ≠ r1 := by have := HBL0.out; omega
    have hne3 : s1 ≠ r1 := by have := HBL0.out; omega
    have hne4 : s1 ≠ r2 := by have := HBL0.out; omega
    have hne5 : h0 ≠ r1 := by have := HBL0.out; omega
    have hne6 : h0 ≠ r2 := by have := HBL0.out; omega
    obtain ⟨u0, u1, u2, v0, v1, v2, kq0, kq1, kq2, lq0, lq1, lq2, mq0, mq1, mq2, n0', n1', n2'⟩ := KA.out _ X.out
    go_upto_region 2 with fail
    clear u0 u1 u2 v0 v1 v2 kq0 kq1 kq2 lq0 lq1 lq2 mq0 mq1 mq2 n0' n1' n2'
    have X := hide X.out.drew
    have V := hide (V.out.below (Below.refl _ _).drew)
    obtain ⟨u0, u1, u2, v0, v1, v2, kq0, kq1, kq2, lq0, lq1, lq2, mq0, mq1, mq2, n0', n1', n2'⟩ := KA.out _ X.out
    go_region_with (first
      | (go_at_call 61; refine (CC.out _ V.out).mono ?_; rintro e wq ⟨x', y', z', lo, hi, n1, h1, n2, h2, n3, h3, rfl, q1, q2, O, hb⟩; obtain ⟨b1, k1, rfl⟩ := O.x.form; obtain ⟨b2, k2, rfl⟩ := O.y.form; obtain ⟨b3, k3, rfl⟩ := O.z.own.form; have hlo := hide (show r2 + 1 ≤ lo from Nat.le_trans (Nat.succ_le_of_lt (X.out.lt 3 rfl)) q1); replace X := hide (X.out.up hb); have O := hide O; clear hb q1 q2 u0 u1 u2 v0 v1 v2 kq0 kq1 kq2 lq0 lq1 lq2 mq0 mq1 mq2 n0' n1' n2'; obtain ⟨u0, u1, u2, v0, v1, v2, kq0, kq1, kq2, lq0, lq1, lq2, mq0, mq1, mq2, n0', n1', n2'⟩ := KA.out _ X.out))
    all_goals
      have Z := (X.out.put3c 2 rfl (.slice b1 l.length k1) (.slice b2 r.length k2) (.slice b3 ps.length k3)).put3c 3 rfl (.int .i64 p) (.int .i64 t) (.int .i64 s)
      have z0 := Z.cell 2 0 rfl rfl
      have z1 := Z.cell 2 1 rfl rfl
      have z2 := Z.cell 2 2 rfl rfl
      have z3 := Z.cell 3 0 rfl rfl
      have z4 := Z.cell 3 1 rfl rfl
      have z5 := Z.cell 3 2 rfl rfl
      have O9 := (O.out.seg (seg3 _ r1 (.slice b1 l.length k1) (.slice b2 r.length k2) (.slice b3 ps.length k3)) (.inr (by have := hlo.out; have := HBL0.out; omega))).seg (seg3 _ r2 (.int .i64 p) (.int .i64 t) (.int .i64 s)) (.inr (by have := hlo.out; have := HBL0.out; omega))
      clear u0 u1 u2 v0 v1 v2 kq0 kq1 kq2 lq0 lq1 lq2 mq0 mq1 mq2 n0' n1' n2'
      rename ∀ (a : Act) (w' : World), Code.wp _ Code.ret _ a w' → _ => HK
      refine HK _ _ ?_
      refine wp_ret ?_
      exact bodyPost_ret (v := .tuple #[.agg #[.slice b1 l.length k1, .slice b2 r.length k2, .slice b3 ps.length k3], .agg #[.int .i64 p, .int .i64 t, .int .i64 s], .int .i64 0]) (by simp [results, Tryz.results31, go_sem, z0, z1, z2, z3, z4, z5]) rfl
        ⟨_, _, _, lo, hi, n1, h1, n2, h2, n3, h3, rfl, by have := hlo.out; have := HBL0.out; omega, O9.top.2, O9, Z.below⟩
  | true =>
    obtain ⟨u0, u1, u2, v0, v1, v2, kq0, kq1, kq2, lq0, lq1, lq2, mq0, mq1, mq2, n0', n1', n2'⟩ := KA.out _ X.out
    go_wp2_with fail
    clear u0 u1 u2 v0 v1 v2 kq0 kq1 kq2 lq0 lq1 lq2 mq0 mq1 mq2 n0' n1' n2'
    go_at_call 27
    refine (HCS.out _).mono ?_
    rintro e w5 ⟨rfl, hb⟩
    have X := hide (X.out.up hb)
    have V := hide (V.out.below hb)
    clear hb
    cases z0 with
    | false =>
      obtain rfl := NO.out (by simp)
      have hne1 : r1 ≠ r2 := by have := HBL0.out; omega
      have hne2 : r2 ≠ r1 := by have := HBL0.out; omega
      have hne3 : s1 ≠ r1 := by have := HBL0.out; omega
      have hne4 : s1 ≠ r2 := by have := HBL0.out; omega
      have hne5 : h0 ≠ r1 := by have := HBL0.out; omega
      have hne6 : h0 ≠ r2 := by have := HBL0.out; omega
      obtain ⟨u0, u1, u2, v0, v1, v2, kq0, kq1, kq2, lq0, lq1, lq2, mq0, mq1, mq2, n0', n1', n2'⟩ := KA.out _ X.out
      go_upto_region 2 with fail
      clear u0 u1 u2 v0 v1 v2 kq0 kq1 kq2 lq0 lq1 lq2 mq0 mq1 mq2 n0' n1' n2'
      have X := hide X.out.drew
      have V := hide (V.out.below (Below.refl _ _).drew)
      obtain ⟨u0, u1, u2, v0, v1, v2, kq0, kq1, kq2, lq0, lq1, lq2, mq0, mq1, mq2, n0', n1', n2'⟩ := KA.out _ X.out
      go_region_with (first
        | (go_at_call 61; refine (CC.out _ V.out).mono ?_; rintro e wq ⟨x', y', z', lo, hi, n1, h1, n2, h2, n3, h3, rfl, q1, q2, O, hb⟩; obtain ⟨b1, k1, rfl⟩ := O.x.form; obtain ⟨b2, k2, rfl⟩ := O.y.form; obtain ⟨b3, k3, rfl⟩ := O.z.own.form; have hlo := hide (show r2 + 1 ≤ lo from Nat.le_trans (Nat.succ_le_of_lt (X.out.lt 3 rfl)) q1); replace X := hide (X.out.up hb); have O := hide O; clear hb q1 q2 u0 u1 u2 v0 v1 v2 kq0 kq1 kq2 lq0 lq1 lq2 mq0 mq1 mq2 n0' n1' n2'; obtain ⟨u0, u1, u2, v0, v1, v2, kq0, kq1, kq2, lq0, lq1, lq2, mq0, mq1, mq2, n0', n1', n2'⟩ := KA.out _ X.out))
      all_goals
        have Z := (X.out.put3c 2 rfl (.slice b1 l.length k1) (.slice b2 r.length k2) (.slice b3 ps.length k3)).put3c 3 rfl (.int .i64 p) (.int .i64 t) (.int .i64 s)
        have z0 := Z.cell 2 0 rfl rfl
        have z1 := Z.cell 2 1 rfl rfl
        have z2 := Z.cell 2 2 rfl rfl
        have z3 := Z.cell 3 0 rfl rfl
        have z4 := Z.cell 3 1 rfl rfl
        have z5 := Z.cell 3 2 rfl rfl
        have O9 := (O.out.seg (seg3 _ r1 (.slice b1 l.length k1) (.slice b2 r.length k2) (.slice b3 ps.length k3)) (.inr (by have := hlo.out; have := HBL0.out; omega))).seg (seg3 _ r2 (.int .i64 p) (.int .i64 t) (.int .i64 s)) (.inr (by have := hlo.out; have := HBL0.out; omega))
        clear u0 u1 u2 v0 v1 v2 kq0 kq1 kq2 lq0 lq1 lq2 mq0 mq1 mq2 n0' n1' n2'
        rename ∀ (a : Act) (w' : World), Code.wp _ Code.ret _ a w' → _ => HK
        refine HK _ _ ?_
        refine wp_ret ?_
        exact bodyPost_ret (v := .tuple #[.agg #[.slice b1 l.length k1, .slice b2 r.length k2, .slice b3 ps.length k3], .agg #[.int .i64 p, .int .i64 t, .int .i64 s], .int .i64 0]) (by simp [results, Tryz.results31, go_sem, z0, z1, z2, z3, z4, z5]) rfl
          ⟨_, _, _, lo, hi, n1, h1, n2, h2, n3, h3, rfl, by have := hlo.out; have := HBL0.out; omega, O9.top.2, O9, Z.below⟩
    | true =>
      by_cases hvb : ¬(-1000 ≤ v ∧ v ≤ 1000)
      · have CB := hide (fun (W : World) => in_no v (-1000) 1000 W (by omega))
        go_wp2_with fail
        go_at_call 79
        refine (CB.out _).mono ?_
        rintro e wq ⟨rfl, rfl⟩
        obtain rfl := NO.out (by intro h; exact hvb h.2.2)
        have hne1 : r1 ≠ r2 := by have := HBL0.out; omega
        have hne2 : r2 ≠ r1 := by have := HBL0.out; omega
        have hne3 : s1 ≠ r1 := by have := HBL0.out; omega
        have hne4 : s1 ≠ r2 := by have := HBL0.out; omega
        have hne5 : h0 ≠ r1 := by have := HBL0.out; omega
        have hne6 : h0 ≠ r2 := by have := HBL0.out; omega
        obtain ⟨u0, u1, u2, v0, v1, v2, kq0, kq1, kq2, lq0, lq1, lq2, mq0, mq1, mq2, n0', n1', n2'⟩ := KA.out _ X.out
        go_upto_region 2 with fail
        clear u0 u1 u2 v0 v1 v2 kq0 kq1 kq2 lq0 lq1 lq2 mq0 mq1 mq2 n0' n1' n2'
        have X := hide X.out.drew
        have V := hide (V.out.below (Below.refl _ _).drew)
        obtain ⟨u0, u1, u2, v0, v1, v2, kq0, kq1, kq2, lq0, lq1, lq2, mq0, mq1, mq2, n0', n1', n2'⟩ := KA.out _ X.out
        go_region_with (first
          | (go_at_call 61; refine (CC.out _ V.out).mono ?_; rintro e wq ⟨x', y', z', lo, hi, n1, h1, n2, h2, n3, h3, rfl, q1, q2, O, hb⟩; obtain ⟨b1, k1, rfl⟩ := O.x.form; obtain ⟨b2, k2, rfl⟩ := O.y.form; obtain ⟨b3, k3, rfl⟩ := O.z.own.form; have hlo := hide (show r2 + 1 ≤ lo from Nat.le_trans (Nat.succ_le_of_lt (X.out.lt 3 rfl)) q1); replace X := hide (X.out.up hb); have O := hide O; clear hb q1 q2 u0 u1 u2 v0 v1 v2 kq0 kq1 kq2 lq0 lq1 lq2 mq0 mq1 mq2 n0' n1' n2'; obtain ⟨u0, u1, u2, v0, v1, v2, kq0, kq1, kq2, lq0, lq1, lq2, mq0, mq1, mq2, n0', n1', n2'⟩ := KA.out _ X.out))
        all_goals
          have Z := (X.out.put3c 2 rfl (.slice b1 l.length k1) (.slice b2 r.length k2) (.slice b3 ps.length k3)).put3c 3 rfl (.int .i64 p) (.int .i64 t) (.int .i64 s)
          have z0 := Z.cell 2 0 rfl rfl
          have z1 := Z.cell 2 1 rfl rfl
          have z2 := Z.cell 2 2 rfl rfl
          have z3 := Z.cell 3 0 rfl rfl
          have z4 := Z.cell 3 1 rfl rfl
          have z5 := Z.cell 3 2 rfl rfl
          have O9 := (O.out.seg (seg3 _ r1 (.slice b1 l.length k1) (.slice b2 r.length k2) (.slice b3 ps.length k3)) (.inr (by have := hlo.out; have := HBL0.out; omega))).seg (seg3 _ r2 (.int .i64 p) (.int .i64 t) (.int .i64 s)) (.inr (by have := hlo.out; have := HBL0.out; omega))
          clear u0 u1 u2 v0 v1 v2 kq0 kq1 kq2 lq0 lq1 lq2 mq0 mq1 mq2 n0' n1' n2'
          rename ∀ (a : Act) (w' : World), Code.wp _ Code.ret _ a w' → _ => HK
          refine HK _ _ ?_
          refine wp_ret ?_
          exact bodyPost_ret (v := .tuple #[.agg #[.slice b1 l.length k1, .slice b2 r.length k2, .slice b3 ps.length k3], .agg #[.int .i64 p, .int .i64 t, .int .i64 s], .int .i64 0]) (by simp [results, Tryz.results31, go_sem, z0, z1, z2, z3, z4, z5]) rfl
            ⟨_, _, _, lo, hi, n1, h1, n2, h2, n3, h3, rfl, by have := hlo.out; have := HBL0.out; omega, O9.top.2, O9, Z.below⟩
      have hvb : -1000 ≤ v ∧ v ≤ 1000 := by omega
      have CB := hide (fun (W : World) => in_yes v (-1000) 1000 W hvb.1 hvb.2)
      go_wp2_with fail
      go_at_call 79
      refine (CB.out _).mono ?_
      rintro e wq ⟨rfl, rfl⟩
      have X5 := X
      have hx5 := hide (show r2 < w5.heap.size from X.out.lt 3 rfl)
      go_upto_region 4 with fail
      obtain ⟨w6, hw6⟩ : ∃ q, q = (w5.alloc (.cells #[] 129)).alloc (.cells #[.slice (some ⟨w5.heap.size, 0, none⟩) 0 0] 73) := ⟨_, rfl⟩
      have HB6 := hide (show Below w5.heap.size w5 w6 by rw [hw6]; exact below2 _ _ _)
      have HZ6 := hide (show w6.heap.size = w5.heap.size + 1 + 1 by rw [hw6]; simp)
      have LG := hide (show LB w6 (w5.heap.size + 1) h0 (.slice (some ⟨w5.heap.size, 0, none⟩) 0 0) [] by
        rw [hw6]
        refine ⟨?_, (Lg.made w5 h0 (by have := HBL0.out; have := hx5.out; omega)).below (below1 _ _), by simp [Value.ownBlock]⟩
        have := heap_alloc_new (w5.alloc (.cells #[] 129)) (.cells #[.slice (some ⟨w5.heap.size, 0, none⟩) 0 0] 73)
        simpa using this)
      rw [← hw6]
      clear hw6
      obtain ⟨sv, hsv⟩ : ∃ q, q = Value.slice (some ⟨w5.heap.size, 0, none⟩) 0 0 := ⟨_, rfl⟩
      obtain ⟨lb, hlb⟩ : ∃ q, q = w5.heap.size + 1 := ⟨_, rfl⟩
      have HGl := hide (show ∀ b ∈ lbF lb sv, w5.heap.size ≤ b by
        rw [hsv, hlb]
        intro b hb
        simp [lbF, Value.ownBlock] at hb
        omega)
      rw [← hsv, ← hlb] at LG
      rw [← hlb]
      try rw [← hsv]
      have HGt := hide (lbF_lt LG.out)
      clear hlb
      have HB5 := hide (fun (W : World) (M : List (Nat × Array Value × TypeId)) (h : Kd (lbF lb sv) w6 W M) => show Below w5.heap.size w5 W from HB6.out.trans (h.only.toBelow HGl.out HB6.out.size))
      have KX := hide (fun (W : World) (M : List (Nat × Array Value × TypeId)) (h : Kd (lbF lb sv) w6 W M) => X.out.up (HB5.out W M h))
      have KS := hide (fun (W : World) (M : List (Nat × Array Value × TypeId)) (h : Kd (lbF lb sv) w6 W M) => show W.cell? ⟨h0, 0, none⟩ = some (.slice a1 l.length c1) ∧ W.cell? ⟨h0, 1, none⟩ = some (.slice a2 r.length c2) ∧ W.cell? ⟨h0, 2, none⟩ = some (.slice a3 ps.length c3) ∧ W.cell? ⟨s1, 0, none⟩ = some (.int .i64 p) ∧ W.cell? ⟨s1, 1, none⟩ = some (.int .i64 t) ∧ W.cell? ⟨s1, 2, none⟩ = some (.int .i64 s) from ⟨(KX.out W M h).cell 0 0 rfl rfl, (KX.out W M h).cell 0 1 rfl rfl, (KX.out W M h).cell 0 2 rfl rfl, (KX.out W M h).cell 1 0 rfl rfl, (KX.out W M h).cell 1 1 rfl rfl, (KX.out W M h).cell 1 2 rfl rfl⟩)
      have VC := hide (fun (W : World) (M : List (Nat × Array Value × TypeId)) (h : Kd (lbF lb sv) w6 W M) => V.out.below (HB5.out W M h))
      have hck := HQ.out (by simp)
      obtain ⟨z1, z2, z3, z4, z5, z6⟩ := HZ.out (by simp)
      have h0k : (⟨l, r, ps, s, 0⟩ : PS).Ok 0 := ⟨hck, wf_ck HWF.out hck, z5, z6, Nat.le_refl _⟩
      have hrk := PS.run_ok (v := v) ⟨z1, z2⟩ ⟨z3, z4⟩ 64 0 _ h0k
      obtain ⟨cs9, hcs9⟩ : ∃ q, q = [] ++ (PS.runC p t v 0 64 ⟨l, r, ps, s, 0⟩ ++ (PS.run p t v 64 ⟨l, r, ps, s, 0⟩).chg v 0) := ⟨_, rfl⟩
      have HS9 := YES.out (by simp) (by simp) hvb
      have HCN := hide (show ∀ c ∈ cs9, 0 ≤ c.n ∧ c.n ≤ 1048576 by
        rw [hcs9, List.nil_append]
        intro c hc
        rcases List.mem_append.1 hc with hc | hc
        · exact PS.runC_n ⟨z1, z2⟩ ⟨z3, z4⟩ hvb 64 0 _ h0k c hc
        · exact PS.chg_n hrk hvb c hc)
      have HCL := hide (show cs9.length ≤ 1048576 by
        rw [hcs9, List.nil_append, List.length_append]
        have := PS.runC_len p t v 0 64 ⟨l, r, ps, s, 0⟩
        have := PS.chg_len (PS.run p t v 64 ⟨l, r, ps, s, 0⟩) v 0
        omega)
      have HCT := hide (show cgT cs9 = (S9.n : Int) by
        rw [hcs9, List.nil_append, cgT_append, HS9, HRS.out]
        have h1 := PS.runC_sum p t v 0 64 ⟨l, r, ps, s, 0⟩
        have h2 := PS.chg_sum (PS.run p t v 64 ⟨l, r, ps, s, 0⟩) v 0
        have h3 : ((⟨l, r, ps, s, 0⟩ : PS).n : Int) = 0 := rfl
        omega)
      have CW := hide (fun (W : World) (x y z : Value) (lo hi n1 h1 n2 h2 n3 h3 : Nat) (h : OC W x y z l r ps lo hi n1 h1 n2 h2 n3 h3) (hl : LB W lb h0 sv []) (hb : h0 ≤ W.heap.size) => show Calls Tryz.prog 87 #[.agg #[x, y, z], .agg #[.int .i64 p, .int .i64 t, .int .i64 s], .int .i64 v, .int .i64 0, .pointer (some ⟨lb, 0, none⟩)] W (RetLW W lb h0 sv S9 p t cs9) by
        rw [hcs9, HS9, HRS.out]
        exact l7With_any (.agg #[x, y, z]) ⟨l, r, ps, s, 0⟩ p t v 0 lb h0 sv [] W 0 (h.ck HWF.out.2.2.2.1 HWF.out.2.2.2.2.1 (Nat.le_trans HWF.out.2.2.1 (by omega)) HWF.out.2.2.2.2.2) h0k ⟨z1, z2⟩ ⟨z3, z4⟩ hvb hl (by simp) hb)
      clear hck z1 z2 z3 z4 z5 z6 h0k hrk hcs9 HS9 YES NO HRS HQ HZ
      have HF2 := hide (fun (W W' : World) (x y z : Value) (lo hi n1 h1 n2 h2 n3 h3 : Nat) (h : LB W lb h0 sv []) (hb : Below W.heap.size W W') (O : OC W' x y z l r ps lo hi n1 h1 n2 h2 n3 h3) => show Bl (fun W => LB W lb h0 sv [] ∧ OC W x y z l r ps lo hi n1 h1 n2 h2 n3 h3) W' from fun W2 hb2 => ⟨(h.below hb).below hb2, O.below hb2⟩)
      have HF3 := hide (fun (W' : World) (sv2 x y z : Value) (lo hi n1 h1 n2 h2 n3 h3 : Nat) (h : LB W' lb h0 sv2 cs9) (O : OC W' x y z S9.l S9.r S9.ps lo hi n1 h1 n2 h2 n3 h3) => show Bl (fun W => LB W lb h0 sv2 cs9 ∧ OC W x y z S9.l S9.r S9.ps lo hi n1 h1 n2 h2 n3 h3) W' from fun W2 hb2 => ⟨h.below hb2, O.below hb2⟩)
      have HH0 := hide (fun (W : World) (M : List (Nat × Array Value × TypeId)) (h : Kd (lbF lb sv) w6 W M) => show h0 ≤ W.heap.size by have := HBL0.out; have := hx5.out; have := (HB5.out W M h).size; omega)
      have HR2 := hide (fun (W : World) (M : List (Nat × Array Value × TypeId)) (h : Kd (lbF lb sv) w6 W M) (lo : Nat) (hl : W.heap.size ≤ lo) => show r2 < lo by have := hx5.out; have := (HB5.out W M h).size; omega)
      have HP3 := hide (fun (W : World) (M : List (Nat × Array Value × TypeId)) (h : Kd (lbF lb sv) w6 W M) (sv2 : Value) (hs : SvB sv sv2 W.heap.size) => show ∀ e ∈ M, lb ≠ e.1 ∧ sv2.ownBlock ≠ some e.1 from fun e he => hs.ne HGt.out (h.high e he) (Array.getElem?_eq_some_iff.1 (h.hold e he)).1)
      go_cut [10, 11] (fun q10 q11 wx => ∃ (W' : World) (g1 g2 lo hi n1 h1 n2 h2 n3 h3 k1 k2 k3 : Nat) (b1 b2 b3 : Option Addr) (sv2 : Value), W' = wx ∧ q10 = .pointer (some ⟨g1, 0, none⟩) ∧ q11 = .pointer (some ⟨g2, 0, none⟩) ∧ Hid (wx.heap[g1]? = some (.cells #[.slice b1 S9.l.length k1, .slice b2 S9.r.length k2, .slice b3 S9.ps.length k3] 33 (0, 0))) ∧ Hid (wx.heap[g2]? = some (.cells #[.int .i64 p, .int .i64 t, .int .i64 S9.s] 34 (0, 0))) ∧ Hid (Below w5.heap.size w5 wx) ∧ Hid (OC wx (.slice b1 S9.l.length k1) (.slice b2 S9.r.length k2) (.slice b3 S9.ps.length k3) S9.l S9.r S9.ps lo hi n1 h1 n2 h2 n3 h3) ∧ Hid (r2 < lo) ∧ Hid (w6.heap.size ≤ g1) ∧ Hid (w6.heap.size ≤ g2) ∧ Hid (LB wx lb h0 sv2 cs9))
      case first =>
        have Y0 := hide (Kw.start (F := fun W => LB W lb h0 sv []) (lbF lb sv) w6 (fun W' hb => LG.out.below hb))
        have Y := hide (Y0.out.drew)
        clear LG X V X5 KA HCK HCS CB
        obtain ⟨d0, d1, d2, d3, d4, d5⟩ := KS.out _ _ Y.out.kd
        go_region_held3 (fun w' => w'.cell? ⟨h0, 0, none⟩ = some (.slice a1 l.length c1) ∧ w'.cell? ⟨h0, 1, none⟩ = some (.slice a2 r.length c2) ∧ w'.cell? ⟨h0, 2, none⟩ = some (.slice a3 ps.length c3) ∧ w'.cell? ⟨s1, 0, none⟩ = some (.int .i64 p) ∧ w'.cell? ⟨s1, 1, none⟩ = some (.int .i64 t) ∧ w'.cell? ⟨s1, 2, none⟩ = some (.int .i64 s)) (first | with_reducible exact KS.out _ _ Y.out.kd | with_reducible exact KS.out _ _ (Y.out.alloc _ _).kd | with_reducible exact KS.out _ _ ((Y.out.alloc _ _).alloc _ _).kd | with_reducible exact KS.out _ _ (Y0.out.alloc _ _).drew.kd | with_reducible exact KS.out _ _ ((Y0.out.alloc _ _).alloc _ _).drew.kd | with_reducible exact KS.out _ _ (Y.out.kd.put3c 0 rfl _ _ _) | with_reducible exact KS.out _ _ (Y.out.kd.put3c 1 rfl _ _ _) | with_reducible exact KS.out _ _ ((Y.out.kd.put3c 0 rfl _ _ _).put3c 1 rfl _ _ _) | with_reducible exact KS.out _ _ ((Y.out.kd.put3c 1 rfl _ _ _).put3c 0 rfl _ _ _) | with_reducible exact KS.out _ _ ((Y.out.kd.put3c 0 rfl _ _ _).alloc _ _) | go_keep) (first
          | (go_at_call 61; refine (CC.out _ (by first | with_reducible exact VC.out _ _ Y.out.kd | with_reducible exact VC.out _ _ (Y.out.alloc _ _).kd | with_reducible exact VC.out _ _ ((Y.out.alloc _ _).alloc _ _).kd | with_reducible exact VC.out _ _ (Y0.out.alloc _ _).drew.kd | with_reducible exact VC.out _ _ ((Y0.out.alloc _ _).alloc _ _).drew.kd)).mono ?_; rintro e wq ⟨x', y', z', lo, hi, n1, h1, n2, h2, n3, h3, rfl, q1, q2, O, hb⟩; obtain ⟨b1, k1, rfl⟩ := O.x.form; obtain ⟨b2, k2, rfl⟩ := O.y.form; obtain ⟨b3, k3, rfl⟩ := O.z.own.form; (first | replace Y := hide (by with_reducible exact Y.out.next hb (HF2.out _ _ _ _ _ _ _ _ _ _ _ _ _ Y.out.now hb O)) | replace Y := hide (by with_reducible exact (Y.out.alloc _ _).next hb (HF2.out _ _ _ _ _ _ _ _ _ _ _ _ _ (Y.out.alloc _ _).now hb O)) | replace Y := hide (by with_reducible exact ((Y.out.alloc _ _).alloc _ _).next hb (HF2.out _ _ _ _ _ _ _ _ _ _ _ _ _ ((Y.out.alloc _ _).alloc _ _).now hb O)) | replace Y := hide (by with_reducible exact (Y0.out.alloc _ _).drew.next hb (HF2.out _ _ _ _ _ _ _ _ _ _ _ _ _ (Y0.out.alloc _ _).drew.now hb O)) | replace Y := hide (by with_reducible exact ((Y0.out.alloc _ _).alloc _ _).drew.next hb (HF2.out _ _ _ _ _ _ _ _ _ _ _ _ _ ((Y0.out.alloc _ _).alloc _ _).drew.now hb O))); clear O hb q1 q2 d0 d1 d2 d3 d4 d5; obtain ⟨d0, d1, d2, d3, d4, d5⟩ := KS.out _ _ Y.out.kd; (try simp only [World.size_alloc, World.size_drew, List.cons_append, List.nil_append] at Y); (first | clear e00 e01 e02 f00 f01 f02 f0l | skip); (first | (have e00 := Y.out.kd.cell 0 0 rfl rfl; have e01 := Y.out.kd.cell 0 1 rfl rfl; have e02 := Y.out.kd.cell 0 2 rfl rfl; have f00 := Y.out.kd.free 0 0 rfl; have f01 := Y.out.kd.free 0 1 rfl; have f02 := Y.out.kd.free 0 2 rfl; have f0l := Y.out.kd.lt 0 rfl) | skip); (first | clear e10 e11 e12 f10 f11 f12 f1l n01 n10 | skip); (first | (have e10 := Y.out.kd.cell 1 0 rfl rfl; have e11 := Y.out.kd.cell 1 1 rfl rfl; have e12 := Y.out.kd.cell 1 2 rfl rfl; have f10 := Y.out.kd.free 1 0 rfl; have f11 := Y.out.kd.free 1 1 rfl; have f12 := Y.out.kd.free 1 2 rfl; have f1l := Y.out.kd.lt 1 rfl; have n01 := Y.out.kd.ne 0 1 rfl rfl (by decide); have n10 := Y.out.kd.ne 1 0 rfl rfl (by decide); (try simp only [World.size_alloc, World.size_drew] at e10 e11 e12 f10 f11 f12 f1l n01 n10)) | skip))
          | (go_at_call 87; refine (CW.out _ _ _ _ _ _ _ _ _ _ _ _ (by first | with_reducible exact Y.out.now.2 | with_reducible exact (Y.out.alloc _ _).now.2 | with_reducible exact ((Y.out.alloc _ _).alloc _ _).now.2 | with_reducible exact (Y0.out.alloc _ _).drew.now.2 | with_reducible exact ((Y0.out.alloc _ _).alloc _ _).drew.now.2) (by first | with_reducible exact Y.out.now.1 | with_reducible exact (Y.out.alloc _ _).now.1 | with_reducible exact ((Y.out.alloc _ _).alloc _ _).now.1 | with_reducible exact (Y0.out.alloc _ _).drew.now.1 | with_reducible exact ((Y0.out.alloc _ _).alloc _ _).drew.now.1) (by first | with_reducible exact HH0.out _ _ Y.out.kd | with_reducible exact HH0.out _ _ (Y.out.alloc _ _).kd | with_reducible exact HH0.out _ _ ((Y.out.alloc _ _).alloc _ _).kd | with_reducible exact HH0.out _ _ (Y0.out.alloc _ _).drew.kd | with_reducible exact HH0.out _ _ ((Y0.out.alloc _ _).alloc _ _).drew.kd)).mono ?_; rintro e wq ⟨x', y', z', lo, hi, n1, h1, n2, h2, n3, h3, sv2, rfl, q1, O, L2, hsv, ho⟩; obtain ⟨b1, k1, rfl⟩ := O.x.form; obtain ⟨b2, k2, rfl⟩ := O.y.form; obtain ⟨b3, k3, rfl⟩ := O.z.own.form; (first | (have YM := (by with_reducible exact Y.out.turnM ho HGt.out (HF3.out _ _ _ _ _ _ _ _ _ _ _ _ _ L2 O)); have HR := hide (by with_reducible exact HR2.out _ _ Y.out.kd _ q1); have HP := hide (by with_reducible exact HP3.out _ _ Y.out.kd _ hsv); have HM := hide (fun e he => Nat.lt_of_lt_of_le (YM.2 e he) q1); replace Y := hide YM.1; clear YM ho O L2 hsv q1) | (have YM := (by with_reducible exact (Y.out.alloc _ _).turnM ho HGt.out (HF3.out _ _ _ _ _ _ _ _ _ _ _ _ _ L2 O)); have HR := hide (by with_reducible exact HR2.out _ _ (Y.out.alloc _ _).kd _ q1); have HP := hide (by with_reducible exact HP3.out _ _ (Y.out.alloc _ _).kd _ hsv); have HM := hide (fun e he => Nat.lt_of_lt_of_le (YM.2 e he) q1); replace Y := hide YM.1; clear YM ho O L2 hsv q1) | (have YM := (by with_reducible exact ((Y.out.alloc _ _).alloc _ _).turnM ho HGt.out (HF3.out _ _ _ _ _ _ _ _ _ _ _ _ _ L2 O)); have HR := hide (by with_reducible exact HR2.out _ _ ((Y.out.alloc _ _).alloc _ _).kd _ q1); have HP := hide (by with_reducible exact HP3.out _ _ ((Y.out.alloc _ _).alloc _ _).kd _ hsv); have HM := hide (fun e he => Nat.lt_of_lt_of_le (YM.2 e he) q1); replace Y := hide YM.1; clear YM ho O L2 hsv q1) | (have YM := (by with_reducible exact (Y0.out.alloc _ _).drew.turnM ho HGt.out (HF3.out _ _ _ _ _ _ _ _ _ _ _ _ _ L2 O)); have HR := hide (by with_reducible exact HR2.out _ _ (Y0.out.alloc _ _).drew.kd _ q1); have HP := hide (by with_reducible exact HP3.out _ _ (Y0.out.alloc _ _).drew.kd _ hsv); have HM := hide (fun e he => Nat.lt_of_lt_of_le (YM.2 e he) q1); replace Y := hide YM.1; clear YM ho O L2 hsv q1) | (have YM := (by with_reducible exact ((Y0.out.alloc _ _).alloc _ _).drew.turnM ho HGt.out (HF3.out _ _ _ _ _ _ _ _ _ _ _ _ _ L2 O)); have HR := hide (by with_reducible exact HR2.out _ _ ((Y0.out.alloc _ _).alloc _ _).drew.kd _ q1); have HP := hide (by with_reducible exact HP3.out _ _ ((Y0.out.alloc _ _).alloc _ _).drew.kd _ hsv); have HM := hide (fun e he => Nat.lt_of_lt_of_le (YM.2 e he) q1); replace Y := hide YM.1; clear YM ho O L2 hsv q1)); (try simp only [World.size_alloc, World.size_drew, List.cons_append, List.nil_append] at HM HP); clear d0 d1 d2 d3 d4 d5; obtain ⟨d0, d1, d2, d3, d4, d5⟩ := KS.out _ _ Y.out.kd; (try simp only [World.size_alloc, World.size_drew, List.cons_append, List.nil_append] at Y); (first | clear e00 e01 e02 f00 f01 f02 f0l | skip); (first | (have e00 := Y.out.kd.cell 0 0 rfl rfl; have e01 := Y.out.kd.cell 0 1 rfl rfl; have e02 := Y.out.kd.cell 0 2 rfl rfl; have f00 := Y.out.kd.free 0 0 rfl; have f01 := Y.out.kd.free 0 1 rfl; have f02 := Y.out.kd.free 0 2 rfl; have f0l := Y.out.kd.lt 0 rfl) | skip); (first | clear e10 e11 e12 f10 f11 f12 f1l n01 n10 | skip); (first | (have e10 := Y.out.kd.cell 1 0 rfl rfl; have e11 := Y.out.kd.cell 1 1 rfl rfl; have e12 := Y.out.kd.cell 1 2 rfl rfl; have f10 := Y.out.kd.free 1 0 rfl; have f11 := Y.out.kd.free 1 1 rfl; have f12 := Y.out.kd.free 1 2 rfl; have f1l := Y.out.kd.lt 1 rfl; have n01 := Y.out.kd.ne 0 1 rfl rfl (by decide); have n10 := Y.out.kd.ne 1 0 rfl rfl (by decide); (try simp only [World.size_alloc, World.size_drew] at e10 e11 e12 f10 f11 f12 f1l n01 n10)) | skip)))
        all_goals go_wp2_with fail
        all_goals go_meet
        all_goals first
          | (have Z := (Y.out.kd.alloc #[.slice b1 S9.l.length k1, .slice b2 S9.r.length k2, .slice b3 S9.ps.length k3] 33).alloc #[.int .i64 p, .int .i64 t, .int .i64 S9.s] 34; simp only [World.size_alloc, World.size_drew, World.size_setCell, List.set_cons_zero, List.cons_append, List.nil_append] at Z; refine ⟨_, _, _, lo, hi, n1, h1, n2, h2, n3, h3, k1, k2, k3, b1, b2, b3, sv2, rfl, rfl, rfl, ?_, ?_, (by with_reducible exact hide (HB5.out _ _ Z)), ?_, HR.out, ?_, ?_, ?_⟩; (exact Z.mem 0 rfl); (exact Z.mem 1 rfl); (exact (Y.out.hold _ (below2 _ _ _)).2); (exact Z.low 0 rfl); (exact Z.low 1 rfl); (exact (Y.out.hold _ (below2 _ _ _)).1))
          | (have Z := (Y.out.kd.alloc #[.int .i64 p, .int .i64 t, .int .i64 S9.s] 34).alloc #[.slice b1 S9.l.length k1, .slice b2 S9.r.length k2, .slice b3 S9.ps.length k3] 33; simp only [World.size_alloc, World.size_drew, World.size_setCell, List.set_cons_zero, List.cons_append, List.nil_append] at Z; refine ⟨_, _, _, lo, hi, n1, h1, n2, h2, n3, h3, k1, k2, k3, b1, b2, b3, sv2, rfl, rfl, rfl, ?_, ?_, (by with_reducible exact hide (HB5.out _ _ Z)), ?_, HR.out, ?_, ?_, ?_⟩; (exact Z.mem 1 rfl); (exact Z.mem 0 rfl); (exact (Y.out.hold _ (below2 _ _ _)).2); (exact Z.low 1 rfl); (exact Z.low 0 rfl); (exact (Y.out.hold _ (below2 _ _ _)).1))
          | (have Z := (Y.out.kd.put3c 0 rfl (.slice b1 S9.l.length k1) (.slice b2 S9.r.length k2) (.slice b3 S9.ps.length k3)).alloc #[.int .i64 p, .int .i64 t, .int .i64 S9.s] 34; (try simp only [World.size_alloc, World.size_drew, World.size_setCell, List.set_cons_zero, List.cons_append, List.nil_append] at Z); refine ⟨_, _, _, lo, hi, n1, h1, n2, h2, n3, h3, k1, k2, k3, b1, b2, b3, sv2, rfl, rfl, rfl, ?_, ?_, (by with_reducible exact hide (HB5.out _ _ Z)), ?_, HR.out, ?_, ?_, ?_⟩; (exact Z.mem 0 rfl); (exact Z.mem 1 rfl); (exact (Y.out.now.2.seg (seg3 _ _ _ _ _) (.inr (HM.out _ (List.mem_cons_self ..)))).below (below1 _ _)); (exact Z.low 0 rfl); (exact Z.low 1 rfl); (exact (Y.out.now.1.poke3 (HP.out _ (List.mem_cons_self ..))).below (below1 _ _)))
          | (have Z := (Y.out.kd.put3c 0 rfl (.int .i64 p) (.int .i64 t) (.int .i64 S9.s)).alloc #[.slice b1 S9.l.length k1, .slice b2 S9.r.length k2, .slice b3 S9.ps.length k3] 33; (try simp only [World.size_alloc, World.size_drew, World.size_setCell, List.set_cons_zero, List.cons_append, List.nil_append] at Z); refine ⟨_, _, _, lo, hi, n1, h1, n2, h2, n3, h3, k1, k2, k3, b1, b2, b3, sv2, rfl, rfl, rfl, ?_, ?_, (by with_reducible exact hide (HB5.out _ _ Z)), ?_, HR.out, ?_, ?_, ?_⟩; (exact Z.mem 1 rfl); (exact Z.mem 0 rfl); (exact (Y.out.now.2.seg (seg3 _ _ _ _ _) (.inr (HM.out _ (List.mem_cons_self ..)))).below (below1 _ _)); (exact Z.low 1 rfl); (exact Z.low 0 rfl); (exact (Y.out.now.1.poke3 (HP.out _ (List.mem_cons_self ..))).below (below1 _ _)))
          | (have Z := (Y.out.kd.put3c 0 rfl (.slice b1 S9.l.length k1) (.slice b2 S9.r.length k2) (.slice b3 S9.ps.length k3)).put3c 1 rfl (.int .i64 p) (.int .i64 t) (.int .i64 S9.s); refine ⟨_, _, _, lo, hi, n1, h1, n2, h2, n3, h3, k1, k2, k3, b1, b2, b3, sv2, rfl, rfl, rfl, ?_, ?_, (by with_reducible exact hide (HB5.out _ _ Z)), ?_, HR.out, ?_, ?_, ?_⟩; (exact Z.mem 0 rfl); (exact Z.mem 1 rfl); (exact (Y.out.now.2.seg (seg3 _ _ _ _ _) (.inr (HM.out _ (List.mem_cons_self ..)))).seg (seg3 _ _ _ _ _) (.inr (HM.out _ (List.mem_cons_of_mem _ (List.mem_cons_self ..))))); (exact Z.low 0 rfl); (exact Z.low 1 rfl); (exact (Y.out.now.1.poke3 (HP.out _ (List.mem_cons_self ..))).poke3 (HP.out _ (List.mem_cons_of_mem _ (List.mem_cons_self ..)))))
          | (have Z := (Y.out.kd.put3c 1 rfl (.slice b1 S9.l.length k1) (.slice b2 S9.r.length k2) (.slice b3 S9.ps.length k3)).put3c 0 rfl (.int .i64 p) (.int .i64 t) (.int .i64 S9.s); refine ⟨_, _, _, lo, hi, n1, h1, n2, h2, n3, h3, k1, k2, k3, b1, b2, b3, sv2, rfl, rfl, rfl, ?_, ?_, (by with_reducible exact hide (HB5.out _ _ Z)), ?_, HR.out, ?_, ?_, ?_⟩; (exact Z.mem 1 rfl); (exact Z.mem 0 rfl); (exact (Y.out.now.2.seg (seg3 _ _ _ _ _) (.inr (HM.out _ (List.mem_cons_of_mem _ (List.mem_cons_self ..))))).seg (seg3 _ _ _ _ _) (.inr (HM.out _ (List.mem_cons_self ..)))); (exact Z.low 1 rfl); (exact Z.low 0 rfl); (exact (Y.out.now.1.poke3 (HP.out _ (List.mem_cons_of_mem _ (List.mem_cons_self ..)))).poke3 (HP.out _ (List.mem_cons_self ..))))
          | fail "fin"
      case rest =>
        obtain ⟨w7, g1, g2, lo, hi, n1, h1, n2, h2, n3, h3, k1, k2, k3, b1, b2, b3, sv2, rfl, rfl, rfl, E1, E2, HB7, O, HR, L1, L2, LG⟩ := hcut
        have X := hide (X.out.up HB7.out)
        have CT := hide (fun (W : World) (h : Lg W h0 sv2 cs9) => show Calls Tryz.prog 88 #[sv2] W (RetI1 W (S9.n : Int)) by rw [← HCT.out]; exact l7Total_any sv2 cs9 h0 W h HCN.out HCL.out)
        have KG := hide (fun (W : World) (h : Below w7.heap.size w7 W) => show W.cell? ⟨g1, 0, none⟩ = some (.slice b1 S9.l.length k1) ∧ W.cell? ⟨g1, 1, none⟩ = some (.slice b2 S9.r.length k2) ∧ W.cell? ⟨g1, 2, none⟩ = some (.slice b3 S9.ps.length k3) ∧ W.cell? ⟨g2, 0, none⟩ = some (.int .i64 p) ∧ W.cell? ⟨g2, 1, none⟩ = some (.int .i64 t) ∧ W.cell? ⟨g2, 2, none⟩ = some (.int .i64 S9.s) ∧ W.cell? ⟨lb, 0, none⟩ = some sv2 by
          have e1 : W.heap[g1]? = _ := (h.block g1 (Array.getElem?_eq_some_iff.1 E1.out).1).trans E1.out
          have e2 : W.heap[g2]? = _ := (h.block g2 (Array.getElem?_eq_some_iff.1 E2.out).1).trans E2.out
          exact ⟨cell_of_row W g1 0 _ _ (0, 0) e1, cell_of_row W g1 1 _ _ (0, 0) e1, cell_of_row W g1 2 _ _ (0, 0) e1, cell_of_row W g2 0 _ _ (0, 0) e2, cell_of_row W g2 1 _ _ (0, 0) e2, cell_of_row W g2 2 _ _ (0, 0) e2, (LG.out.below h).cell⟩)
        have hne1 : r1 ≠ r2 := by have := HBL0.out; omega
        have hne2 : r2 ≠ r1 := by have := HBL0.out; omega
        have hng0 : g1 ≠ r1 := by have := HBL0.out; have := L1.out; have := L2.out; have := HB6.out.size; have := hx5.out; have := HGl.out lb (List.mem_cons_self ..); omega
        have hng1 : g1 ≠ r2 := by have := HBL0.out; have := L1.out; have := L2.out; have := HB6.out.size; have := hx5.out; have := HGl.out lb (List.mem_cons_self ..); omega
        have hng2 : g2 ≠ r1 := by have := HBL0.out; have := L1.out; have := L2.out; have := HB6.out.size; have := hx5.out; have := HGl.out lb (List.mem_cons_self ..); omega
        have hng3 : g2 ≠ r2 := by have := HBL0.out; have := L1.out; have := L2.out; have := HB6.out.size; have := hx5.out; have := HGl.out lb (List.mem_cons_self ..); omega
        have hng4 : lb ≠ r1 := by have := HBL0.out; have := L1.out; have := L2.out; have := HB6.out.size; have := hx5.out; have := HGl.out lb (List.mem_cons_self ..); omega
        have hng5 : lb ≠ r2 := by have := HBL0.out; have := L1.out; have := L2.out; have := HB6.out.size; have := hx5.out; have := HGl.out lb (List.mem_cons_self ..); omega
        clear CW HF2 HF3 HP3 HR2 HH0 VC KS KX HB5 CC HCK HCS CB X5 HCN HCL HCT
        obtain ⟨u0, u1, u2, v0, v1, v2, kq0, kq1, kq2, lq0, lq1, lq2, mq0, mq1, mq2, n0', n1', n2'⟩ := KA.out _ X.out
        go_upto_region 5 with fail
        clear u0 u1 u2 v0 v1 v2 kq0 kq1 kq2 lq0 lq1 lq2 mq0 mq1 mq2 n0' n1' n2'
        have X := hide X.out.drew
        have HBd := hide (Below.refl w7.heap.size w7).drew
        obtain ⟨u0, u1, u2, v0, v1, v2, kq0, kq1, kq2, lq0, lq1, lq2, mq0, mq1, mq2, n0', n1', n2'⟩ := KA.out _ X.out
        obtain ⟨t0, t1, t2, t3, t4, t5, t6⟩ := KG.out _ HBd.out
        go_region_with (first
          | (go_at_call 88; refine (CT.out _ (LG.out.row.below HBd.out)).mono ?_; rintro e wq ⟨rfl, hb⟩; replace X := hide (X.out.up hb); replace HBd := hide (HBd.out.trans (hb.mono HBd.out.size)); clear hb u0 u1 u2 v0 v1 v2 kq0 kq1 kq2 lq0 lq1 lq2 mq0 mq1 mq2 n0' n1' n2' t0 t1 t2 t3 t4 t5 t6; obtain ⟨u0, u1, u2, v0, v1, v2, kq0, kq1, kq2, lq0, lq1, lq2, mq0, mq1, mq2, n0', n1', n2'⟩ := KA.out _ X.out; obtain ⟨t0, t1, t2, t3, t4, t5, t6⟩ := KG.out _ HBd.out))
        all_goals
          have Z := (X.out.put3c 2 rfl (.slice b1 S9.l.length k1) (.slice b2 S9.r.length k2) (.slice b3 S9.ps.length k3)).put3c 3 rfl (.int .i64 p) (.int .i64 t) (.int .i64 S9.s)
          have z0 := Z.cell 2 0 rfl rfl
          have z1 := Z.cell 2 1 rfl rfl
          have z2 := Z.cell 2 2 rfl rfl
          have z3 := Z.cell 3 0 rfl rfl
          have z4 := Z.cell 3 1 rfl rfl
          have z5 := Z.cell 3 2 rfl rfl
          have O8 := O.out.below HBd.out
          have O9 := (O8.seg (seg3 _ r1 (.slice b1 S9.l.length k1) (.slice b2 S9.r.length k2) (.slice b3 S9.ps.length k3)) (.inr (by have := HR.out; have := HBL0.out; omega))).seg (seg3 _ r2 (.int .i64 p) (.int .i64 t) (.int .i64 S9.s)) (.inr (by have := HR.out; have := HBL0.out; omega))
          clear O8 u0 u1 u2 v0 v1 v2 kq0 kq1 kq2 lq0 lq1 lq2 mq0 mq1 mq2 n0' n1' n2' t0 t1 t2 t3 t4 t5 t6
          rename ∀ (a : Act) (w' : World), Code.wp _ Code.ret _ a w' → _ => HK
          refine HK _ _ ?_
          refine wp_ret ?_
          exact bodyPost_ret (v := .tuple #[.agg #[.slice b1 S9.l.length k1, .slice b2 S9.r.length k2, .slice b3 S9.ps.length k3], .agg #[.int .i64 p, .int .i64 t, .int .i64 S9.s], .int .i64 (S9.n : Int)]) (by simp [results, Tryz.results31, go_sem, z0, z1, z2, z3, z4, z5]) rfl
            ⟨_, _, _, lo, hi, n1, h1, n2, h2, n3, h3, rfl, by have := HR.out; have := HBL0.out; omega, O9.top.2, O9, Z.below⟩

end Go.Proofs.YtajfhalalnlejaaGreat

/- For laws whose function takes a column and settings and returns both: blocks made in a region that draws its order; what a policy leaves stays in bounds. -/
namespace Go.Proofs.YtajfhalalnlejaaGreat
open Go.RowKit Go.ChangeShapes
set_option linter.unusedSimpArgs false
set_option linter.unusedVariables false
set_option maxRecDepth 100000

theorem Kd.kn {w W : World} {L : List (Nat × Array Value × TypeId)} (h : Kd [] w W L) : Kn w W L :=
  ⟨h.only.toBelow (by simp) (Nat.le_refl _), h.hold, h.high, h.nodup⟩
theorem Kn.swap {w W : World} {a b : Nat × Array Value × TypeId} (h : Kn w W [a, b]) : Kn w W [b, a] :=
  ⟨h.below, fun e he => h.hold e (by simpa [or_comm] using he), fun e he => h.high e (by simpa [or_comm] using he), by
    have := h.nodup
    simp only [List.map_cons, List.map_nil, List.nodup_cons, List.mem_singleton, List.not_mem_nil, not_false_eq_true, List.nodup_nil, and_true] at this ⊢
    exact fun e => this e.symm⟩
theorem below_nil {w W : World} {L : List (Nat × Array Value × TypeId)} (h : Kd [] w W L) : Below w.heap.size w W := h.kn.below

theorem cwF_wf {l r : List Int} {ps : List Pv} {p t s v : Int} (hwf : Wf l r ps 1048576) : Wf (cwF l r ps p t s v).l (cwF l r ps p t s v).r (cwF l r ps p t s v).ps 1048576 := by
  by_cases h : cwOk l r ps p t s v = true
  · exact wf_up (cwF_run hwf h).1.2.1 (by omega)
  · have e : cwF l r ps p t s v = ⟨l, r, ps, s, 0⟩ := by unfold cwF; rw [if_neg h]
    rw [e]
    exact hwf

end Go.Proofs.YtajfhalalnlejaaGreat

/- What SelectWith leaves, in numbers (promise 4). -/
namespace Go.Proofs.YtajfhalalnlejaaGreat
open Go.RowKit Go.ChangeShapes
set_option linter.unusedSimpArgs false
set_option linter.unusedVariables false
set_option maxRecDepth 100000

noncomputable def slOk (l r : List Int) (ps : List Pv) (p t s f u : Int) : Bool := isCk l r ps && isSet p t s && isR f u
/-- The column behind both divisions. -/
noncomputable def slB (l r : List Int) (ps : List Pv) (p t s f u : Int) : PS := cwF (cwF l r ps p t s f).l (cwF l r ps p t s f).r (cwF l r ps p t s f).ps p t (cwF l r ps p t s f).s u
noncomputable def slF (l r : List Int) (ps : List Pv) (p t s f u : Int) : PS :=
  if slOk l r ps p t s f u = true then ⟨(slB l r ps p t s f u).l, (slB l r ps p t s f u).r, (slB l r ps p t s f u).ps, (slB l r ps p t s f u).s, (cwF l r ps p t s f).n + (slB l r ps p t s f u).n⟩ else ⟨l, r, ps, s, 0⟩
noncomputable def slR (l r : List Int) (ps : List Pv) (p t s f u : Int) : List Int :=
  if slOk l r ps p t s f u = true then rbL (slB l r ps p t s f u).l (slB l r ps p t s f u).r (slB l r ps p t s f u).ps (fndP (slB l r ps p t s f u).ps f).1 (fndP (slB l r ps p t s f u).ps u).1 else []

theorem cw_small {l r : List Int} {ps : List Pv} {p t s v : Int} (hwf : Wf l r ps 1048576) : (cwF l r ps p t s v).n ≤ 200000000 := by
  by_cases h : cwOk l r ps p t s v = true
  · have := (cwF_run hwf h).1.2.2.2.2
    omega
  · have e : cwF l r ps p t s v = ⟨l, r, ps, s, 0⟩ := by unfold cwF; rw [if_neg h]
    rw [e]
    exact Nat.zero_le _

theorem slB_wf {l r : List Int} {ps : List Pv} {p t s f u : Int} (hwf : Wf l r ps 1048576) : Wf (slB l r ps p t s f u).l (slB l r ps p t s f u).r (slB l r ps p t s f u).ps 1048576 := cwF_wf (cwF_wf hwf)
theorem slF_wf {l r : List Int} {ps : List Pv} {p t s f u : Int} (hwf : Wf l r ps 1048576) : Wf (slF l r ps p t s f u).l (slF l r ps p t s f u).r (slF l r ps p t s f u).ps 1048576 := by
  unfold slF
  split
  · exact slB_wf hwf
  · exact hwf
theorem slR_len {l r : List Int} {ps : List Pv} {p t s f u : Int} (hwf : Wf l r ps 1048576) : (slR l r ps p t s f u).length ≤ 1048576 := by
  unfold slR
  split
  · have h1 := rbL_le (slB l r ps p t s f u).l (slB l r ps p t s f u).r (slB l r ps p t s f u).ps (fndP (slB l r ps p t s f u).ps f).1 (fndP (slB l r ps p t s f u).ps u).1
    have h2 := (slB_wf (p := p) (t := t) (s := s) (f := f) (u := u) hwf).2.1
    omega
  · simp
theorem slR_wf {l r : List Int} {ps : List Pv} {p t s f u : Int} (hwf : Wf l r ps 1048576) : ∀ x ∈ slR l r ps p t s f u, I64 x := by
  unfold slR
  split
  · exact fun x hx => (slB_wf hwf).2.2.2.2.1 x (rbL_mem x hx)
  · simp

theorem fnd_i64 {ps : List Pv} {v : Int} (h : ∀ p ∈ ps, I64 p.1 ∧ I64 p.2) : I64 (fndP ps v).1 := by
  cases hf : (fndP ps v).2
  · have : (fndP ps v).1 = 0 := by
      induction ps with
      | nil => rfl
      | cons q ps ih =>
        unfold fndP at hf ⊢
        split at hf
        · simp at hf
        · rename_i hq
          rw [if_neg hq]
          exact ih (fun p hp => h p (List.mem_cons_of_mem _ hp)) hf
    rw [this]
    exact ⟨by omega, by omega⟩
  · obtain ⟨q, hq, -, e⟩ := fnd_memb hf
    rw [← e]
    exact (h q hq).2

/-- A column of the call's own, settings, rows of the call's own and a number are returned; nothing that was there has turned. -/
def RetSW (w : World) (S : PS) (ns : List Int) (p t : Int) (e : Ending) (w' : World) : Prop := ∃ x y z v lo hi n1 h1 n2 h2 n3 h3 m mh, e = .returned (.tuple #[.agg #[x, y, z], .agg #[.int .i64 p, .int .i64 t, .int .i64 S.s], v, .int .i64 (S.n : Int)]) ∧ w.heap.size ≤ lo ∧ w.heap.size ≤ m ∧ (hi ≤ m ∨ mh ≤ lo) ∧ OC w' x y z S.l S.r S.ps lo hi n1 h1 n2 h2 n3 h3 ∧ Ow w' v ns m mh ∧ Below w.heap.size w w'

/-- An empty row in a block of its own. -/
theorem Ow.empty {W : World} {k : Nat} (h : W.heap[k]? = some (.cells #[] 3 (0, 0))) : Ow W (.slice (some ⟨k, 0, none⟩) 0 0) [] k (k + 1) :=
  have hk := (Array.getElem?_eq_some_iff.1 h).1
  ⟨⟨[k], ⟨⟨by simp [intVs], .inr ⟨k, 0, #[], rfl, Nat.zero_le _, h, Nat.le_refl _, by unfold maxLen; omega, rfl, by simp [intVs]⟩⟩, rfl⟩, by simp⟩, by omega, hk⟩

theorem Kn.put2c {w W : World} {L : List (Nat × Array Value × TypeId)} (h : Kn w W L) (i : Nat) {g : Nat} {a b : Value} {t : TypeId} (ho : L[i]? = some (g, #[a, b], t)) (x y : Value) :
    Kn w ((W.setCell ⟨g, 0, none⟩ x).setCell ⟨g, 1, none⟩ y) (L.set i (g, #[x, y], t)) := by
  have hi := (List.getElem?_eq_some_iff.1 ho).1
  have h1 := h.set i 0 ho x
  have h2 := h1.set i 1 (by rw [List.getElem?_set_self hi]) y
  simpa using h2

end Go.Proofs.YtajfhalalnlejaaGreat

/- What SelectWith of the program returns (promise 4). Written by gen_sw.py. -/
namespace Go.Proofs.YtajfhalalnlejaaGreat
open Go.RowKit Go.ChangeShapes
set_option linter.unusedSimpArgs false
set_option linter.unusedVariables false
set_option maxRecDepth 100000

set_option maxHeartbeats 20000000 in
theorem iSw_any (u : Value) (l r : List Int) (ps : List Pv) (p t s fa fb : Int) (w : World) (hv : CU w u l r ps) (hwf : Wf l r ps 1048576) (hfa : I64 fa) (hfb : I64 fb) :
    Calls Tryz.prog 14 #[u, .agg #[.int .i64 p, .int .i64 t, .int .i64 s], .agg #[.int .i64 fa, .int .i64 fb]] w (RetSW w (slF l r ps p t s fa fb) (slR l r ps p t s fa fb) p t) := by
  obtain ⟨a1, c1, a2, c2, a3, c3, rfl, -⟩ := Ck.form hv
  have X := hide ((((Kn.two w #[.slice a1 l.length c1, .slice a2 r.length c2, .slice a3 ps.length c3] #[.int .i64 p, .int .i64 t, .int .i64 s] 33 34).alloc #[.int .i64 fa, .int .i64 fb] 39).alloc #[.slice none 0 0, .slice none 0 0, .slice none 0 0] 33).alloc #[.int .i64 0, .int .i64 0, .int .i64 0] 34)
  obtain ⟨w1, hw1⟩ : ∃ w1, w1 = (((((w.alloc (.cells #[.slice a1 l.length c1, .slice a2 r.length c2, .slice a3 ps.length c3] 33)).alloc (.cells #[.int .i64 p, .int .i64 t, .int .i64 s] 34)).alloc (.cells #[.int .i64 fa, .int .i64 fb] 39)).alloc (.cells #[.slice none 0 0, .slice none 0 0, .slice none 0 0] 33)).alloc (.cells #[.int .i64 0, .int .i64 0, .int .i64 0] 34)) := ⟨_, rfl⟩
  simp only [List.cons_append, List.nil_append, World.size_alloc] at X
  rw [← hw1] at X
  have V := hide (hv.below X.out.below)
  have hz := hide (show w1.heap.size = w.heap.size + 1 + 1 + 1 + 1 + 1 by rw [hw1]; simp)
  clear hv
  have CC := hide (fun (W : World) (h : CU W (.agg #[.slice a1 l.length c1, .slice a2 r.length c2, .slice a3 ps.length c3]) l r ps) => iCopy_any _ l r ps W W.heap.size h (Nat.le_refl _) hwf.1 hwf.2.1 (by have := hwf.2.2.1; omega))
  obtain ⟨qc, hqc⟩ : ∃ q, q = isCk l r ps := ⟨_, rfl⟩
  obtain ⟨qs, hqs⟩ : ∃ q, q = isSet p t s := ⟨_, rfl⟩
  obtain ⟨qr, hqr⟩ : ∃ q, q = isR fa fb := ⟨_, rfl⟩
  have HCK := hide (fun (W : World) (h : CU W (.agg #[.slice a1 l.length c1, .slice a2 r.length c2, .slice a3 ps.length c3]) l r ps) => show Calls Tryz.prog 33 #[.agg #[.slice a1 l.length c1, .slice a2 r.length c2, .slice a3 ps.length c3]] W (RetB1 W qc) by rw [hqc]; exact iIsCk_any _ l r ps W W.heap.size h (Nat.le_refl _))
  have HCS := hide (fun (W : World) => show Calls Tryz.prog 34 #[.agg #[.int .i64 p, .int .i64 t, .int .i64 s]] W (RetB1 W qs) by rw [hqs]; exact iIsSet_any p t s W)
  have HCR := hide (fun (W : World) => show Calls Tryz.prog 65 #[.agg #[.int .i64 fa, .int .i64 fb]] W (RetB1 W qr) by rw [hqr]; exact iIsR_any fa fb W)
  obtain ⟨S9, hS9⟩ : ∃ q, q = slF l r ps p t s fa fb := ⟨_, rfl⟩
  obtain ⟨ns, hns⟩ : ∃ q, q = slR l r ps p t s fa fb := ⟨_, rfl⟩
  have NO := hide (fun (h : ¬(qc = true ∧ qs = true ∧ qr = true)) => show S9 = ⟨l, r, ps, s, 0⟩ ∧ ns = [] by
    have e : ¬(slOk l r ps p t s fa fb = true) := by
      unfold slOk
      simp only [Bool.and_eq_true, ← hqc, ← hqs, ← hqr]
      exact fun h2 => h ⟨h2.1.1, h2.1.2, h2.2⟩
    rw [hS9, hns]
    unfold slF slR
    rw [if_neg e, if_neg e]
    exact ⟨rfl, rfl⟩)
  obtain ⟨A, hA⟩ : ∃ q, q = cwF l r ps p t s fa := ⟨_, rfl⟩
  obtain ⟨D, hD⟩ : ∃ q, q = cwF A.l A.r A.ps p t A.s fb := ⟨_, rfl⟩
  have YES := hide (fun (h1 : qc = true) (h2 : qs = true) (h3 : qr = true) => show S9 = ⟨D.l, D.r, D.ps, D.s, A.n + D.n⟩ ∧ ns = rbL D.l D.r D.ps (fndP D.ps fa).1 (fndP D.ps fb).1 by
    have e : slOk l r ps p t s fa fb = true := by
      unfold slOk
      rw [← hqc, ← hqs, ← hqr, h1, h2, h3]
      rfl
    rw [hS9, hns]
    unfold slF slR
    rw [if_pos e, if_pos e, hD, hA]
    exact ⟨rfl, rfl⟩)
  have wA : Wf A.l A.r A.ps 1048576 := by rw [hA]; exact cwF_wf hwf
  have wD : Wf D.l D.r D.ps 1048576 := by rw [hD]; exact cwF_wf wA
  have nA : A.n ≤ 200000000 := by rw [hA]; exact cw_small hwf
  have nD : D.n ≤ 200000000 := by rw [hD]; exact cw_small wA
  have CW1 := hide (fun (W : World) (h : CU W (.agg #[.slice a1 l.length c1, .slice a2 r.length c2, .slice a3 ps.length c3]) l r ps) => show Calls Tryz.prog 30 #[.agg #[.slice a1 l.length c1, .slice a2 r.length c2, .slice a3 ps.length c3], .agg #[.int .i64 p, .int .i64 t, .int .i64 s], .int .i64 fa] W (RetCW W A p t) by rw [hA]; exact iCw_any _ l r ps p t s fa W h hwf hfa)
  have CW2 := hide (fun (W : World) (v : Value) (h : CU W v A.l A.r A.ps) => show Calls Tryz.prog 30 #[v, .agg #[.int .i64 p, .int .i64 t, .int .i64 A.s], .int .i64 fb] W (RetCW W D p t) by rw [hD]; exact iCw_any v A.l A.r A.ps p t A.s fb W h wA hfb)
  have OA := hide (fun (W : World) (x y z : Value) (lo hi n1 h1 n2 h2 n3 h3 : Nat) (h : OC W x y z A.l A.r A.ps lo hi n1 h1 n2 h2 n3 h3) => show CU W (.agg #[x, y, z]) A.l A.r A.ps from h.ck wA.2.2.2.1 wA.2.2.2.2.1 (Nat.le_trans wA.2.2.1 (by omega)) wA.2.2.2.2.2)
  have OD := hide (fun (W : World) (x y z : Value) (lo hi n1 h1 n2 h2 n3 h3 : Nat) (h : OC W x y z D.l D.r D.ps lo hi n1 h1 n2 h2 n3 h3) => show CU W (.agg #[x, y, z]) D.l D.r D.ps from h.ck wD.2.2.2.1 wD.2.2.2.2.1 (Nat.le_trans wD.2.2.1 (by omega)) wD.2.2.2.2.2)
  have CF := hide (fun (W : World) (v : Value) (x : Int) (h : CU W v D.l D.r D.ps) => show Calls Tryz.prog 67 #[v, .int .i64 x] W (RetPB W (fndP D.ps x)) from iFindP_any v D.l D.r D.ps x W W.heap.size h (Nat.le_refl _))
  have CR := hide (fun (W : World) (v : Value) (h : CU W v D.l D.r D.ps) => show Calls Tryz.prog 68 #[v, .int .i64 (fndP D.ps fa).1, .int .i64 (fndP D.ps fb).1] W (RetOw W (rbL D.l D.r D.ps (fndP D.ps fa).1 (fndP D.ps fb).1)) from iRows_any v D.l D.r D.ps _ _ W W.heap.size h (Nat.le_refl _) (fnd_i64 wD.2.2.2.2.2) (fnd_i64 wD.2.2.2.2.2) wD.2.1)
  rw [← hS9, ← hns]
  have HW := hide hwf
  have nAD := hide (show (A.n : Int) + (D.n : Int) ≤ 400000000 by omega)
  clear hqc hqs hqr hS9 hns hA hD hwf hfa hfb wA wD nA nD
  have d0 : w1.cell? ⟨w.heap.size, 0, none⟩ = some (.slice a1 l.length c1) := X.out.cell 0 0 rfl rfl
  have d1 : w1.cell? ⟨w.heap.size, 1, none⟩ = some (.slice a2 r.length c2) := X.out.cell 0 1 rfl rfl
  have d2 : w1.cell? ⟨w.heap.size, 2, none⟩ = some (.slice a3 ps.length c3) := X.out.cell 0 2 rfl rfl
  rw [hw1] at d0 d1 d2
  go_enter Tryz.func14, Tryz.ntmps14
  go_wp2_with fail
  rw [← hw1]
  clear hw1 d0 d1 d2
  obtain ⟨r2, hr2⟩ : ∃ q, q = w.heap.size + 1 + 1 + 1 + 1 := ⟨_, rfl⟩
  obtain ⟨r1, hr1⟩ : ∃ q, q = w.heap.size + 1 + 1 + 1 := ⟨_, rfl⟩
  obtain ⟨g1, hg1⟩ : ∃ q, q = w.heap.size + 1 + 1 := ⟨_, rfl⟩
  obtain ⟨s1, hs1⟩ : ∃ q, q = w.heap.size + 1 := ⟨_, rfl⟩
  obtain ⟨h0, hh0⟩ : ∃ q, q = w.heap.size := ⟨_, rfl⟩
  have HBL := hide (show h0 < s1 ∧ s1 < g1 ∧ g1 < r1 ∧ r1 < r2 ∧ w1.heap.size = r2 + 1 ∧ w.heap.size = h0 by have := hz.out; omega)
  rw [← hr2, ← hr1, ← hg1, ← hs1, ← hh0] at X
  rw [← hr2, ← hr1, ← hg1, ← hs1, ← hh0]
  clear hr2 hr1 hg1 hs1 hh0 hz
  have KA := hide (fun (W : World) (h : Kn w W [(h0, #[.slice a1 l.length c1, .slice a2 r.length c2, .slice a3 ps.length c3], 33), (s1, #[.int .i64 p, .int .i64 t, .int .i64 s], 34), (g1, #[.int .i64 fa, .int .i64 fb], 39), (r1, #[.slice none 0 0, .slice none 0 0, .slice none 0 0], 33), (r2, #[.int .i64 0, .int .i64 0, .int .i64 0], 34)]) => show W.cell? ⟨h0, 0, none⟩ = some (.slice a1 l.length c1) ∧ W.cell? ⟨h0, 1, none⟩ = some (.slice a2 r.length c2) ∧ W.cell? ⟨h0, 2, none⟩ = some (.slice a3 ps.length c3) ∧ W.cell? ⟨s1, 0, none⟩ = some (.int .i64 p) ∧ W.cell? ⟨s1, 1, none⟩ = some (.int .i64 t) ∧ W.cell? ⟨s1, 2, none⟩ = some (.int .i64 s) ∧ W.cell? ⟨g1, 0, none⟩ = some (.int .i64 fa) ∧ W.cell? ⟨g1, 1, none⟩ = some (.int .i64 fb) ∧ W.cell? ⟨r1, 0, none⟩ = some (.slice none 0 0) ∧ W.cell? ⟨r1, 1, none⟩ = some (.slice none 0 0) ∧ W.cell? ⟨r1, 2, none⟩ = some (.slice none 0 0) ∧ W.cell? ⟨r2, 0, none⟩ = some (.int .i64 0) ∧ W.cell? ⟨r2, 1, none⟩ = some (.int .i64 0) ∧ W.cell? ⟨r2, 2, none⟩ = some (.int .i64 0) ∧ W.frozen? ⟨s1, 0, none⟩ = false ∧ W.frozen? ⟨s1, 1, none⟩ = false ∧ W.frozen? ⟨s1, 2, none⟩ = false ∧ W.frozen? ⟨r1, 0, none⟩ = false ∧ W.frozen? ⟨r1, 1, none⟩ = false ∧ W.frozen? ⟨r1, 2, none⟩ = false ∧ W.frozen? ⟨r2, 0, none⟩ = false ∧ W.frozen? ⟨r2, 1, none⟩ = false ∧ W.frozen? ⟨r2, 2, none⟩ = false from ⟨h.cell 0 0 rfl rfl, h.cell 0 1 rfl rfl, h.cell 0 2 rfl rfl, h.cell 1 0 rfl rfl, h.cell 1 1 rfl rfl, h.cell 1 2 rfl rfl, h.cell 2 0 rfl rfl, h.cell 2 1 rfl rfl, h.cell 3 0 rfl rfl, h.cell 3 1 rfl rfl, h.cell 3 2 rfl rfl, h.cell 4 0 rfl rfl, h.cell 4 1 rfl rfl, h.cell 4 2 rfl rfl, h.free 1 0 rfl, h.free 1 1 rfl, h.free 1 2 rfl, h.free 3 0 rfl, h.free 3 1 rfl, h.free 3 2 rfl, h.free 4 0 rfl, h.free 4 1 rfl, h.free 4 2 rfl⟩)
  go_at_call 33
  refine (HCK.out _ V.out).mono ?_
  rintro e w4 ⟨rfl, hb⟩
  have X := hide (X.out.up hb)
  have V := hide (V.out.below hb)
  clear hb
  cases qc with
  | false =>
    obtain ⟨rfl, rfl⟩ := NO.out (by simp)
    have ner1r2 : r1 ≠ r2 := by have := HBL.out; omega
    have ner2r1 : r2 ≠ r1 := by have := HBL.out; omega
    have nes1r1 : s1 ≠ r1 := by have := HBL.out; omega
    have nes1r2 : s1 ≠ r2 := by have := HBL.out; omega
    have neh0r1 : h0 ≠ r1 := by have := HBL.out; omega
    have neh0r2 : h0 ≠ r2 := by have := HBL.out; omega
    clear YES CW1 CW2 OA OD CF CR nAD HCS HCR HCK
    obtain ⟨c00, c01, c02, c10, c11, c12, c20, c21, c30, c31, c32, c40, c41, c42, e10, e11, e12, e30, e31, e32, e40, e41, e42⟩ := KA.out _ X.out
    go_upto_region 2 with fail
    clear c00 c01 c02 c10 c11 c12 c20 c21 c30 c31 c32 c40 c41 c42 e10 e11 e12 e30 e31 e32 e40 e41 e42
    have X := hide X.out.drew
    have V := hide (V.out.below (Below.refl _ _).drew)
    obtain ⟨c00, c01, c02, c10, c11, c12, c20, c21, c30, c31, c32, c40, c41, c42, e10, e11, e12, e30, e31, e32, e40, e41, e42⟩ := KA.out _ X.out
    go_region_with (first
      | (go_at_call 66; refine (CC.out _ V.out).mono ?_; rintro e wq ⟨x', y', z', lo, hi, n1, h1, n2, h2, n3, h3, rfl, q1, q2, O, hb⟩; obtain ⟨b1, k1, rfl⟩ := O.x.form; obtain ⟨b2, k2, rfl⟩ := O.y.form; obtain ⟨b3, k3, rfl⟩ := O.z.own.form; have hlo := hide (show r2 + 1 ≤ lo from Nat.le_trans (Nat.succ_le_of_lt (X.out.lt 4 rfl)) q1); replace X := hide (X.out.up hb); have O := hide O; clear hb q1 q2 c00 c01 c02 c10 c11 c12 c20 c21 c30 c31 c32 c40 c41 c42 e10 e11 e12 e30 e31 e32 e40 e41 e42; obtain ⟨c00, c01, c02, c10, c11, c12, c20, c21, c30, c31, c32, c40, c41, c42, e10, e11, e12, e30, e31, e32, e40, e41, e42⟩ := KA.out _ X.out))
    all_goals
      clear c00 c01 c02 c10 c11 c12 c20 c21 c30 c31 c32 c40 c41 c42 e10 e11 e12 e30 e31 e32 e40 e41 e42
      have Z := (X.out.put3c 3 rfl (.slice b1 l.length k1) (.slice b2 r.length k2) (.slice b3 ps.length k3)).put3c 4 rfl (.int .i64 p) (.int .i64 t) (.int .i64 s)
      have z0 := Z.cell 3 0 rfl rfl
      have z1 := Z.cell 3 1 rfl rfl
      have z2 := Z.cell 3 2 rfl rfl
      have z3 := Z.cell 4 0 rfl rfl
      have z4 := Z.cell 4 1 rfl rfl
      have z5 := Z.cell 4 2 rfl rfl
      have O9 := (O.out.seg (seg3 _ r1 (.slice b1 l.length k1) (.slice b2 r.length k2) (.slice b3 ps.length k3)) (.inr (by have := hlo.out; have := HBL.out; omega))).seg (seg3 _ r2 (.int .i64 p) (.int .i64 t) (.int .i64 s)) (.inr (by have := hlo.out; have := HBL.out; omega))
      rename ∀ (a : Act) (w' : World), Code.wp _ Code.ret _ a w' → _ => HK
      refine HK _ _ ?_
      refine wp_ret ?_
      exact bodyPost_ret (v := .tuple #[.agg #[.slice b1 l.length k1, .slice b2 r.length k2, .slice b3 ps.length k3], .agg #[.int .i64 p, .int .i64 t, .int .i64 s], .slice none 0 0, .int .i64 0]) (by simp [results, Tryz.results14, go_sem, z0, z1, z2, z3, z4, z5]) rfl
        ⟨_, _, _, _, lo, hi, n1, h1, n2, h2, n3, h3, _, _, rfl, by have := hlo.out; have := HBL.out; omega, Z.below.size, .inl O9.top.2, O9, Ow.nil (Nat.le_refl _), Z.below⟩
  | true =>
    obtain ⟨c00, c01, c02, c10, c11, c12, c20, c21, c30, c31, c32, c40, c41, c42, e10, e11, e12, e30, e31, e32, e40, e41, e42⟩ := KA.out _ X.out
    go_wp2_with fail
    clear c00 c01 c02 c10 c11 c12 c20 c21 c30 c31 c32 c40 c41 c42 e10 e11 e12 e30 e31 e32 e40 e41 e42
    go_at_call 34
    refine (HCS.out _).mono ?_
    rintro e w5 ⟨rfl, hb⟩
    have X := hide (X.out.up hb)
    have V := hide (V.out.below hb)
    clear hb
    cases qs with
    | false =>
      obtain ⟨rfl, rfl⟩ := NO.out (by simp)
      have ner1r2 : r1 ≠ r2 := by have := HBL.out; omega
      have ner2r1 : r2 ≠ r1 := by have := HBL.out; omega
      have nes1r1 : s1 ≠ r1 := by have := HBL.out; omega
      have nes1r2 : s1 ≠ r2 := by have := HBL.out; omega
      have neh0r1 : h0 ≠ r1 := by have := HBL.out; omega
      have neh0r2 : h0 ≠ r2 := by have := HBL.out; omega
      clear YES CW1 CW2 OA OD CF CR nAD HCS HCR HCK
      obtain ⟨c00, c01, c02, c10, c11, c12, c20, c21, c30, c31, c32, c40, c41, c42, e10, e11, e12, e30, e31, e32, e40, e41, e42⟩ := KA.out _ X.out
      go_upto_region 2 with fail
      clear c00 c01 c02 c10 c11 c12 c20 c21 c30 c31 c32 c40 c41 c42 e10 e11 e12 e30 e31 e32 e40 e41 e42
      have X := hide X.out.drew
      have V := hide (V.out.below (Below.refl _ _).drew)
      obtain ⟨c00, c01, c02, c10, c11, c12, c20, c21, c30, c31, c32, c40, c41, c42, e10, e11, e12, e30, e31, e32, e40, e41, e42⟩ := KA.out _ X.out
      go_region_with (first
        | (go_at_call 66; refine (CC.out _ V.out).mono ?_; rintro e wq ⟨x', y', z', lo, hi, n1, h1, n2, h2, n3, h3, rfl, q1, q2, O, hb⟩; obtain ⟨b1, k1, rfl⟩ := O.x.form; obtain ⟨b2, k2, rfl⟩ := O.y.form; obtain ⟨b3, k3, rfl⟩ := O.z.own.form; have hlo := hide (show r2 + 1 ≤ lo from Nat.le_trans (Nat.succ_le_of_lt (X.out.lt 4 rfl)) q1); replace X := hide (X.out.up hb); have O := hide O; clear hb q1 q2 c00 c01 c02 c10 c11 c12 c20 c21 c30 c31 c32 c40 c41 c42 e10 e11 e12 e30 e31 e32 e40 e41 e42; obtain ⟨c00, c01, c02, c10, c11, c12, c20, c21, c30, c31, c32, c40, c41, c42, e10, e11, e12, e30, e31, e32, e40, e41, e42⟩ := KA.out _ X.out))
      all_goals
        clear c00 c01 c02 c10 c11 c12 c20 c21 c30 c31 c32 c40 c41 c42 e10 e11 e12 e30 e31 e32 e40 e41 e42
        have Z := (X.out.put3c 3 rfl (.slice b1 l.length k1) (.slice b2 r.length k2) (.slice b3 ps.length k3)).put3c 4 rfl (.int .i64 p) (.int .i64 t) (.int .i64 s)
        have z0 := Z.cell 3 0 rfl rfl
        have z1 := Z.cell 3 1 rfl rfl
        have z2 := Z.cell 3 2 rfl rfl
        have z3 := Z.cell 4 0 rfl rfl
        have z4 := Z.cell 4 1 rfl rfl
        have z5 := Z.cell 4 2 rfl rfl
        have O9 := (O.out.seg (seg3 _ r1 (.slice b1 l.length k1) (.slice b2 r.length k2) (.slice b3 ps.length k3)) (.inr (by have := hlo.out; have := HBL.out; omega))).seg (seg3 _ r2 (.int .i64 p) (.int .i64 t) (.int .i64 s)) (.inr (by have := hlo.out; have := HBL.out; omega))
        rename ∀ (a : Act) (w' : World), Code.wp _ Code.ret _ a w' → _ => HK
        refine HK _ _ ?_
        refine wp_ret ?_
        exact bodyPost_ret (v := .tuple #[.agg #[.slice b1 l.length k1, .slice b2 r.length k2, .slice b3 ps.length k3], .agg #[.int .i64 p, .int .i64 t, .int .i64 s], .slice none 0 0, .int .i64 0]) (by simp [results, Tryz.results14, go_sem, z0, z1, z2, z3, z4, z5]) rfl
          ⟨_, _, _, _, lo, hi, n1, h1, n2, h2, n3, h3, _, _, rfl, by have := hlo.out; have := HBL.out; omega, Z.below.size, .inl O9.top.2, O9, Ow.nil (Nat.le_refl _), Z.below⟩
    | true =>
      obtain ⟨c00, c01, c02, c10, c11, c12, c20, c21, c30, c31, c32, c40, c41, c42, e10, e11, e12, e30, e31, e32, e40, e41, e42⟩ := KA.out _ X.out
      go_wp2_with fail
      clear c00 c01 c02 c10 c11 c12 c20 c21 c30 c31 c32 c40 c41 c42 e10 e11 e12 e30 e31 e32 e40 e41 e42
      go_at_call 65
      refine (HCR.out _).mono ?_
      rintro e w6 ⟨rfl, hb⟩
      have X := hide (X.out.up hb)
      have V := hide (V.out.below hb)
      clear hb
      cases qr with
      | false =>
        obtain ⟨rfl, rfl⟩ := NO.out (by simp)
        have ner1r2 : r1 ≠ r2 := by have := HBL.out; omega
        have ner2r1 : r2 ≠ r1 := by have := HBL.out; omega
        have nes1r1 : s1 ≠ r1 := by have := HBL.out; omega
        have nes1r2 : s1 ≠ r2 := by have := HBL.out; omega
        have neh0r1 : h0 ≠ r1 := by have := HBL.out; omega
        have neh0r2 : h0 ≠ r2 := by have := HBL.out; omega
        clear YES CW1 CW2 OA OD CF CR nAD HCS HCR HCK
        obtain ⟨c00, c01, c02, c10, c11, c12, c20, c21, c30, c31, c32, c40, c41, c42, e10, e11, e12, e30, e31, e32, e40, e41, e42⟩ := KA.out _ X.out
        go_upto_region 2 with fail
        clear c00 c01 c02 c10 c11 c12 c20 c21 c30 c31 c32 c40 c41 c42 e10 e11 e12 e30 e31 e32 e40 e41 e42
        have X := hide X.out.drew
        have V := hide (V.out.below (Below.refl _ _).drew)
        obtain ⟨c00, c01, c02, c10, c11, c12, c20, c21, c30, c31, c32, c40, c41, c42, e10, e11, e12, e30, e31, e32, e40, e41, e42⟩ := KA.out _ X.out
        go_region_with (first
          | (go_at_call 66; refine (CC.out _ V.out).mono ?_; rintro e wq ⟨x', y', z', lo, hi, n1, h1, n2, h2, n3, h3, rfl, q1, q2, O, hb⟩; obtain ⟨b1, k1, rfl⟩ := O.x.form; obtain ⟨b2, k2, rfl⟩ := O.y.form; obtain ⟨b3, k3, rfl⟩ := O.z.own.form; have hlo := hide (show r2 + 1 ≤ lo from Nat.le_trans (Nat.succ_le_of_lt (X.out.lt 4 rfl)) q1); replace X := hide (X.out.up hb); have O := hide O; clear hb q1 q2 c00 c01 c02 c10 c11 c12 c20 c21 c30 c31 c32 c40 c41 c42 e10 e11 e12 e30 e31 e32 e40 e41 e42; obtain ⟨c00, c01, c02, c10, c11, c12, c20, c21, c30, c31, c32, c40, c41, c42, e10, e11, e12, e30, e31, e32, e40, e41, e42⟩ := KA.out _ X.out))
        all_goals
          clear c00 c01 c02 c10 c11 c12 c20 c21 c30 c31 c32 c40 c41 c42 e10 e11 e12 e30 e31 e32 e40 e41 e42
          have Z := (X.out.put3c 3 rfl (.slice b1 l.length k1) (.slice b2 r.length k2) (.slice b3 ps.length k3)).put3c 4 rfl (.int .i64 p) (.int .i64 t) (.int .i64 s)
          have z0 := Z.cell 3 0 rfl rfl
          have z1 := Z.cell 3 1 rfl rfl
          have z2 := Z.cell 3 2 rfl rfl
          have z3 := Z.cell 4 0 rfl rfl
          have z4 := Z.cell 4 1 rfl rfl
          have z5 := Z.cell 4 2 rfl rfl
          have O9 := (O.out.seg (seg3 _ r1 (.slice b1 l.length k1) (.slice b2 r.length k2) (.slice b3 ps.length k3)) (.inr (by have := hlo.out; have := HBL.out; omega))).seg (seg3 _ r2 (.int .i64 p) (.int .i64 t) (.int .i64 s)) (.inr (by have := hlo.out; have := HBL.out; omega))
          rename ∀ (a : Act) (w' : World), Code.wp _ Code.ret _ a w' → _ => HK
          refine HK _ _ ?_
          refine wp_ret ?_
          exact bodyPost_ret (v := .tuple #[.agg #[.slice b1 l.length k1, .slice b2 r.length k2, .slice b3 ps.length k3], .agg #[.int .i64 p, .int .i64 t, .int .i64 s], .slice none 0 0, .int .i64 0]) (by simp [results, Tryz.results14, go_sem, z0, z1, z2, z3, z4, z5]) rfl
            ⟨_, _, _, _, lo, hi, n1, h1, n2, h2, n3, h3, _, _, rfl, by have := hlo.out; have := HBL.out; omega, Z.below.size, .inl O9.top.2, O9, Ow.nil (Nat.le_refl _), Z.below⟩
      | true =>
        obtain ⟨rfl, rfl⟩ := YES.out (by simp) (by simp) (by simp)
        clear NO YES CC HCK HCS HCR
        obtain ⟨c00, c01, c02, c10, c11, c12, c20, c21, c30, c31, c32, c40, c41, c42, e10, e11, e12, e30, e31, e32, e40, e41, e42⟩ := KA.out _ X.out
        go_wp2_with fail
        clear c00 c01 c02 c10 c11 c12 c20 c21 c30 c31 c32 c40 c41 c42 e10 e11 e12 e30 e31 e32 e40 e41 e42
        go_at_call 30
        refine (CW1.out _ V.out).mono ?_
        rintro e w7 ⟨x', y', z', lo, hi, n1, h1, n2, h2, n3, h3, rfl, q1, q2, O, hb⟩
        obtain ⟨b1, k1, rfl⟩ := O.x.form
        obtain ⟨b2, k2, rfl⟩ := O.y.form
        obtain ⟨b3, k3, rfl⟩ := O.z.own.form
        have hlo := hide (show r2 + 1 ≤ lo from Nat.le_trans (Nat.succ_le_of_lt (X.out.lt 4 rfl)) q1)
        have X := hide (X.out.up hb)
        have O := hide O
        clear hb q1 q2 V CW1
        obtain ⟨c00, c01, c02, c10, c11, c12, c20, c21, c30, c31, c32, c40, c41, c42, e10, e11, e12, e30, e31, e32, e40, e41, e42⟩ := KA.out _ X.out
        have ls1 : s1 < w7.heap.size := X.out.lt 1 rfl
        have lr2 : r2 < w7.heap.size := X.out.lt 4 rfl
        have HTOP := O.out.top.2
        obtain ⟨w8, hw8⟩ : ∃ q, q = (((w7.setCell ⟨s1, 0, none⟩ (.int .i64 p)).setCell ⟨s1, 1, none⟩ (.int .i64 t)).setCell ⟨s1, 2, none⟩ (.int .i64 A.s)).alloc (.cells #[.slice b1 A.l.length k1, .slice b2 A.r.length k2, .slice b3 A.ps.length k3] 33) := ⟨_, rfl⟩
        have X := hide ((X.out.put3c 1 rfl (.int .i64 p) (.int .i64 t) (.int .i64 A.s)).alloc #[.slice b1 A.l.length k1, .slice b2 A.r.length k2, .slice b3 A.ps.length k3] 33)
        have O := hide ((O.out.seg (seg3 _ s1 (.int .i64 p) (.int .i64 t) (.int .i64 A.s)) (.inr (by have := hlo.out; have := HBL.out; omega))).below (below1 _ (.cells #[.slice b1 A.l.length k1, .slice b2 A.r.length k2, .slice b3 A.ps.length k3] 33)))
        rw [← hw8] at X O
        obtain ⟨gx, hgx⟩ : ∃ q, q = w7.heap.size := ⟨_, rfl⟩
        simp only [World.size_setCell, List.set_cons_zero, List.set_cons_succ, List.cons_append, List.nil_append] at X
        rw [← hgx] at X
        have HGX := hide (show hi ≤ gx ∧ w8.heap.size = gx + 1 from ⟨by rw [hgx]; exact HTOP, by rw [hw8, hgx]; simp⟩)
        clear HTOP
        have c00 : w8.cell? ⟨h0, 0, none⟩ = some (.slice a1 l.length c1) := X.out.cell 0 0 rfl rfl
        have c01 : w8.cell? ⟨h0, 1, none⟩ = some (.slice a2 r.length c2) := X.out.cell 0 1 rfl rfl
        have c02 : w8.cell? ⟨h0, 2, none⟩ = some (.slice a3 ps.length c3) := X.out.cell 0 2 rfl rfl
        have c10 : w8.cell? ⟨s1, 0, none⟩ = some (.int .i64 p) := X.out.cell 1 0 rfl rfl
        have c11 : w8.cell? ⟨s1, 1, none⟩ = some (.int .i64 t) := X.out.cell 1 1 rfl rfl
        have c12 : w8.cell? ⟨s1, 2, none⟩ = some (.int .i64 A.s) := X.out.cell 1 2 rfl rfl
        have c20 : w8.cell? ⟨g1, 0, none⟩ = some (.int .i64 fa) := X.out.cell 2 0 rfl rfl
        have c21 : w8.cell? ⟨g1, 1, none⟩ = some (.int .i64 fb) := X.out.cell 2 1 rfl rfl
        have c30 : w8.cell? ⟨r1, 0, none⟩ = some (.slice none 0 0) := X.out.cell 3 0 rfl rfl
        have c31 : w8.cell? ⟨r1, 1, none⟩ = some (.slice none 0 0) := X.out.cell 3 1 rfl rfl
        have c32 : w8.cell? ⟨r1, 2, none⟩ = some (.slice none 0 0) := X.out.cell 3 2 rfl rfl
        have c40 : w8.cell? ⟨r2, 0, none⟩ = some (.int .i64 0) := X.out.cell 4 0 rfl rfl
        have c41 : w8.cell? ⟨r2, 1, none⟩ = some (.int .i64 0) := X.out.cell 4 1 rfl rfl
        have c42 : w8.cell? ⟨r2, 2, none⟩ = some (.int .i64 0) := X.out.cell 4 2 rfl rfl
        have c50 : w8.cell? ⟨gx, 0, none⟩ = some (.slice b1 A.l.length k1) := X.out.cell 5 0 rfl rfl
        have c51 : w8.cell? ⟨gx, 1, none⟩ = some (.slice b2 A.r.length k2) := X.out.cell 5 1 rfl rfl
        have c52 : w8.cell? ⟨gx, 2, none⟩ = some (.slice b3 A.ps.length k3) := X.out.cell 5 2 rfl rfl
        rw [hw8] at c00 c01 c02 c10 c11 c12 c20 c21 c30 c31 c32 c40 c41 c42 c50 c51 c52
        clear c00 c01 c02
        skip
        go_wp2_with fail
        rw [← hw8]
        try rw [← hgx]
        have hgx2 := hide (show r2 < gx from by rw [hgx]; exact lr2)
        clear hw8 hgx c10 c11 c12 c20 c21 c30 c31 c32 c40 c41 c42 c50 c51 c52
        skip
        go_at_call 30
        refine (CW2.out _ _ (OA.out _ _ _ _ _ _ _ _ _ _ _ _ O.out)).mono ?_
        rintro e w9 ⟨x', y', z', lo2, hi2, m1, i1, m2, i2, m3, i3, rfl, q1, q2, P, hb⟩
        obtain ⟨d1, j1, rfl⟩ := P.x.form
        obtain ⟨d2, j2, rfl⟩ := P.y.form
        obtain ⟨d3, j3, rfl⟩ := P.z.own.form
        have hlo2 := hide (show gx + 1 ≤ lo2 ∧ r2 + 1 ≤ lo2 from by have := HGX.out; have := hlo.out; have := O.out.top.1; omega)
        have X := hide (X.out.up hb)
        have P := hide P
        clear hb q1 q2 O CW2 OA HGX
        have c10 : w9.cell? ⟨s1, 0, none⟩ = some (.int .i64 p) := X.out.cell 1 0 rfl rfl
        have c11 : w9.cell? ⟨s1, 1, none⟩ = some (.int .i64 t) := X.out.cell 1 1 rfl rfl
        have c12 : w9.cell? ⟨s1, 2, none⟩ = some (.int .i64 A.s) := X.out.cell 1 2 rfl rfl
        have c20 : w9.cell? ⟨g1, 0, none⟩ = some (.int .i64 fa) := X.out.cell 2 0 rfl rfl
        have c21 : w9.cell? ⟨g1, 1, none⟩ = some (.int .i64 fb) := X.out.cell 2 1 rfl rfl
        have c50 : w9.cell? ⟨gx, 0, none⟩ = some (.slice b1 A.l.length k1) := X.out.cell 5 0 rfl rfl
        have c51 : w9.cell? ⟨gx, 1, none⟩ = some (.slice b2 A.r.length k2) := X.out.cell 5 1 rfl rfl
        have c52 : w9.cell? ⟨gx, 2, none⟩ = some (.slice b3 A.ps.length k3) := X.out.cell 5 2 rfl rfl
        have e10 : w9.frozen? ⟨s1, 0, none⟩ = false := X.out.free 1 0 rfl
        have e11 : w9.frozen? ⟨s1, 1, none⟩ = false := X.out.free 1 1 rfl
        have e12 : w9.frozen? ⟨s1, 2, none⟩ = false := X.out.free 1 2 rfl
        have e50 : w9.frozen? ⟨gx, 0, none⟩ = false := X.out.free 5 0 rfl
        have e51 : w9.frozen? ⟨gx, 1, none⟩ = false := X.out.free 5 1 rfl
        have e52 : w9.frozen? ⟨gx, 2, none⟩ = false := X.out.free 5 2 rfl
        have ngs : gx ≠ s1 := by have := hgx2.out; have := HBL.out; omega
        have nsg : s1 ≠ gx := by have := hgx2.out; have := HBL.out; omega
        obtain ⟨w10, hw10⟩ : ∃ q, q = ((((((w9.setCell ⟨gx, 0, none⟩ (.slice d1 D.l.length j1)).setCell ⟨gx, 1, none⟩ (.slice d2 D.r.length j2)).setCell ⟨gx, 2, none⟩ (.slice d3 D.ps.length j3)).setCell ⟨s1, 0, none⟩ (.int .i64 p)).setCell ⟨s1, 1, none⟩ (.int .i64 t)).setCell ⟨s1, 2, none⟩ (.int .i64 D.s)) := ⟨_, rfl⟩
        have X := hide ((X.out.put3c 5 rfl (.slice d1 D.l.length j1) (.slice d2 D.r.length j2) (.slice d3 D.ps.length j3)).put3c 1 rfl (.int .i64 p) (.int .i64 t) (.int .i64 D.s))
        have P := hide ((P.out.seg (seg3 _ gx (.slice d1 D.l.length j1) (.slice d2 D.r.length j2) (.slice d3 D.ps.length j3)) (.inr (by have := hlo2.out; omega))).seg (seg3 _ s1 (.int .i64 p) (.int .i64 t) (.int .i64 D.s)) (.inr (by have := hlo2.out; have := HBL.out; omega)))
        simp only [List.set_cons_zero, List.set_cons_succ] at X
        rw [← hw10] at X P
        have c20 : w10.cell? ⟨g1, 0, none⟩ = some (.int .i64 fa) := X.out.cell 2 0 rfl rfl
        have c21 : w10.cell? ⟨g1, 1, none⟩ = some (.int .i64 fb) := X.out.cell 2 1 rfl rfl
        have c50 : w10.cell? ⟨gx, 0, none⟩ = some (.slice d1 D.l.length j1) := X.out.cell 5 0 rfl rfl
        have c51 : w10.cell? ⟨gx, 1, none⟩ = some (.slice d2 D.r.length j2) := X.out.cell 5 1 rfl rfl
        have c52 : w10.cell? ⟨gx, 2, none⟩ = some (.slice d3 D.ps.length j3) := X.out.cell 5 2 rfl rfl
        rw [hw10] at c20 c21 c50 c51 c52
        go_wp2_with fail
        rw [← hw10]
        clear hw10 c10 c11 c12 c20 c21 c50 c51 c52 e10 e11 e12 e50 e51 e52
        skip
        go_at_call 67
        refine (CF.out _ _ _ (OD.out _ _ _ _ _ _ _ _ _ _ _ _ P.out)).mono ?_
        rintro e w11 ⟨rfl, hb⟩
        have X := hide (X.out.up hb)
        have P := hide (P.out.below hb)
        clear hb
        have c20 : w11.cell? ⟨g1, 0, none⟩ = some (.int .i64 fa) := X.out.cell 2 0 rfl rfl
        have c21 : w11.cell? ⟨g1, 1, none⟩ = some (.int .i64 fb) := X.out.cell 2 1 rfl rfl
        have c50 : w11.cell? ⟨gx, 0, none⟩ = some (.slice d1 D.l.length j1) := X.out.cell 5 0 rfl rfl
        have c51 : w11.cell? ⟨gx, 1, none⟩ = some (.slice d2 D.r.length j2) := X.out.cell 5 1 rfl rfl
        have c52 : w11.cell? ⟨gx, 2, none⟩ = some (.slice d3 D.ps.length j3) := X.out.cell 5 2 rfl rfl
        go_wp2_with fail
        clear c20 c21 c50 c51 c52
        go_at_call 67
        refine (CF.out _ _ _ (OD.out _ _ _ _ _ _ _ _ _ _ _ _ P.out)).mono ?_
        rintro e w12 ⟨rfl, hb⟩
        have X := hide (X.out.up hb)
        have P := hide (P.out.below hb)
        clear hb
        skip
        have c30 : w12.cell? ⟨r1, 0, none⟩ = some (.slice none 0 0) := X.out.cell 3 0 rfl rfl
        have c31 : w12.cell? ⟨r1, 1, none⟩ = some (.slice none 0 0) := X.out.cell 3 1 rfl rfl
        have c32 : w12.cell? ⟨r1, 2, none⟩ = some (.slice none 0 0) := X.out.cell 3 2 rfl rfl
        have c40 : w12.cell? ⟨r2, 0, none⟩ = some (.int .i64 0) := X.out.cell 4 0 rfl rfl
        have c41 : w12.cell? ⟨r2, 1, none⟩ = some (.int .i64 0) := X.out.cell 4 1 rfl rfl
        have c42 : w12.cell? ⟨r2, 2, none⟩ = some (.int .i64 0) := X.out.cell 4 2 rfl rfl
        have c10 : w12.cell? ⟨s1, 0, none⟩ = some (.int .i64 p) := X.out.cell 1 0 rfl rfl
        have c11 : w12.cell? ⟨s1, 1, none⟩ = some (.int .i64 t) := X.out.cell 1 1 rfl rfl
        have c12 : w12.cell? ⟨s1, 2, none⟩ = some (.int .i64 D.s) := X.out.cell 1 2 rfl rfl
        have c50 : w12.cell? ⟨gx, 0, none⟩ = some (.slice d1 D.l.length j1) := X.out.cell 5 0 rfl rfl
        have c51 : w12.cell? ⟨gx, 1, none⟩ = some (.slice d2 D.r.length j2) := X.out.cell 5 1 rfl rfl
        have c52 : w12.cell? ⟨gx, 2, none⟩ = some (.slice d3 D.ps.length j3) := X.out.cell 5 2 rfl rfl
        have e30 : w12.frozen? ⟨r1, 0, none⟩ = false := X.out.free 3 0 rfl
        have e31 : w12.frozen? ⟨r1, 1, none⟩ = false := X.out.free 3 1 rfl
        have e32 : w12.frozen? ⟨r1, 2, none⟩ = false := X.out.free 3 2 rfl
        have e40 : w12.frozen? ⟨r2, 0, none⟩ = false := X.out.free 4 0 rfl
        have e41 : w12.frozen? ⟨r2, 1, none⟩ = false := X.out.free 4 1 rfl
        have e42 : w12.frozen? ⟨r2, 2, none⟩ = false := X.out.free 4 2 rfl
        have hw : wrap64 ((A.n : Int) + (D.n : Int)) = ((A.n + D.n : Nat) : Int) := by rw [IntWalk.wrap64_in _ (by have := nAD.out; omega)]; simp
        have hw2 : IntKind.i64.wrap ((A.n : Int) + (D.n : Int)) = ((A.n + D.n : Nat) : Int) := by rw [IntWalk.i64_left]; exact hw
        obtain ⟨NN, hNN⟩ : ∃ q, q = ((A.n + D.n : Nat) : Int) := ⟨_, rfl⟩
        rw [← hNN] at hw hw2
        have HNN := hide hNN
        clear hNN
        obtain ⟨fp, hfp⟩ : ∃ q, q = (fndP D.ps fa).1 := ⟨_, rfl⟩
        obtain ⟨fq, hfq⟩ : ∃ q, q = (fndP D.ps fb).1 := ⟨_, rfl⟩
        rw [← hfp, ← hfq] at CR
        rw [← hfp, ← hfq]
        have HFP := hide hfp
        have HFQ := hide hfq
        clear hfp hfq
        obtain ⟨rb, hrb⟩ : ∃ q, q = rbL D.l D.r D.ps fp fq := ⟨_, rfl⟩
        rw [← hrb] at CR
        have HRB := hide (show rb = rbL D.l D.r D.ps (fndP D.ps fa).1 (fndP D.ps fb).1 by rw [hrb, HFP.out, HFQ.out])
        clear hrb
        go_upto_region 7 with fail
        clear c30 c31 c32 c40 c41 c42 c10 c11 c12 c50 c51 c52 e30 e31 e32 e40 e41 e42
        have X := hide X.out.drew
        have P := hide (P.out.below (Below.refl _ _).drew)
        have hr2 := hide (show r2 < w12.heap.size from X.out.lt 4 rfl)
        have hP2 := hide P.out.top.2
        have ner1r2 : r1 ≠ r2 := by have := HBL.out; have := hgx2.out; omega
        have ner2r1 : r2 ≠ r1 := by have := HBL.out; have := hgx2.out; omega
        have nes1r1 : s1 ≠ r1 := by have := HBL.out; have := hgx2.out; omega
        have nes1r2 : s1 ≠ r2 := by have := HBL.out; have := hgx2.out; omega
        have negxr1 : gx ≠ r1 := by have := HBL.out; have := hgx2.out; omega
        have negxr2 : gx ≠ r2 := by have := HBL.out; have := hgx2.out; omega
        have c30 : w12.drew.cell? ⟨r1, 0, none⟩ = some (.slice none 0 0) := X.out.cell 3 0 rfl rfl
        have c31 : w12.drew.cell? ⟨r1, 1, none⟩ = some (.slice none 0 0) := X.out.cell 3 1 rfl rfl
        have c32 : w12.drew.cell? ⟨r1, 2, none⟩ = some (.slice none 0 0) := X.out.cell 3 2 rfl rfl
        have c40 : w12.drew.cell? ⟨r2, 0, none⟩ = some (.int .i64 0) := X.out.cell 4 0 rfl rfl
        have c41 : w12.drew.cell? ⟨r2, 1, none⟩ = some (.int .i64 0) := X.out.cell 4 1 rfl rfl
        have c42 : w12.drew.cell? ⟨r2, 2, none⟩ = some (.int .i64 0) := X.out.cell 4 2 rfl rfl
        have c10 : w12.drew.cell? ⟨s1, 0, none⟩ = some (.int .i64 p) := X.out.cell 1 0 rfl rfl
        have c11 : w12.drew.cell? ⟨s1, 1, none⟩ = some (.int .i64 t) := X.out.cell 1 1 rfl rfl
        have c12 : w12.drew.cell? ⟨s1, 2, none⟩ = some (.int .i64 D.s) := X.out.cell 1 2 rfl rfl
        have c50 : w12.drew.cell? ⟨gx, 0, none⟩ = some (.slice d1 D.l.length j1) := X.out.cell 5 0 rfl rfl
        have c51 : w12.drew.cell? ⟨gx, 1, none⟩ = some (.slice d2 D.r.length j2) := X.out.cell 5 1 rfl rfl
        have c52 : w12.drew.cell? ⟨gx, 2, none⟩ = some (.slice d3 D.ps.length j3) := X.out.cell 5 2 rfl rfl
        have e30 : w12.drew.frozen? ⟨r1, 0, none⟩ = false := X.out.free 3 0 rfl
        have e31 : w12.drew.frozen? ⟨r1, 1, none⟩ = false := X.out.free 3 1 rfl
        have e32 : w12.drew.frozen? ⟨r1, 2, none⟩ = false := X.out.free 3 2 rfl
        have e40 : w12.drew.frozen? ⟨r2, 0, none⟩ = false := X.out.free 4 0 rfl
        have e41 : w12.drew.frozen? ⟨r2, 1, none⟩ = false := X.out.free 4 1 rfl
        have e42 : w12.drew.frozen? ⟨r2, 2, none⟩ = false := X.out.free 4 2 rfl
        go_region_with (first
          | (go_at_call 68; refine (CR.out _ _ (OD.out _ _ _ _ _ _ _ _ _ _ _ _ P.out)).mono ?_; rintro e wq ⟨v', mh, rfl, Q, hb⟩; obtain ⟨gv, kv, rfl⟩ := Q.form; have hq := hide (show r2 < w12.heap.size from hr2.out); replace X := hide (X.out.up hb); replace P := hide (P.out.below hb); have Q := hide Q; clear hb c30 c31 c32 c40 c41 c42 c10 c11 c12 c50 c51 c52 e30 e31 e32 e40 e41 e42; have c30 : wq.cell? ⟨r1, 0, none⟩ = some (.slice none 0 0) := X.out.cell 3 0 rfl rfl; have c31 : wq.cell? ⟨r1, 1, none⟩ = some (.slice none 0 0) := X.out.cell 3 1 rfl rfl; have c32 : wq.cell? ⟨r1, 2, none⟩ = some (.slice none 0 0) := X.out.cell 3 2 rfl rfl; have c40 : wq.cell? ⟨r2, 0, none⟩ = some (.int .i64 0) := X.out.cell 4 0 rfl rfl; have c41 : wq.cell? ⟨r2, 1, none⟩ = some (.int .i64 0) := X.out.cell 4 1 rfl rfl; have c42 : wq.cell? ⟨r2, 2, none⟩ = some (.int .i64 0) := X.out.cell 4 2 rfl rfl; have c10 : wq.cell? ⟨s1, 0, none⟩ = some (.int .i64 p) := X.out.cell 1 0 rfl rfl; have c11 : wq.cell? ⟨s1, 1, none⟩ = some (.int .i64 t) := X.out.cell 1 1 rfl rfl; have c12 : wq.cell? ⟨s1, 2, none⟩ = some (.int .i64 D.s) := X.out.cell 1 2 rfl rfl; have c50 : wq.cell? ⟨gx, 0, none⟩ = some (.slice d1 D.l.length j1) := X.out.cell 5 0 rfl rfl; have c51 : wq.cell? ⟨gx, 1, none⟩ = some (.slice d2 D.r.length j2) := X.out.cell 5 1 rfl rfl; have c52 : wq.cell? ⟨gx, 2, none⟩ = some (.slice d3 D.ps.length j3) := X.out.cell 5 2 rfl rfl; have e30 : wq.frozen? ⟨r1, 0, none⟩ = false := X.out.free 3 0 rfl; have e31 : wq.frozen? ⟨r1, 1, none⟩ = false := X.out.free 3 1 rfl; have e32 : wq.frozen? ⟨r1, 2, none⟩ = false := X.out.free 3 2 rfl; have e40 : wq.frozen? ⟨r2, 0, none⟩ = false := X.out.free 4 0 rfl; have e41 : wq.frozen? ⟨r2, 1, none⟩ = false := X.out.free 4 1 rfl; have e42 : wq.frozen? ⟨r2, 2, none⟩ = false := X.out.free 4 2 rfl))
        all_goals
          clear c30 c31 c32 c40 c41 c42 c10 c11 c12 c50 c51 c52 e30 e31 e32 e40 e41 e42
          have Z := (X.out.put3c 3 rfl (.slice d1 D.l.length j1) (.slice d2 D.r.length j2) (.slice d3 D.ps.length j3)).put3c 4 rfl (.int .i64 p) (.int .i64 t) (.int .i64 D.s)
          have z0 := Z.cell 3 0 rfl rfl
          have z1 := Z.cell 3 1 rfl rfl
          have z2 := Z.cell 3 2 rfl rfl
          have z3 := Z.cell 4 0 rfl rfl
          have z4 := Z.cell 4 1 rfl rfl
          have z5 := Z.cell 4 2 rfl rfl
          have O9 := (P.out.seg (seg3 _ r1 (.slice d1 D.l.length j1) (.slice d2 D.r.length j2) (.slice d3 D.ps.length j3)) (.inr (by have := hlo2.out; have := HBL.out; omega))).seg (seg3 _ r2 (.int .i64 p) (.int .i64 t) (.int .i64 D.s)) (.inr (by have := hlo2.out; have := HBL.out; omega))
          have Q9 := (Q.out.seg (seg3 _ r1 (.slice d1 D.l.length j1) (.slice d2 D.r.length j2) (.slice d3 D.ps.length j3)) (.inr (by have := hq.out; have := HBL.out; simp; omega))).seg (seg3 _ r2 (.int .i64 p) (.int .i64 t) (.int .i64 D.s)) (.inr (by have := hq.out; have := HBL.out; simp; omega))
          have hPQ := hP2.out
          rename ∀ (a : Act) (w' : World), Code.wp _ Code.ret _ a w' → _ => HK
          refine HK _ _ ?_
          refine wp_ret ?_
          exact bodyPost_ret (v := .tuple #[.agg #[.slice d1 D.l.length j1, .slice d2 D.r.length j2, .slice d3 D.ps.length j3], .agg #[.int .i64 p, .int .i64 t, .int .i64 D.s], .slice gv rb.length kv, .int .i64 NN]) (by simp [results, Tryz.results14, go_sem, z0, z1, z2, z3, z4, z5]) rfl
            ⟨_, _, _, _, lo2, hi2, m1, i1, m2, i2, m3, i3, _, mh, by rw [HNN.out], by have := hlo2.out; have := HBL.out; omega, by have := hq.out; have := HBL.out; simp; omega, .inl hPQ, O9, by rw [← HRB.out]; exact Q9, Z.below⟩

end Go.Proofs.YtajfhalalnlejaaGreat

/- What SelectWith of the reference returns (promise 4). Written by gen_sw.py. -/
namespace Go.Proofs.YtajfhalalnlejaaGreat
open Go.RowKit Go.ChangeShapes
set_option linter.unusedSimpArgs false
set_option linter.unusedVariables false
set_option maxRecDepth 100000

theorem Only.alloc {F : List Nat} {a w : World} (h : Only F a w) (o : Obj) : Only F a (w.alloc o) := h.trans (Only.of_below (below1 _ _))
theorem Only.up {F : List Nat} {a w w' : World} (h : Only F a w) (hb : Below w.heap.size w w') : Only F a w' := h.trans (Only.of_below hb)
theorem Only.set3 {F : List Nat} {a w : World} (h : Only F a w) {b : Nat} (hb : b ∈ F) (x y z : Value) : Only F a (((w.setCell ⟨b, 0, none⟩ x).setCell ⟨b, 1, none⟩ y).setCell ⟨b, 2, none⟩ z) := ((h.setCell hb x).setCell hb y).setCell hb z

set_option maxHeartbeats 20000000 in
theorem sSw_any (u : Value) (l r : List Int) (ps : List Pv) (p t s fa fb : Int) (w : World) (hv : CU w u l r ps) (hwf : Wf l r ps 1048576) (hfa : I64 fa) (hfb : I64 fb) :
    Calls Tryz.prog 10 #[u, .agg #[.int .i64 p, .int .i64 t, .int .i64 s], .agg #[.int .i64 fa, .int .i64 fb]] w (RetSW w (slF l r ps p t s fa fb) (slR l r ps p t s fa fb) p t) := by
  obtain ⟨a1, c1, a2, c2, a3, c3, rfl, -⟩ := Ck.form hv
  have X := hide ((((Kn.two w #[.slice a1 l.length c1, .slice a2 r.length c2, .slice a3 ps.length c3] #[.int .i64 p, .int .i64 t, .int .i64 s] 33 34).alloc #[.int .i64 fa, .int .i64 fb] 39).alloc #[.slice none 0 0, .slice none 0 0, .slice none 0 0] 33).alloc #[.int .i64 0, .int .i64 0, .int .i64 0] 34)
  obtain ⟨w1, hw1⟩ : ∃ w1, w1 = (((((w.alloc (.cells #[.slice a1 l.length c1, .slice a2 r.length c2, .slice a3 ps.length c3] 33)).alloc (.cells #[.int .i64 p, .int .i64 t, .int .i64 s] 34)).alloc (.cells #[.int .i64 fa, .int .i64 fb] 39)).alloc (.cells #[.slice none 0 0, .slice none 0 0, .slice none 0 0] 33)).alloc (.cells #[.int .i64 0, .int .i64 0, .int .i64 0] 34)) := ⟨_, rfl⟩
  simp only [List.cons_append, List.nil_append, World.size_alloc] at X
  rw [← hw1] at X
  have V := hide (hv.below X.out.below)
  have hz := hide (show w1.heap.size = w.heap.size + 1 + 1 + 1 + 1 + 1 by rw [hw1]; simp)
  clear hv
  have CC := hide (fun (W : World) (h : CU W (.agg #[.slice a1 l.length c1, .slice a2 r.length c2, .slice a3 ps.length c3]) l r ps) => sCopy_any _ l r ps W W.heap.size h (Nat.le_refl _) hwf.1 hwf.2.1 (by have := hwf.2.2.1; omega))
  obtain ⟨qc, hqc⟩ : ∃ q, q = isCk l r ps := ⟨_, rfl⟩
  obtain ⟨qs, hqs⟩ : ∃ q, q = isSet p t s := ⟨_, rfl⟩
  obtain ⟨qr, hqr⟩ : ∃ q, q = isR fa fb := ⟨_, rfl⟩
  have HCK := hide (fun (W : World) (h : CU W (.agg #[.slice a1 l.length c1, .slice a2 r.length c2, .slice a3 ps.length c3]) l r ps) => show Calls Tryz.prog 26 #[.agg #[.slice a1 l.length c1, .slice a2 r.length c2, .slice a3 ps.length c3]] W (RetB1 W qc) by rw [hqc]; exact sIsCk_any _ l r ps W W.heap.size h (Nat.le_refl _))
  have HCS := hide (fun (W : World) => show Calls Tryz.prog 27 #[.agg #[.int .i64 p, .int .i64 t, .int .i64 s]] W (RetB1 W qs) by rw [hqs]; exact sIsSet_any p t s W)
  have HCR := hide (fun (W : World) => show Calls Tryz.prog 28 #[.agg #[.int .i64 fa, .int .i64 fb]] W (RetB1 W qr) by rw [hqr]; exact sIsR_any fa fb W)
  obtain ⟨S9, hS9⟩ : ∃ q, q = slF l r ps p t s fa fb := ⟨_, rfl⟩
  obtain ⟨ns, hns⟩ : ∃ q, q = slR l r ps p t s fa fb := ⟨_, rfl⟩
  have NO := hide (fun (h : ¬(qc = true ∧ qs = true ∧ qr = true)) => show S9 = ⟨l, r, ps, s, 0⟩ ∧ ns = [] by
    have e : ¬(slOk l r ps p t s fa fb = true) := by
      unfold slOk
      simp only [Bool.and_eq_true, ← hqc, ← hqs, ← hqr]
      exact fun h2 => h ⟨h2.1.1, h2.1.2, h2.2⟩
    rw [hS9, hns]
    unfold slF slR
    rw [if_neg e, if_neg e]
    exact ⟨rfl, rfl⟩)
  obtain ⟨A, hA⟩ : ∃ q, q = cwF l r ps p t s fa := ⟨_, rfl⟩
  obtain ⟨D, hD⟩ : ∃ q, q = cwF A.l A.r A.ps p t A.s fb := ⟨_, rfl⟩
  have YES := hide (fun (h1 : qc = true) (h2 : qs = true) (h3 : qr = true) => show S9 = ⟨D.l, D.r, D.ps, D.s, A.n + D.n⟩ ∧ ns = rbL D.l D.r D.ps (fndP D.ps fa).1 (fndP D.ps fb).1 by
    have e : slOk l r ps p t s fa fb = true := by
      unfold slOk
      rw [← hqc, ← hqs, ← hqr, h1, h2, h3]
      rfl
    rw [hS9, hns]
    unfold slF slR
    rw [if_pos e, if_pos e, hD, hA]
    exact ⟨rfl, rfl⟩)
  have wA : Wf A.l A.r A.ps 1048576 := by rw [hA]; exact cwF_wf hwf
  have wD : Wf D.l D.r D.ps 1048576 := by rw [hD]; exact cwF_wf wA
  have nA : A.n ≤ 200000000 := by rw [hA]; exact cw_small hwf
  have nD : D.n ≤ 200000000 := by rw [hD]; exact cw_small wA
  have CW1 := hide (fun (W : World) (h : CU W (.agg #[.slice a1 l.length c1, .slice a2 r.length c2, .slice a3 ps.length c3]) l r ps) => show Calls Tryz.prog 31 #[.agg #[.slice a1 l.length c1, .slice a2 r.length c2, .slice a3 ps.length c3], .agg #[.int .i64 p, .int .i64 t, .int .i64 s], .int .i64 fa] W (RetCW W A p t) by rw [hA]; exact sCw_any _ l r ps p t s fa W h hwf hfa)
  have CW2 := hide (fun (W : World) (v : Value) (h : CU W v A.l A.r A.ps) => show Calls Tryz.prog 31 #[v, .agg #[.int .i64 p, .int .i64 t, .int .i64 A.s], .int .i64 fb] W (RetCW W D p t) by rw [hD]; exact sCw_any v A.l A.r A.ps p t A.s fb W h wA hfb)
  have OA := hide (fun (W : World) (x y z : Value) (lo hi n1 h1 n2 h2 n3 h3 : Nat) (h : OC W x y z A.l A.r A.ps lo hi n1 h1 n2 h2 n3 h3) => show CU W (.agg #[x, y, z]) A.l A.r A.ps from h.ck wA.2.2.2.1 wA.2.2.2.2.1 (Nat.le_trans wA.2.2.1 (by omega)) wA.2.2.2.2.2)
  have OD := hide (fun (W : World) (x y z : Value) (lo hi n1 h1 n2 h2 n3 h3 : Nat) (h : OC W x y z D.l D.r D.ps lo hi n1 h1 n2 h2 n3 h3) => show CU W (.agg #[x, y, z]) D.l D.r D.ps from h.ck wD.2.2.2.1 wD.2.2.2.2.1 (Nat.le_trans wD.2.2.1 (by omega)) wD.2.2.2.2.2)
  have CF := hide (fun (W : World) (v : Value) (x : Int) (h : CU W v D.l D.r D.ps) => show Calls Tryz.prog 62 #[v, .int .i64 x] W (RetPB W (fndP D.ps x)) from sFindP_any v D.l D.r D.ps x W W.heap.size h (Nat.le_refl _))
  have CR := hide (fun (W : World) (v : Value) (h : CU W v D.l D.r D.ps) => show Calls Tryz.prog 63 #[v, .int .i64 (fndP D.ps fa).1, .int .i64 (fndP D.ps fb).1] W (RetOw W (rbL D.l D.r D.ps (fndP D.ps fa).1 (fndP D.ps fb).1)) from sRows_any v D.l D.r D.ps _ _ W W.heap.size h (Nat.le_refl _) (fnd_i64 wD.2.2.2.2.2) (fnd_i64 wD.2.2.2.2.2) wD.2.1)
  rw [← hS9, ← hns]
  have HW := hide hwf
  have nAD := hide (show (A.n : Int) + (D.n : Int) ≤ 400000000 by omega)
  clear hqc hqs hqr hS9 hns hA hD hwf hfa hfb wA wD nA nD
  have d0 : w1.cell? ⟨w.heap.size, 0, none⟩ = some (.slice a1 l.length c1) := X.out.cell 0 0 rfl rfl
  have d1 : w1.cell? ⟨w.heap.size, 1, none⟩ = some (.slice a2 r.length c2) := X.out.cell 0 1 rfl rfl
  have d2 : w1.cell? ⟨w.heap.size, 2, none⟩ = some (.slice a3 ps.length c3) := X.out.cell 0 2 rfl rfl
  rw [hw1] at d0 d1 d2
  go_enter Tryz.func10, Tryz.ntmps10
  go_wp2_with fail
  rw [← hw1]
  clear hw1 d0 d1 d2
  obtain ⟨r2, hr2⟩ : ∃ q, q = w.heap.size + 1 + 1 + 1 + 1 := ⟨_, rfl⟩
  obtain ⟨r1, hr1⟩ : ∃ q, q = w.heap.size + 1 + 1 + 1 := ⟨_, rfl⟩
  obtain ⟨g1, hg1⟩ : ∃ q, q = w.heap.size + 1 + 1 := ⟨_, rfl⟩
  obtain ⟨s1, hs1⟩ : ∃ q, q = w.heap.size + 1 := ⟨_, rfl⟩
  obtain ⟨h0, hh0⟩ : ∃ q, q = w.heap.size := ⟨_, rfl⟩
  have HBL := hide (show h0 < s1 ∧ s1 < g1 ∧ g1 < r1 ∧ r1 < r2 ∧ w1.heap.size = r2 + 1 ∧ w.heap.size = h0 by have := hz.out; omega)
  rw [← hr2, ← hr1, ← hg1, ← hs1, ← hh0] at X
  rw [← hr2, ← hr1, ← hg1, ← hs1, ← hh0]
  clear hr2 hr1 hg1 hs1 hh0 hz
  have KA := hide (fun (W : World) (h : Kn w W [(h0, #[.slice a1 l.length c1, .slice a2 r.length c2, .slice a3 ps.length c3], 33), (s1, #[.int .i64 p, .int .i64 t, .int .i64 s], 34), (g1, #[.int .i64 fa, .int .i64 fb], 39), (r1, #[.slice none 0 0, .slice none 0 0, .slice none 0 0], 33), (r2, #[.int .i64 0, .int .i64 0, .int .i64 0], 34)]) => show W.cell? ⟨h0, 0, none⟩ = some (.slice a1 l.length c1) ∧ W.cell? ⟨h0, 1, none⟩ = some (.slice a2 r.length c2) ∧ W.cell? ⟨h0, 2, none⟩ = some (.slice a3 ps.length c3) ∧ W.cell? ⟨s1, 0, none⟩ = some (.int .i64 p) ∧ W.cell? ⟨s1, 1, none⟩ = some (.int .i64 t) ∧ W.cell? ⟨s1, 2, none⟩ = some (.int .i64 s) ∧ W.cell? ⟨g1, 0, none⟩ = some (.int .i64 fa) ∧ W.cell? ⟨g1, 1, none⟩ = some (.int .i64 fb) ∧ W.cell? ⟨r1, 0, none⟩ = some (.slice none 0 0) ∧ W.cell? ⟨r1, 1, none⟩ = some (.slice none 0 0) ∧ W.cell? ⟨r1, 2, none⟩ = some (.slice none 0 0) ∧ W.cell? ⟨r2, 0, none⟩ = some (.int .i64 0) ∧ W.cell? ⟨r2, 1, none⟩ = some (.int .i64 0) ∧ W.cell? ⟨r2, 2, none⟩ = some (.int .i64 0) ∧ W.frozen? ⟨s1, 0, none⟩ = false ∧ W.frozen? ⟨s1, 1, none⟩ = false ∧ W.frozen? ⟨s1, 2, none⟩ = false ∧ W.frozen? ⟨r1, 0, none⟩ = false ∧ W.frozen? ⟨r1, 1, none⟩ = false ∧ W.frozen? ⟨r1, 2, none⟩ = false ∧ W.frozen? ⟨r2, 0, none⟩ = false ∧ W.frozen? ⟨r2, 1, none⟩ = false ∧ W.frozen? ⟨r2, 2, none⟩ = false ∧ h0 < W.heap.size ∧ s1 < W.heap.size ∧ r1 < W.heap.size ∧ r2 < W.heap.size from ⟨h.cell 0 0 rfl rfl, h.cell 0 1 rfl rfl, h.cell 0 2 rfl rfl, h.cell 1 0 rfl rfl, h.cell 1 1 rfl rfl, h.cell 1 2 rfl rfl, h.cell 2 0 rfl rfl, h.cell 2 1 rfl rfl, h.cell 3 0 rfl rfl, h.cell 3 1 rfl rfl, h.cell 3 2 rfl rfl, h.cell 4 0 rfl rfl, h.cell 4 1 rfl rfl, h.cell 4 2 rfl rfl, h.free 1 0 rfl, h.free 1 1 rfl, h.free 1 2 rfl, h.free 3 0 rfl, h.free 3 1 rfl, h.free 3 2 rfl, h.free 4 0 rfl, h.free 4 1 rfl, h.free 4 2 rfl, h.lt 0 rfl, h.lt 1 rfl, h.lt 3 rfl, h.lt 4 rfl⟩)
  go_at_call 26
  refine (HCK.out _ V.out).mono ?_
  rintro e w4 ⟨rfl, hb⟩
  have X := hide (X.out.up hb)
  have V := hide (V.out.below hb)
  clear hb
  cases qc with
  | false =>
    obtain ⟨rfl, rfl⟩ := NO.out (by simp)
    have ner1r2 : r1 ≠ r2 := by have := HBL.out; omega
    have ner2r1 : r2 ≠ r1 := by have := HBL.out; omega
    have nes1r1 : s1 ≠ r1 := by have := HBL.out; omega
    have nes1r2 : s1 ≠ r2 := by have := HBL.out; omega
    have neh0r1 : h0 ≠ r1 := by have := HBL.out; omega
    have neh0r2 : h0 ≠ r2 := by have := HBL.out; omega
    clear YES CW1 CW2 OA OD CF CR nAD HCS HCR HCK
    obtain ⟨c00, c01, c02, c10, c11, c12, c20, c21, c30, c31, c32, c40, c41, c42, e10, e11, e12, e30, e31, e32, e40, e41, e42, l0', l1', l3', l4'⟩ := KA.out _ X.out
    go_upto_region 2 with fail
    clear c00 c01 c02 c10 c11 c12 c20 c21 c30 c31 c32 c40 c41 c42 e10 e11 e12 e30 e31 e32 e40 e41 e42 l0' l1' l3' l4'
    have X0 := X
    have V0 := V
    have KA2 := hide (fun (W : World) (T_ : List (Nat × Array Value × TypeId)) (h : Kn w W ((h0, #[.slice a1 l.length c1, .slice a2 r.length c2, .slice a3 ps.length c3], 33) :: (s1, #[.int .i64 p, .int .i64 t, .int .i64 s], 34) :: (g1, #[.int .i64 fa, .int .i64 fb], 39) :: (r1, #[.slice none 0 0, .slice none 0 0, .slice none 0 0], 33) :: (r2, #[.int .i64 0, .int .i64 0, .int .i64 0], 34) :: T_)) => show W.cell? ⟨h0, 0, none⟩ = some (.slice a1 l.length c1) ∧ W.cell? ⟨h0, 1, none⟩ = some (.slice a2 r.length c2) ∧ W.cell? ⟨h0, 2, none⟩ = some (.slice a3 ps.length c3) ∧ W.cell? ⟨s1, 0, none⟩ = some (.int .i64 p) ∧ W.cell? ⟨s1, 1, none⟩ = some (.int .i64 t) ∧ W.cell? ⟨s1, 2, none⟩ = some (.int .i64 s) ∧ W.cell? ⟨g1, 0, none⟩ = some (.int .i64 fa) ∧ W.cell? ⟨g1, 1, none⟩ = some (.int .i64 fb) ∧ W.cell? ⟨r1, 0, none⟩ = some (.slice none 0 0) ∧ W.cell? ⟨r1, 1, none⟩ = some (.slice none 0 0) ∧ W.cell? ⟨r1, 2, none⟩ = some (.slice none 0 0) ∧ W.cell? ⟨r2, 0, none⟩ = some (.int .i64 0) ∧ W.cell? ⟨r2, 1, none⟩ = some (.int .i64 0) ∧ W.cell? ⟨r2, 2, none⟩ = some (.int .i64 0) ∧ W.frozen? ⟨s1, 0, none⟩ = false ∧ W.frozen? ⟨s1, 1, none⟩ = false ∧ W.frozen? ⟨s1, 2, none⟩ = false ∧ W.frozen? ⟨r1, 0, none⟩ = false ∧ W.frozen? ⟨r1, 1, none⟩ = false ∧ W.frozen? ⟨r1, 2, none⟩ = false ∧ W.frozen? ⟨r2, 0, none⟩ = false ∧ W.frozen? ⟨r2, 1, none⟩ = false ∧ W.frozen? ⟨r2, 2, none⟩ = false ∧ h0 < W.heap.size ∧ s1 < W.heap.size ∧ r1 < W.heap.size ∧ r2 < W.heap.size from ⟨h.cell 0 0 rfl rfl, h.cell 0 1 rfl rfl, h.cell 0 2 rfl rfl, h.cell 1 0 rfl rfl, h.cell 1 1 rfl rfl, h.cell 1 2 rfl rfl, h.cell 2 0 rfl rfl, h.cell 2 1 rfl rfl, h.cell 3 0 rfl rfl, h.cell 3 1 rfl rfl, h.cell 3 2 rfl rfl, h.cell 4 0 rfl rfl, h.cell 4 1 rfl rfl, h.cell 4 2 rfl rfl, h.free 1 0 rfl, h.free 1 1 rfl, h.free 1 2 rfl, h.free 3 0 rfl, h.free 3 1 rfl, h.free 3 2 rfl, h.free 4 0 rfl, h.free 4 1 rfl, h.free 4 2 rfl, h.lt 0 rfl, h.lt 1 rfl, h.lt 3 rfl, h.lt 4 rfl⟩)
    have X := hide X.out.drew
    have V := hide (V.out.below (Below.refl _ _).drew)
    obtain ⟨c00, c01, c02, c10, c11, c12, c20, c21, c30, c31, c32, c40, c41, c42, e10, e11, e12, e30, e31, e32, e40, e41, e42, l0', l1', l3', l4'⟩ := KA.out _ X.out
    have Y := hide ((Only.refl [r1, r2] w4).drew)
    have HM1 := hide (show r1 ∈ [r1, r2] by simp)
    have HM2 := hide (show r2 ∈ [r1, r2] by simp)
    have KB := hide (fun (W : World) (h : Only [r1, r2] w4 W) => show W.cell? ⟨h0, 0, none⟩ = some (.slice a1 l.length c1) ∧ W.cell? ⟨h0, 1, none⟩ = some (.slice a2 r.length c2) ∧ W.cell? ⟨h0, 2, none⟩ = some (.slice a3 ps.length c3) ∧ W.cell? ⟨s1, 0, none⟩ = some (.int .i64 p) ∧ W.cell? ⟨s1, 1, none⟩ = some (.int .i64 t) ∧ W.cell? ⟨s1, 2, none⟩ = some (.int .i64 s) by
      have hB := HBL.out
      have l0 := X0.out.lt 0 rfl
      have l1 := X0.out.lt 1 rfl
      have b0 := (h.block h0 l0 (by simp; omega)).trans (X0.out.mem 0 rfl)
      have b1 := (h.block s1 l1 (by simp; omega)).trans (X0.out.mem 1 rfl)
      exact ⟨cell_of_row W h0 0 _ _ (0, 0) b0, cell_of_row W h0 1 _ _ (0, 0) b0, cell_of_row W h0 2 _ _ (0, 0) b0, cell_of_row W s1 0 _ _ (0, 0) b1, cell_of_row W s1 1 _ _ (0, 0) b1, cell_of_row W s1 2 _ _ (0, 0) b1⟩)
    go_region_held3 (fun W => W.cell? ⟨h0, 0, none⟩ = some (.slice a1 l.length c1) ∧ W.cell? ⟨h0, 1, none⟩ = some (.slice a2 r.length c2) ∧ W.cell? ⟨h0, 2, none⟩ = some (.slice a3 ps.length c3) ∧ W.cell? ⟨s1, 0, none⟩ = some (.int .i64 p) ∧ W.cell? ⟨s1, 1, none⟩ = some (.int .i64 t) ∧ W.cell? ⟨s1, 2, none⟩ = some (.int .i64 s)) (first | with_reducible exact KB.out _ (Y.out) | with_reducible exact KB.out _ ((Y.out).alloc _) | with_reducible exact KB.out _ (Y.out.set3 HM1.out _ _ _) | with_reducible exact KB.out _ ((Y.out.set3 HM1.out _ _ _).alloc _) | with_reducible exact KB.out _ (Y.out.set3 HM2.out _ _ _) | with_reducible exact KB.out _ ((Y.out.set3 HM2.out _ _ _).alloc _) | with_reducible exact KB.out _ ((Y.out.set3 HM1.out _ _ _).set3 HM2.out _ _ _) | with_reducible exact KB.out _ (((Y.out.set3 HM1.out _ _ _).set3 HM2.out _ _ _).alloc _) | with_reducible exact KB.out _ ((Y.out.set3 HM2.out _ _ _).set3 HM1.out _ _ _) | with_reducible exact KB.out _ (((Y.out.set3 HM2.out _ _ _).set3 HM1.out _ _ _).alloc _) | with_reducible exact KB.out _ ((Only.refl [r1, r2] w4).alloc _).drew | go_keep) (first
      | (go_at_call 61; refine (CC.out _ (by first | with_reducible exact V.out | with_reducible exact V0.out.below (below1 _ _).drew | with_reducible exact V.out.below (below1 _ _))).mono ?_; rintro e wq ⟨x', y', z', lo, hi, n1, h1, n2, h2, n3, h3, rfl, q1, q2, O, hb⟩; obtain ⟨b1, k1, rfl⟩ := O.x.form; obtain ⟨b2, k2, rfl⟩ := O.y.form; obtain ⟨b3, k3, rfl⟩ := O.z.own.form; have hlo := hide (show r2 + 1 ≤ lo from (by have := X0.out.lt 4 rfl; (try simp only [World.size_alloc, World.size_drew] at q1); omega)); (try simp only [World.size_alloc, World.size_drew] at q1); have HQ1 := hide q1; have HTP := hide O.top.2; (first | replace X := hide (by with_reducible exact X.out.up hb) | replace X := hide (by with_reducible exact X.out.upA hb) | replace X := hide (by with_reducible exact X0.out.upD hb)); (first | replace Y := hide (by with_reducible exact Y.out.up hb) | replace Y := hide (by with_reducible exact (Y.out.alloc _).up hb) | replace Y := hide (by with_reducible exact ((Only.refl [r1, r2] _).alloc _).drew.up hb)); (try simp only [List.cons_append, List.nil_append] at X); have O := hide O; clear hb q1 q2 c00 c01 c02 c10 c11 c12 c20 c21 c30 c31 c32 c40 c41 c42 e10 e11 e12 e30 e31 e32 e40 e41 e42 l0' l1' l3' l4'; obtain ⟨c00, c01, c02, c10, c11, c12, c20, c21, c30, c31, c32, c40, c41, c42, e10, e11, e12, e30, e31, e32, e40, e41, e42, l0', l1', l3', l4'⟩ := KA2.out wq _ X.out))
    all_goals
      clear c00 c01 c02 c10 c11 c12 c20 c21 c30 c31 c32 c40 c41 c42 e10 e11 e12 e30 e31 e32 e40 e41 e42 l0' l1' l3' l4'
      have Z := (X.out.put3c 3 rfl (.slice b1 l.length k1) (.slice b2 r.length k2) (.slice b3 ps.length k3)).put3c 4 rfl (.int .i64 p) (.int .i64 t) (.int .i64 s)
      have z0 := Z.cell 3 0 rfl rfl
      have z1 := Z.cell 3 1 rfl rfl
      have z2 := Z.cell 3 2 rfl rfl
      have z3 := Z.cell 4 0 rfl rfl
      have z4 := Z.cell 4 1 rfl rfl
      have z5 := Z.cell 4 2 rfl rfl
      have O9 := (O.out.seg (seg3 _ r1 (.slice b1 l.length k1) (.slice b2 r.length k2) (.slice b3 ps.length k3)) (.inr (by have := hlo.out; have := HBL.out; omega))).seg (seg3 _ r2 (.int .i64 p) (.int .i64 t) (.int .i64 s)) (.inr (by have := hlo.out; have := HBL.out; omega))
      rename ∀ (a : Act) (w' : World), Code.wp _ Code.ret _ a w' → _ => HK
      refine HK _ _ ?_
      refine wp_ret ?_
      first
        | (have Z5 := Z.mem 5 rfl
           exact bodyPost_ret (v := .tuple #[.agg #[.slice b1 l.length k1, .slice b2 r.length k2, .slice b3 ps.length k3], .agg #[.int .i64 p, .int .i64 t, .int .i64 s], .slice (some ⟨w4.heap.size, 0, none⟩) 0 0, .int .i64 0]) (by simp [results, Tryz.results10, go_sem, z0, z1, z2, z3, z4, z5]) rfl ⟨_, _, _, _, lo, hi, n1, h1, n2, h2, n3, h3, w4.heap.size, _, rfl, by have := hlo.out; have := HBL.out; omega, by have := Z.low 5 rfl; omega, .inr (by have := HQ1.out; omega), O9, Ow.empty Z5, Z.below⟩)
        | (have Y := Z.alloc #[] 3
           simp only [World.size_setCell, List.set_cons_zero, List.set_cons_succ, List.cons_append, List.nil_append] at Y
           have z0 := Y.cell 3 0 rfl rfl
           have z1 := Y.cell 3 1 rfl rfl
           have z2 := Y.cell 3 2 rfl rfl
           have z3 := Y.cell 4 0 rfl rfl
           have z4 := Y.cell 4 1 rfl rfl
           have z5 := Y.cell 4 2 rfl rfl
           have Z5 := Y.mem 5 rfl
           exact bodyPost_ret (v := .tuple #[.agg #[.slice b1 l.length k1, .slice b2 r.length k2, .slice b3 ps.length k3], .agg #[.int .i64 p, .int .i64 t, .int .i64 s], .slice (some ⟨wq.heap.size, 0, none⟩) 0 0, .int .i64 0]) (by simp [results, Tryz.results10, go_sem, z0, z1, z2, z3, z4, z5]) rfl ⟨_, _, _, _, lo, hi, n1, h1, n2, h2, n3, h3, wq.heap.size, _, rfl, by have := hlo.out; have := HBL.out; omega, Y.low 5 rfl, .inl HTP.out, O9.below (below1 _ _), Ow.empty Z5, Y.below⟩)
        | fail "fin"
  | true =>
    obtain ⟨c00, c01, c02, c10, c11, c12, c20, c21, c30, c31, c32, c40, c41, c42, e10, e11, e12, e30, e31, e32, e40, e41, e42, l0', l1', l3', l4'⟩ := KA.out _ X.out
    go_wp2_with fail
    clear c00 c01 c02 c10 c11 c12 c20 c21 c30 c31 c32 c40 c41 c42 e10 e11 e12 e30 e31 e32 e40 e41 e42 l0' l1' l3' l4'
    go_at_call 27
    refine (HCS.out _).mono ?_
    rintro e w5 ⟨rfl, hb⟩
    have X := hide (X.out.up hb)
    have V := hide (V.out.below hb)
    clear hb
    cases qs with
    | false =>
      obtain ⟨rfl, rfl⟩ := NO.out (by simp)
      have ner1r2 : r1 ≠ r2 := by have := HBL.out; omega
      have ner2r1 : r2 ≠ r1 := by have := HBL.out; omega
      have nes1r1 : s1 ≠ r1 := by have := HBL.out; omega
      have nes1r2 : s1 ≠ r2 := by have := HBL.out; omega
      have neh0r1 : h0 ≠ r1 := by have := HBL.out; omega
      have neh0r2 : h0 ≠ r2 := by have := HBL.out; omega
      clear YES CW1 CW2 OA OD CF CR nAD HCS HCR HCK
      obtain ⟨c00, c01, c02, c10, c11, c12, c20, c21, c30, c31, c32, c40, c41, c42, e10, e11, e12, e30, e31, e32, e40, e41, e42, l0', l1', l3', l4'⟩ := KA.out _ X.out
      go_upto_region 2 with fail
      clear c00 c01 c02 c10 c11 c12 c20 c21 c30 c31 c32 c40 c41 c42 e10 e11 e12 e30 e31 e32 e40 e41 e42 l0' l1' l3' l4'
      have X0 := X
      have V0 := V
      have KA2 := hide (fun (W : World) (T_ : List (Nat × Array Value × TypeId)) (h : Kn w W ((h0, #[.slice a1 l.length c1, .slice a2 r.length c2, .slice a3 ps.length c3], 33) :: (s1, #[.int .i64 p, .int .i64 t, .int .i64 s], 34) :: (g1, #[.int .i64 fa, .int .i64 fb], 39) :: (r1, #[.slice none 0 0, .slice none 0 0, .slice none 0 0], 33) :: (r2, #[.int .i64 0, .int .i64 0, .int .i64 0], 34) :: T_)) => show W.cell? ⟨h0, 0, none⟩ = some (.slice a1 l.length c1) ∧ W.cell? ⟨h0, 1, none⟩ = some (.slice a2 r.length c2) ∧ W.cell? ⟨h0, 2, none⟩ = some (.slice a3 ps.length c3) ∧ W.cell? ⟨s1, 0, none⟩ = some (.int .i64 p) ∧ W.cell? ⟨s1, 1, none⟩ = some (.int .i64 t) ∧ W.cell? ⟨s1, 2, none⟩ = some (.int .i64 s) ∧ W.cell? ⟨g1, 0, none⟩ = some (.int .i64 fa) ∧ W.cell? ⟨g1, 1, none⟩ = some (.int .i64 fb) ∧ W.cell? ⟨r1, 0, none⟩ = some (.slice none 0 0) ∧ W.cell? ⟨r1, 1, none⟩ = some (.slice none 0 0) ∧ W.cell? ⟨r1, 2, none⟩ = some (.slice none 0 0) ∧ W.cell? ⟨r2, 0, none⟩ = some (.int .i64 0) ∧ W.cell? ⟨r2, 1, none⟩ = some (.int .i64 0) ∧ W.cell? ⟨r2, 2, none⟩ = some (.int .i64 0) ∧ W.frozen? ⟨s1, 0, none⟩ = false ∧ W.frozen? ⟨s1, 1, none⟩ = false ∧ W.frozen? ⟨s1, 2, none⟩ = false ∧ W.frozen? ⟨r1, 0, none⟩ = false ∧ W.frozen? ⟨r1, 1, none⟩ = false ∧ W.frozen? ⟨r1, 2, none⟩ = false ∧ W.frozen? ⟨r2, 0, none⟩ = false ∧ W.frozen? ⟨r2, 1, none⟩ = false ∧ W.frozen? ⟨r2, 2, none⟩ = false ∧ h0 < W.heap.size ∧ s1 < W.heap.size ∧ r1 < W.heap.size ∧ r2 < W.heap.size from ⟨h.cell 0 0 rfl rfl, h.cell 0 1 rfl rfl, h.cell 0 2 rfl rfl, h.cell 1 0 rfl rfl, h.cell 1 1 rfl rfl, h.cell 1 2 rfl rfl, h.cell 2 0 rfl rfl, h.cell 2 1 rfl rfl, h.cell 3 0 rfl rfl, h.cell 3 1 rfl rfl, h.cell 3 2 rfl rfl, h.cell 4 0 rfl rfl, h.cell 4 1 rfl rfl, h.cell 4 2 rfl rfl, h.free 1 0 rfl, h.free 1 1 rfl, h.free 1 2 rfl, h.free 3 0 rfl, h.free 3 1 rfl, h.free 3 2 rfl, h.free 4 0 rfl, h.free 4 1 rfl, h.free 4 2 rfl, h.lt 0 rfl, h.lt 1 rfl, h.lt 3 rfl, h.lt 4 rfl⟩)
      have X := hide X.out.drew
      have V := hide (V.out.below (Below.refl _ _).drew)
      obtain ⟨c00, c01, c02, c10, c11, c12, c20, c21, c30, c31, c32, c40, c41, c42, e10, e11, e12, e30, e31, e32, e40, e41, e42, l0', l1', l3', l4'⟩ := KA.out _ X.out
      have Y := hide ((Only.refl [r1, r2] w5).drew)
      have HM1 := hide (show r1 ∈ [r1, r2] by simp)
      have HM2 := hide (show r2 ∈ [r1, r2] by simp)
      have KB := hide (fun (W : World) (h : Only [r1, r2] w5 W) => show W.cell? ⟨h0, 0, none⟩ = some (.slice a1 l.length c1) ∧ W.cell? ⟨h0, 1, none⟩ = some (.slice a2 r.length c2) ∧ W.cell? ⟨h0, 2, none⟩ = some (.slice a3 ps.length c3) ∧ W.cell? ⟨s1, 0, none⟩ = some (.int .i64 p) ∧ W.cell? ⟨s1, 1, none⟩ = some (.int .i64 t) ∧ W.cell? ⟨s1, 2, none⟩ = some (.int .i64 s) by
        have hB := HBL.out
        have l0 := X0.out.lt 0 rfl
        have l1 := X0.out.lt 1 rfl
        have b0 := (h.block h0 l0 (by simp; omega)).trans (X0.out.mem 0 rfl)
        have b1 := (h.block s1 l1 (by simp; omega)).trans (X0.out.mem 1 rfl)
        exact ⟨cell_of_row W h0 0 _ _ (0, 0) b0, cell_of_row W h0 1 _ _ (0, 0) b0, cell_of_row W h0 2 _ _ (0, 0) b0, cell_of_row W s1 0 _ _ (0, 0) b1, cell_of_row W s1 1 _ _ (0, 0) b1, cell_of_row W s1 2 _ _ (0, 0) b1⟩)
      go_region_held3 (fun W => W.cell? ⟨h0, 0, none⟩ = some (.slice a1 l.length c1) ∧ W.cell? ⟨h0, 1, none⟩ = some (.slice a2 r.length c2) ∧ W.cell? ⟨h0, 2, none⟩ = some (.slice a3 ps.length c3) ∧ W.cell? ⟨s1, 0, none⟩ = some (.int .i64 p) ∧ W.cell? ⟨s1, 1, none⟩ = some (.int .i64 t) ∧ W.cell? ⟨s1, 2, none⟩ = some (.int .i64 s)) (first | with_reducible exact KB.out _ (Y.out) | with_reducible exact KB.out _ ((Y.out).alloc _) | with_reducible exact KB.out _ (Y.out.set3 HM1.out _ _ _) | with_reducible exact KB.out _ ((Y.out.set3 HM1.out _ _ _).alloc _) | with_reducible exact KB.out _ (Y.out.set3 HM2.out _ _ _) | with_reducible exact KB.out _ ((Y.out.set3 HM2.out _ _ _).alloc _) | with_reducible exact KB.out _ ((Y.out.set3 HM1.out _ _ _).set3 HM2.out _ _ _) | with_reducible exact KB.out _ (((Y.out.set3 HM1.out _ _ _).set3 HM2.out _ _ _).alloc _) | with_reducible exact KB.out _ ((Y.out.set3 HM2.out _ _ _).set3 HM1.out _ _ _) | with_reducible exact KB.out _ (((Y.out.set3 HM2.out _ _ _).set3 HM1.out _ _ _).alloc _) | with_reducible exact KB.out _ ((Only.refl [r1, r2] w5).alloc _).drew | go_keep) (first
        | (go_at_call 61; refine (CC.out _ (by first | with_reducible exact V.out | with_reducible exact V0.out.below (below1 _ _).drew | with_reducible exact V.out.below (below1 _ _))).mono ?_; rintro e wq ⟨x', y', z', lo, hi, n1, h1, n2, h2, n3, h3, rfl, q1, q2, O, hb⟩; obtain ⟨b1, k1, rfl⟩ := O.x.form; obtain ⟨b2, k2, rfl⟩ := O.y.form; obtain ⟨b3, k3, rfl⟩ := O.z.own.form; have hlo := hide (show r2 + 1 ≤ lo from (by have := X0.out.lt 4 rfl; (try simp only [World.size_alloc, World.size_drew] at q1); omega)); (try simp only [World.size_alloc, World.size_drew] at q1); have HQ1 := hide q1; have HTP := hide O.top.2; (first | replace X := hide (by with_reducible exact X.out.up hb) | replace X := hide (by with_reducible exact X.out.upA hb) | replace X := hide (by with_reducible exact X0.out.upD hb)); (first | replace Y := hide (by with_reducible exact Y.out.up hb) | replace Y := hide (by with_reducible exact (Y.out.alloc _).up hb) | replace Y := hide (by with_reducible exact ((Only.refl [r1, r2] _).alloc _).drew.up hb)); (try simp only [List.cons_append, List.nil_append] at X); have O := hide O; clear hb q1 q2 c00 c01 c02 c10 c11 c12 c20 c21 c30 c31 c32 c40 c41 c42 e10 e11 e12 e30 e31 e32 e40 e41 e42 l0' l1' l3' l4'; obtain ⟨c00, c01, c02, c10, c11, c12, c20, c21, c30, c31, c32, c40, c41, c42, e10, e11, e12, e30, e31, e32, e40, e41, e42, l0', l1', l3', l4'⟩ := KA2.out wq _ X.out))
      all_goals
        clear c00 c01 c02 c10 c11 c12 c20 c21 c30 c31 c32 c40 c41 c42 e10 e11 e12 e30 e31 e32 e40 e41 e42 l0' l1' l3' l4'
        have Z := (X.out.put3c 3 rfl (.slice b1 l.length k1) (.slice b2 r.length k2) (.slice b3 ps.length k3)).put3c 4 rfl (.int .i64 p) (.int .i64 t) (.int .i64 s)
        have z0 := Z.cell 3 0 rfl rfl
        have z1 := Z.cell 3 1 rfl rfl
        have z2 := Z.cell 3 2 rfl rfl
        have z3 := Z.cell 4 0 rfl rfl
        have z4 := Z.cell 4 1 rfl rfl
        have z5 := Z.cell 4 2 rfl rfl
        have O9 := (O.out.seg (seg3 _ r1 (.slice b1 l.length k1) (.slice b2 r.length k2) (.slice b3 ps.length k3)) (.inr (by have := hlo.out; have := HBL.out; omega))).seg (seg3 _ r2 (.int .i64 p) (.int .i64 t) (.int .i64 s)) (.inr (by have := hlo.out; have := HBL.out; omega))
        rename ∀ (a : Act) (w' : World), Code.wp _ Code.ret _ a w' → _ => HK
        refine HK _ _ ?_
        refine wp_ret ?_
        first
          | (have Z5 := Z.mem 5 rfl
             exact bodyPost_ret (v := .tuple #[.agg #[.slice b1 l.length k1, .slice b2 r.length k2, .slice b3 ps.length k3], .agg #[.int .i64 p, .int .i64 t, .int .i64 s], .slice (some ⟨w5.heap.size, 0, none⟩) 0 0, .int .i64 0]) (by simp [results, Tryz.results10, go_sem, z0, z1, z2, z3, z4, z5]) rfl ⟨_, _, _, _, lo, hi, n1, h1, n2, h2, n3, h3, w5.heap.size, _, rfl, by have := hlo.out; have := HBL.out; omega, by have := Z.low 5 rfl; omega, .inr (by have := HQ1.out; omega), O9, Ow.empty Z5, Z.below⟩)
          | (have Y := Z.alloc #[] 3
             simp only [World.size_setCell, List.set_cons_zero, List.set_cons_succ, List.cons_append, List.nil_append] at Y
             have z0 := Y.cell 3 0 rfl rfl
             have z1 := Y.cell 3 1 rfl rfl
             have z2 := Y.cell 3 2 rfl rfl
             have z3 := Y.cell 4 0 rfl rfl
             have z4 := Y.cell 4 1 rfl rfl
             have z5 := Y.cell 4 2 rfl rfl
             have Z5 := Y.mem 5 rfl
             exact bodyPost_ret (v := .tuple #[.agg #[.slice b1 l.length k1, .slice b2 r.length k2, .slice b3 ps.length k3], .agg #[.int .i64 p, .int .i64 t, .int .i64 s], .slice (some ⟨wq.heap.size, 0, none⟩) 0 0, .int .i64 0]) (by simp [results, Tryz.results10, go_sem, z0, z1, z2, z3, z4, z5]) rfl ⟨_, _, _, _, lo, hi, n1, h1, n2, h2, n3, h3, wq.heap.size, _, rfl, by have := hlo.out; have := HBL.out; omega, Y.low 5 rfl, .inl HTP.out, O9.below (below1 _ _), Ow.empty Z5, Y.below⟩)
          | fail "fin"
    | true =>
      obtain ⟨c00, c01, c02, c10, c11, c12, c20, c21, c30, c31, c32, c40, c41, c42, e10, e11, e12, e30, e31, e32, e40, e41, e42, l0', l1', l3', l4'⟩ := KA.out _ X.out
      go_wp2_with fail
      clear c00 c01 c02 c10 c11 c12 c20 c21 c30 c31 c32 c40 c41 c42 e10 e11 e12 e30 e31 e32 e40 e41 e42 l0' l1' l3' l4'
      go_at_call 28
      refine (HCR.out _).mono ?_
      rintro e w6 ⟨rfl, hb⟩
      have X := hide (X.out.up hb)
      have V := hide (V.out.below hb)
      clear hb
      cases qr with
      | false =>
        obtain ⟨rfl, rfl⟩ := NO.out (by simp)
        have ner1r2 : r1 ≠ r2 := by have := HBL.out; omega
        have ner2r1 : r2 ≠ r1 := by have := HBL.out; omega
        have nes1r1 : s1 ≠ r1 := by have := HBL.out; omega
        have nes1r2 : s1 ≠ r2 := by have := HBL.out; omega
        have neh0r1 : h0 ≠ r1 := by have := HBL.out; omega
        have neh0r2 : h0 ≠ r2 := by have := HBL.out; omega
        clear YES CW1 CW2 OA OD CF CR nAD HCS HCR HCK
        obtain ⟨c00, c01, c02, c10, c11, c12, c20, c21, c30, c31, c32, c40, c41, c42, e10, e11, e12, e30, e31, e32, e40, e41, e42, l0', l1', l3', l4'⟩ := KA.out _ X.out
        go_upto_region 2 with fail
        clear c00 c01 c02 c10 c11 c12 c20 c21 c30 c31 c32 c40 c41 c42 e10 e11 e12 e30 e31 e32 e40 e41 e42 l0' l1' l3' l4'
        have X0 := X
        have V0 := V
        have KA2 := hide (fun (W : World) (T_ : List (Nat × Array Value × TypeId)) (h : Kn w W ((h0, #[.slice a1 l.length c1, .slice a2 r.length c2, .slice a3 ps.length c3], 33) :: (s1, #[.int .i64 p, .int .i64 t, .int .i64 s], 34) :: (g1, #[.int .i64 fa, .int .i64 fb], 39) :: (r1, #[.slice none 0 0, .slice none 0 0, .slice none 0 0], 33) :: (r2, #[.int .i64 0, .int .i64 0, .int .i64 0], 34) :: T_)) => show W.cell? ⟨h0, 0, none⟩ = some (.slice a1 l.length c1) ∧ W.cell? ⟨h0, 1, none⟩ = some (.slice a2 r.length c2) ∧ W.cell? ⟨h0, 2, none⟩ = some (.slice a3 ps.length c3) ∧ W.cell? ⟨s1, 0, none⟩ = some (.int .i64 p) ∧ W.cell? ⟨s1, 1, none⟩ = some (.int .i64 t) ∧ W.cell? ⟨s1, 2, none⟩ = some (.int .i64 s) ∧ W.cell? ⟨g1, 0, none⟩ = some (.int .i64 fa) ∧ W.cell? ⟨g1, 1, none⟩ = some (.int .i64 fb) ∧ W.cell? ⟨r1, 0, none⟩ = some (.slice none 0 0) ∧ W.cell? ⟨r1, 1, none⟩ = some (.slice none 0 0) ∧ W.cell? ⟨r1, 2, none⟩ = some (.slice none 0 0) ∧ W.cell? ⟨r2, 0, none⟩ = some (.int .i64 0) ∧ W.cell? ⟨r2, 1, none⟩ = some (.int .i64 0) ∧ W.cell? ⟨r2, 2, none⟩ = some (.int .i64 0) ∧ W.frozen? ⟨s1, 0, none⟩ = false ∧ W.frozen? ⟨s1, 1, none⟩ = false ∧ W.frozen? ⟨s1, 2, none⟩ = false ∧ W.frozen? ⟨r1, 0, none⟩ = false ∧ W.frozen? ⟨r1, 1, none⟩ = false ∧ W.frozen? ⟨r1, 2, none⟩ = false ∧ W.frozen? ⟨r2, 0, none⟩ = false ∧ W.frozen? ⟨r2, 1, none⟩ = false ∧ W.frozen? ⟨r2, 2, none⟩ = false ∧ h0 < W.heap.size ∧ s1 < W.heap.size ∧ r1 < W.heap.size ∧ r2 < W.heap.size from ⟨h.cell 0 0 rfl rfl, h.cell 0 1 rfl rfl, h.cell 0 2 rfl rfl, h.cell 1 0 rfl rfl, h.cell 1 1 rfl rfl, h.cell 1 2 rfl rfl, h.cell 2 0 rfl rfl, h.cell 2 1 rfl rfl, h.cell 3 0 rfl rfl, h.cell 3 1 rfl rfl, h.cell 3 2 rfl rfl, h.cell 4 0 rfl rfl, h.cell 4 1 rfl rfl, h.cell 4 2 rfl rfl, h.free 1 0 rfl, h.free 1 1 rfl, h.free 1 2 rfl, h.free 3 0 rfl, h.free 3 1 rfl, h.free 3 2 rfl, h.free 4 0 rfl, h.free 4 1 rfl, h.free 4 2 rfl, h.lt 0 rfl, h.lt 1 rfl, h.lt 3 rfl, h.lt 4 rfl⟩)
        have X := hide X.out.drew
        have V := hide (V.out.below (Below.refl _ _).drew)
        obtain ⟨c00, c01, c02, c10, c11, c12, c20, c21, c30, c31, c32, c40, c41, c42, e10, e11, e12, e30, e31, e32, e40, e41, e42, l0', l1', l3', l4'⟩ := KA.out _ X.out
        have Y := hide ((Only.refl [r1, r2] w6).drew)
        have HM1 := hide (show r1 ∈ [r1, r2] by simp)
        have HM2 := hide (show r2 ∈ [r1, r2] by simp)
        have KB := hide (fun (W : World) (h : Only [r1, r2] w6 W) => show W.cell? ⟨h0, 0, none⟩ = some (.slice a1 l.length c1) ∧ W.cell? ⟨h0, 1, none⟩ = some (.slice a2 r.length c2) ∧ W.cell? ⟨h0, 2, none⟩ = some (.slice a3 ps.length c3) ∧ W.cell? ⟨s1, 0, none⟩ = some (.int .i64 p) ∧ W.cell? ⟨s1, 1, none⟩ = some (.int .i64 t) ∧ W.cell? ⟨s1, 2, none⟩ = some (.int .i64 s) by
          have hB := HBL.out
          have l0 := X0.out.lt 0 rfl
          have l1 := X0.out.lt 1 rfl
          have b0 := (h.block h0 l0 (by simp; omega)).trans (X0.out.mem 0 rfl)
          have b1 := (h.block s1 l1 (by simp; omega)).trans (X0.out.mem 1 rfl)
          exact ⟨cell_of_row W h0 0 _ _ (0, 0) b0, cell_of_row W h0 1 _ _ (0, 0) b0, cell_of_row W h0 2 _ _ (0, 0) b0, cell_of_row W s1 0 _ _ (0, 0) b1, cell_of_row W s1 1 _ _ (0, 0) b1, cell_of_row W s1 2 _ _ (0, 0) b1⟩)
        go_region_held3 (fun W => W.cell? ⟨h0, 0, none⟩ = some (.slice a1 l.length c1) ∧ W.cell? ⟨h0, 1, none⟩ = some (.slice a2 r.length c2) ∧ W.cell? ⟨h0, 2, none⟩ = some (.slice a3 ps.length c3) ∧ W.cell? ⟨s1, 0, none⟩ = some (.int .i64 p) ∧ W.cell? ⟨s1, 1, none⟩ = some (.int .i64 t) ∧ W.cell? ⟨s1, 2, none⟩ = some (.int .i64 s)) (first | with_reducible exact KB.out _ (Y.out) | with_reducible exact KB.out _ ((Y.out).alloc _) | with_reducible exact KB.out _ (Y.out.set3 HM1.out _ _ _) | with_reducible exact KB.out _ ((Y.out.set3 HM1.out _ _ _).alloc _) | with_reducible exact KB.out _ (Y.out.set3 HM2.out _ _ _) | with_reducible exact KB.out _ ((Y.out.set3 HM2.out _ _ _).alloc _) | with_reducible exact KB.out _ ((Y.out.set3 HM1.out _ _ _).set3 HM2.out _ _ _) | with_reducible exact KB.out _ (((Y.out.set3 HM1.out _ _ _).set3 HM2.out _ _ _).alloc _) | with_reducible exact KB.out _ ((Y.out.set3 HM2.out _ _ _).set3 HM1.out _ _ _) | with_reducible exact KB.out _ (((Y.out.set3 HM2.out _ _ _).set3 HM1.out _ _ _).alloc _) | with_reducible exact KB.out _ ((Only.refl [r1, r2] w6).alloc _).drew | go_keep) (first
          | (go_at_call 61; refine (CC.out _ (by first | with_reducible exact V.out | with_reducible exact V0.out.below (below1 _ _).drew | with_reducible exact V.out.below (below1 _ _))).mono ?_; rintro e wq ⟨x', y', z', lo, hi, n1, h1, n2, h2, n3, h3, rfl, q1, q2, O, hb⟩; obtain ⟨b1, k1, rfl⟩ := O.x.form; obtain ⟨b2, k2, rfl⟩ := O.y.form; obtain ⟨b3, k3, rfl⟩ := O.z.own.form; have hlo := hide (show r2 + 1 ≤ lo from (by have := X0.out.lt 4 rfl; (try simp only [World.size_alloc, World.size_drew] at q1); omega)); (try simp only [World.size_alloc, World.size_drew] at q1); have HQ1 := hide q1; have HTP := hide O.top.2; (first | replace X := hide (by with_reducible exact X.out.up hb) | replace X := hide (by with_reducible exact X.out.upA hb) | replace X := hide (by with_reducible exact X0.out.upD hb)); (first | replace Y := hide (by with_reducible exact Y.out.up hb) | replace Y := hide (by with_reducible exact (Y.out.alloc _).up hb) | replace Y := hide (by with_reducible exact ((Only.refl [r1, r2] _).alloc _).drew.up hb)); (try simp only [List.cons_append, List.nil_append] at X); have O := hide O; clear hb q1 q2 c00 c01 c02 c10 c11 c12 c20 c21 c30 c31 c32 c40 c41 c42 e10 e11 e12 e30 e31 e32 e40 e41 e42 l0' l1' l3' l4'; obtain ⟨c00, c01, c02, c10, c11, c12, c20, c21, c30, c31, c32, c40, c41, c42, e10, e11, e12, e30, e31, e32, e40, e41, e42, l0', l1', l3', l4'⟩ := KA2.out wq _ X.out))
        all_goals
          clear c00 c01 c02 c10 c11 c12 c20 c21 c30 c31 c32 c40 c41 c42 e10 e11 e12 e30 e31 e32 e40 e41 e42 l0' l1' l3' l4'
          have Z := (X.out.put3c 3 rfl (.slice b1 l.length k1) (.slice b2 r.length k2) (.slice b3 ps.length k3)).put3c 4 rfl (.int .i64 p) (.int .i64 t) (.int .i64 s)
          have z0 := Z.cell 3 0 rfl rfl
          have z1 := Z.cell 3 1 rfl rfl
          have z2 := Z.cell 3 2 rfl rfl
          have z3 := Z.cell 4 0 rfl rfl
          have z4 := Z.cell 4 1 rfl rfl
          have z5 := Z.cell 4 2 rfl rfl
          have O9 := (O.out.seg (seg3 _ r1 (.slice b1 l.length k1) (.slice b2 r.length k2) (.slice b3 ps.length k3)) (.inr (by have := hlo.out; have := HBL.out; omega))).seg (seg3 _ r2 (.int .i64 p) (.int .i64 t) (.int .i64 s)) (.inr (by have := hlo.out; have := HBL.out; omega))
          rename ∀ (a : Act) (w' : World), Code.wp _ Code.ret _ a w' → _ => HK
          refine HK _ _ ?_
          refine wp_ret ?_
          first
            | (have Z5 := Z.mem 5 rfl
               exact bodyPost_ret (v := .tuple #[.agg #[.slice b1 l.length k1, .slice b2 r.length k2, .slice b3 ps.length k3], .agg #[.int .i64 p, .int .i64 t, .int .i64 s], .slice (some ⟨w6.heap.size, 0, none⟩) 0 0, .int .i64 0]) (by simp [results, Tryz.results10, go_sem, z0, z1, z2, z3, z4, z5]) rfl ⟨_, _, _, _, lo, hi, n1, h1, n2, h2, n3, h3, w6.heap.size, _, rfl, by have := hlo.out; have := HBL.out; omega, by have := Z.low 5 rfl; omega, .inr (by have := HQ1.out; omega), O9, Ow.empty Z5, Z.below⟩)
            | (have Y := Z.alloc #[] 3
               simp only [World.size_setCell, List.set_cons_zero, List.set_cons_succ, List.cons_append, List.nil_append] at Y
               have z0 := Y.cell 3 0 rfl rfl
               have z1 := Y.cell 3 1 rfl rfl
               have z2 := Y.cell 3 2 rfl rfl
               have z3 := Y.cell 4 0 rfl rfl
               have z4 := Y.cell 4 1 rfl rfl
               have z5 := Y.cell 4 2 rfl rfl
               have Z5 := Y.mem 5 rfl
               exact bodyPost_ret (v := .tuple #[.agg #[.slice b1 l.length k1, .slice b2 r.length k2, .slice b3 ps.length k3], .agg #[.int .i64 p, .int .i64 t, .int .i64 s], .slice (some ⟨wq.heap.size, 0, none⟩) 0 0, .int .i64 0]) (by simp [results, Tryz.results10, go_sem, z0, z1, z2, z3, z4, z5]) rfl ⟨_, _, _, _, lo, hi, n1, h1, n2, h2, n3, h3, wq.heap.size, _, rfl, by have := hlo.out; have := HBL.out; omega, Y.low 5 rfl, .inl HTP.out, O9.below (below1 _ _), Ow.empty Z5, Y.below⟩)
            | fail "fin"
      | true =>
        obtain ⟨rfl, rfl⟩ := YES.out (by simp) (by simp) (by simp)
        clear NO YES CC HCK HCS HCR
        obtain ⟨c00, c01, c02, c10, c11, c12, c20, c21, c30, c31, c32, c40, c41, c42, e10, e11, e12, e30, e31, e32, e40, e41, e42, l0', l1', l3', l4'⟩ := KA.out _ X.out
        go_wp2_with fail
        clear c00 c01 c02 c10 c11 c12 c20 c21 c30 c31 c32 c40 c41 c42 e10 e11 e12 e30 e31 e32 e40 e41 e42 l0' l1' l3' l4'
        go_at_call 31
        refine (CW1.out _ V.out).mono ?_
        rintro e w7 ⟨x', y', z', lo, hi, n1, h1, n2, h2, n3, h3, rfl, q1, q2, O, hb⟩
        obtain ⟨b1, k1, rfl⟩ := O.x.form
        obtain ⟨b2, k2, rfl⟩ := O.y.form
        obtain ⟨b3, k3, rfl⟩ := O.z.own.form
        have hlo := hide (show r2 + 1 ≤ lo from Nat.le_trans (Nat.succ_le_of_lt (X.out.lt 4 rfl)) q1)
        have X := hide (X.out.up hb)
        have O := hide O
        clear hb q1 q2 V CW1
        obtain ⟨c00, c01, c02, c10, c11, c12, c20, c21, c30, c31, c32, c40, c41, c42, e10, e11, e12, e30, e31, e32, e40, e41, e42, l0', l1', l3', l4'⟩ := KA.out _ X.out
        clear c00 c01 c02 c10 c11 c12 c20 c21 c30 c31 c32 c40 c41 c42 e10 e11 e12 e30 e31 e32 e40 e41 e42 l0' l1' l3' l4'
        have lr2 : r2 < w7.heap.size := X.out.lt 4 rfl
        obtain ⟨w8, hw8⟩ : ∃ q, q = (w7.alloc (.cells #[.slice b1 A.l.length k1, .slice b2 A.r.length k2, .slice b3 A.ps.length k3] 33)).alloc (.cells #[.int .i64 p, .int .i64 t, .int .i64 A.s] 34) := ⟨_, rfl⟩
        have X := hide ((X.out.alloc #[.slice b1 A.l.length k1, .slice b2 A.r.length k2, .slice b3 A.ps.length k3] 33).alloc #[.int .i64 p, .int .i64 t, .int .i64 A.s] 34)
        have O := hide (O.out.below (below2 w7 (.cells #[.slice b1 A.l.length k1, .slice b2 A.r.length k2, .slice b3 A.ps.length k3] 33) (.cells #[.int .i64 p, .int .i64 t, .int .i64 A.s] 34)))
        rw [← hw8] at X O
        obtain ⟨gx, hgx⟩ : ∃ q, q = w7.heap.size := ⟨_, rfl⟩
        simp only [World.size_alloc, List.cons_append, List.nil_append] at X
        rw [← hgx] at X
        obtain ⟨gs, hgs⟩ : ∃ q, q = gx + 1 := ⟨_, rfl⟩
        rw [← hgs] at X
        have Hgx := hide (show r2 < gx ∧ gs = gx + 1 ∧ w8.heap.size = gs + 1 from ⟨by rw [hgx]; exact lr2, hgs, by rw [hw8, hgs, hgx]; simp⟩)
        have c10 : w8.cell? ⟨s1, 0, none⟩ = some (.int .i64 p) := X.out.cell 1 0 rfl rfl
        have c11 : w8.cell? ⟨s1, 1, none⟩ = some (.int .i64 t) := X.out.cell 1 1 rfl rfl
        have c12 : w8.cell? ⟨s1, 2, none⟩ = some (.int .i64 s) := X.out.cell 1 2 rfl rfl
        have c20 : w8.cell? ⟨g1, 0, none⟩ = some (.int .i64 fa) := X.out.cell 2 0 rfl rfl
        have c21 : w8.cell? ⟨g1, 1, none⟩ = some (.int .i64 fb) := X.out.cell 2 1 rfl rfl
        have c50 : w8.cell? ⟨gx, 0, none⟩ = some (.slice b1 A.l.length k1) := X.out.cell 5 0 rfl rfl
        have c51 : w8.cell? ⟨gx, 1, none⟩ = some (.slice b2 A.r.length k2) := X.out.cell 5 1 rfl rfl
        have c52 : w8.cell? ⟨gx, 2, none⟩ = some (.slice b3 A.ps.length k3) := X.out.cell 5 2 rfl rfl
        have c60 : w8.cell? ⟨gs, 0, none⟩ = some (.int .i64 p) := X.out.cell 6 0 rfl rfl
        have c61 : w8.cell? ⟨gs, 1, none⟩ = some (.int .i64 t) := X.out.cell 6 1 rfl rfl
        have c62 : w8.cell? ⟨gs, 2, none⟩ = some (.int .i64 A.s) := X.out.cell 6 2 rfl rfl
        rw [hw8] at c10 c11 c12 c20 c21 c50 c51 c52 c60 c61 c62
        go_wp2_with fail
        rw [← hw8]
        try rw [← hgx]
        try rw [← hgs]
        clear hw8 hgx hgs lr2 c10 c11 c12 c20 c21 c50 c51 c52 c60 c61 c62
        go_at_call 31
        refine (CW2.out _ _ (OA.out _ _ _ _ _ _ _ _ _ _ _ _ O.out)).mono ?_
        rintro e w9 ⟨x', y', z', lo2, hi2, m1, i1, m2, i2, m3, i3, rfl, q1, q2, P, hb⟩
        obtain ⟨d1, j1, rfl⟩ := P.x.form
        obtain ⟨d2, j2, rfl⟩ := P.y.form
        obtain ⟨d3, j3, rfl⟩ := P.z.own.form
        have hlo2 := hide (show r2 + 1 ≤ lo2 from by have := Hgx.out; omega)
        have X := hide (X.out.up hb)
        clear O
        have O := hide P
        clear hb q1 q2 P CW2 OA
        have lr2 : r2 < w9.heap.size := X.out.lt 4 rfl
        obtain ⟨w10, hw10⟩ : ∃ q, q = (w9.alloc (.cells #[.slice d1 D.l.length j1, .slice d2 D.r.length j2, .slice d3 D.ps.length j3] 33)).alloc (.cells #[.int .i64 p, .int .i64 t, .int .i64 D.s] 34) := ⟨_, rfl⟩
        have X := hide ((X.out.alloc #[.slice d1 D.l.length j1, .slice d2 D.r.length j2, .slice d3 D.ps.length j3] 33).alloc #[.int .i64 p, .int .i64 t, .int .i64 D.s] 34)
        have O := hide (O.out.below (below2 w9 (.cells #[.slice d1 D.l.length j1, .slice d2 D.r.length j2, .slice d3 D.ps.length j3] 33) (.cells #[.int .i64 p, .int .i64 t, .int .i64 D.s] 34)))
        rw [← hw10] at X O
        obtain ⟨gy, hgy⟩ : ∃ q, q = w9.heap.size := ⟨_, rfl⟩
        simp only [World.size_alloc, List.cons_append, List.nil_append] at X
        rw [← hgy] at X
        obtain ⟨gu, hgu⟩ : ∃ q, q = gy + 1 := ⟨_, rfl⟩
        rw [← hgu] at X
        have Hgy := hide (show r2 < gy ∧ gu = gy + 1 ∧ w10.heap.size = gu + 1 from ⟨by rw [hgy]; exact lr2, hgu, by rw [hw10, hgu, hgy]; simp⟩)
        have c10 : w10.cell? ⟨s1, 0, none⟩ = some (.int .i64 p) := X.out.cell 1 0 rfl rfl
        have c11 : w10.cell? ⟨s1, 1, none⟩ = some (.int .i64 t) := X.out.cell 1 1 rfl rfl
        have c12 : w10.cell? ⟨s1, 2, none⟩ = some (.int .i64 s) := X.out.cell 1 2 rfl rfl
        have c20 : w10.cell? ⟨g1, 0, none⟩ = some (.int .i64 fa) := X.out.cell 2 0 rfl rfl
        have c21 : w10.cell? ⟨g1, 1, none⟩ = some (.int .i64 fb) := X.out.cell 2 1 rfl rfl
        have c70 : w10.cell? ⟨gy, 0, none⟩ = some (.slice d1 D.l.length j1) := X.out.cell 7 0 rfl rfl
        have c71 : w10.cell? ⟨gy, 1, none⟩ = some (.slice d2 D.r.length j2) := X.out.cell 7 1 rfl rfl
        have c72 : w10.cell? ⟨gy, 2, none⟩ = some (.slice d3 D.ps.length j3) := X.out.cell 7 2 rfl rfl
        have c80 : w10.cell? ⟨gu, 0, none⟩ = some (.int .i64 p) := X.out.cell 8 0 rfl rfl
        have c81 : w10.cell? ⟨gu, 1, none⟩ = some (.int .i64 t) := X.out.cell 8 1 rfl rfl
        have c82 : w10.cell? ⟨gu, 2, none⟩ = some (.int .i64 D.s) := X.out.cell 8 2 rfl rfl
        rw [hw10] at c10 c11 c12 c20 c21 c70 c71 c72 c80 c81 c82
        go_wp2_with fail
        rw [← hw10]
        try rw [← hgy]
        try rw [← hgu]
        clear hw10 hgy hgu lr2 c10 c11 c12 c20 c21 c70 c71 c72 c80 c81 c82
        have P := O
        clear O
        have hgx2 := hide (show r2 < gy ∧ r2 < gu by have := Hgy.out; omega)
        skip
        skip
        go_at_call 62
        refine (CF.out _ _ _ (OD.out _ _ _ _ _ _ _ _ _ _ _ _ P.out)).mono ?_
        rintro e w11 ⟨rfl, hb⟩
        have X := hide (X.out.up hb)
        have P := hide (P.out.below hb)
        clear hb
        have c20 : w11.cell? ⟨g1, 0, none⟩ = some (.int .i64 fa) := X.out.cell 2 0 rfl rfl
        have c21 : w11.cell? ⟨g1, 1, none⟩ = some (.int .i64 fb) := X.out.cell 2 1 rfl rfl
        have c70 : w11.cell? ⟨gy, 0, none⟩ = some (.slice d1 D.l.length j1) := X.out.cell 7 0 rfl rfl
        have c71 : w11.cell? ⟨gy, 1, none⟩ = some (.slice d2 D.r.length j2) := X.out.cell 7 1 rfl rfl
        have c72 : w11.cell? ⟨gy, 2, none⟩ = some (.slice d3 D.ps.length j3) := X.out.cell 7 2 rfl rfl
        go_wp2_with fail
        clear c20 c21 c70 c71 c72
        go_at_call 62
        refine (CF.out _ _ _ (OD.out _ _ _ _ _ _ _ _ _ _ _ _ P.out)).mono ?_
        rintro e w12 ⟨rfl, hb⟩
        have X := hide (X.out.up hb)
        have P := hide (P.out.below hb)
        clear hb
        skip
        have c30 : w12.cell? ⟨r1, 0, none⟩ = some (.slice none 0 0) := X.out.cell 3 0 rfl rfl
        have c31 : w12.cell? ⟨r1, 1, none⟩ = some (.slice none 0 0) := X.out.cell 3 1 rfl rfl
        have c32 : w12.cell? ⟨r1, 2, none⟩ = some (.slice none 0 0) := X.out.cell 3 2 rfl rfl
        have c40 : w12.cell? ⟨r2, 0, none⟩ = some (.int .i64 0) := X.out.cell 4 0 rfl rfl
        have c41 : w12.cell? ⟨r2, 1, none⟩ = some (.int .i64 0) := X.out.cell 4 1 rfl rfl
        have c42 : w12.cell? ⟨r2, 2, none⟩ = some (.int .i64 0) := X.out.cell 4 2 rfl rfl
        have c80 : w12.cell? ⟨gu, 0, none⟩ = some (.int .i64 p) := X.out.cell 8 0 rfl rfl
        have c81 : w12.cell? ⟨gu, 1, none⟩ = some (.int .i64 t) := X.out.cell 8 1 rfl rfl
        have c82 : w12.cell? ⟨gu, 2, none⟩ = some (.int .i64 D.s) := X.out.cell 8 2 rfl rfl
        have c70 : w12.cell? ⟨gy, 0, none⟩ = some (.slice d1 D.l.length j1) := X.out.cell 7 0 rfl rfl
        have c71 : w12.cell? ⟨gy, 1, none⟩ = some (.slice d2 D.r.length j2) := X.out.cell 7 1 rfl rfl
        have c72 : w12.cell? ⟨gy, 2, none⟩ = some (.slice d3 D.ps.length j3) := X.out.cell 7 2 rfl rfl
        have e30 : w12.frozen? ⟨r1, 0, none⟩ = false := X.out.free 3 0 rfl
        have e31 : w12.frozen? ⟨r1, 1, none⟩ = false := X.out.free 3 1 rfl
        have e32 : w12.frozen? ⟨r1, 2, none⟩ = false := X.out.free 3 2 rfl
        have e40 : w12.frozen? ⟨r2, 0, none⟩ = false := X.out.free 4 0 rfl
        have e41 : w12.frozen? ⟨r2, 1, none⟩ = false := X.out.free 4 1 rfl
        have e42 : w12.frozen? ⟨r2, 2, none⟩ = false := X.out.free 4 2 rfl
        have hw : wrap64 ((A.n : Int) + (D.n : Int)) = ((A.n + D.n : Nat) : Int) := by rw [IntWalk.wrap64_in _ (by have := nAD.out; omega)]; simp
        have hw2 : IntKind.i64.wrap ((A.n : Int) + (D.n : Int)) = ((A.n + D.n : Nat) : Int) := by rw [IntWalk.i64_left]; exact hw
        obtain ⟨NN, hNN⟩ : ∃ q, q = ((A.n + D.n : Nat) : Int) := ⟨_, rfl⟩
        rw [← hNN] at hw hw2
        have HNN := hide hNN
        clear hNN
        obtain ⟨fp, hfp⟩ : ∃ q, q = (fndP D.ps fa).1 := ⟨_, rfl⟩
        obtain ⟨fq, hfq⟩ : ∃ q, q = (fndP D.ps fb).1 := ⟨_, rfl⟩
        rw [← hfp, ← hfq] at CR
        rw [← hfp, ← hfq]
        have HFP := hide hfp
        have HFQ := hide hfq
        clear hfp hfq
        obtain ⟨rb, hrb⟩ : ∃ q, q = rbL D.l D.r D.ps fp fq := ⟨_, rfl⟩
        rw [← hrb] at CR
        have HRB := hide (show rb = rbL D.l D.r D.ps (fndP D.ps fa).1 (fndP D.ps fb).1 by rw [hrb, HFP.out, HFQ.out])
        clear hrb
        go_upto_region 7 with fail
        clear c30 c31 c32 c40 c41 c42 c80 c81 c82 c70 c71 c72 e30 e31 e32 e40 e41 e42
        have X := hide X.out.drew
        have P := hide (P.out.below (Below.refl _ _).drew)
        have hr2 := hide (show r2 < w12.heap.size from X.out.lt 4 rfl)
        have hP2 := hide P.out.top.2
        have ner1r2 : r1 ≠ r2 := by have := HBL.out; have := hgx2.out; omega
        have ner2r1 : r2 ≠ r1 := by have := HBL.out; have := hgx2.out; omega
        have negur1 : gu ≠ r1 := by have := HBL.out; have := hgx2.out; omega
        have negur2 : gu ≠ r2 := by have := HBL.out; have := hgx2.out; omega
        have negyr1 : gy ≠ r1 := by have := HBL.out; have := hgx2.out; omega
        have negyr2 : gy ≠ r2 := by have := HBL.out; have := hgx2.out; omega
        have c30 : w12.drew.cell? ⟨r1, 0, none⟩ = some (.slice none 0 0) := X.out.cell 3 0 rfl rfl
        have c31 : w12.drew.cell? ⟨r1, 1, none⟩ = some (.slice none 0 0) := X.out.cell 3 1 rfl rfl
        have c32 : w12.drew.cell? ⟨r1, 2, none⟩ = some (.slice none 0 0) := X.out.cell 3 2 rfl rfl
        have c40 : w12.drew.cell? ⟨r2, 0, none⟩ = some (.int .i64 0) := X.out.cell 4 0 rfl rfl
        have c41 : w12.drew.cell? ⟨r2, 1, none⟩ = some (.int .i64 0) := X.out.cell 4 1 rfl rfl
        have c42 : w12.drew.cell? ⟨r2, 2, none⟩ = some (.int .i64 0) := X.out.cell 4 2 rfl rfl
        have c80 : w12.drew.cell? ⟨gu, 0, none⟩ = some (.int .i64 p) := X.out.cell 8 0 rfl rfl
        have c81 : w12.drew.cell? ⟨gu, 1, none⟩ = some (.int .i64 t) := X.out.cell 8 1 rfl rfl
        have c82 : w12.drew.cell? ⟨gu, 2, none⟩ = some (.int .i64 D.s) := X.out.cell 8 2 rfl rfl
        have c70 : w12.drew.cell? ⟨gy, 0, none⟩ = some (.slice d1 D.l.length j1) := X.out.cell 7 0 rfl rfl
        have c71 : w12.drew.cell? ⟨gy, 1, none⟩ = some (.slice d2 D.r.length j2) := X.out.cell 7 1 rfl rfl
        have c72 : w12.drew.cell? ⟨gy, 2, none⟩ = some (.slice d3 D.ps.length j3) := X.out.cell 7 2 rfl rfl
        have e30 : w12.drew.frozen? ⟨r1, 0, none⟩ = false := X.out.free 3 0 rfl
        have e31 : w12.drew.frozen? ⟨r1, 1, none⟩ = false := X.out.free 3 1 rfl
        have e32 : w12.drew.frozen? ⟨r1, 2, none⟩ = false := X.out.free 3 2 rfl
        have e40 : w12.drew.frozen? ⟨r2, 0, none⟩ = false := X.out.free 4 0 rfl
        have e41 : w12.drew.frozen? ⟨r2, 1, none⟩ = false := X.out.free 4 1 rfl
        have e42 : w12.drew.frozen? ⟨r2, 2, none⟩ = false := X.out.free 4 2 rfl
        go_region_with (first
          | (go_at_call 63; refine (CR.out _ _ (OD.out _ _ _ _ _ _ _ _ _ _ _ _ P.out)).mono ?_; rintro e wq ⟨v', mh, rfl, Q, hb⟩; obtain ⟨gv, kv, rfl⟩ := Q.form; have hq := hide (show r2 < w12.heap.size from hr2.out); replace X := hide (X.out.up hb); replace P := hide (P.out.below hb); have Q := hide Q; clear hb c30 c31 c32 c40 c41 c42 c80 c81 c82 c70 c71 c72 e30 e31 e32 e40 e41 e42; have c30 : wq.cell? ⟨r1, 0, none⟩ = some (.slice none 0 0) := X.out.cell 3 0 rfl rfl; have c31 : wq.cell? ⟨r1, 1, none⟩ = some (.slice none 0 0) := X.out.cell 3 1 rfl rfl; have c32 : wq.cell? ⟨r1, 2, none⟩ = some (.slice none 0 0) := X.out.cell 3 2 rfl rfl; have c40 : wq.cell? ⟨r2, 0, none⟩ = some (.int .i64 0) := X.out.cell 4 0 rfl rfl; have c41 : wq.cell? ⟨r2, 1, none⟩ = some (.int .i64 0) := X.out.cell 4 1 rfl rfl; have c42 : wq.cell? ⟨r2, 2, none⟩ = some (.int .i64 0) := X.out.cell 4 2 rfl rfl; have c80 : wq.cell? ⟨gu, 0, none⟩ = some (.int .i64 p) := X.out.cell 8 0 rfl rfl; have c81 : wq.cell? ⟨gu, 1, none⟩ = some (.int .i64 t) := X.out.cell 8 1 rfl rfl; have c82 : wq.cell? ⟨gu, 2, none⟩ = some (.int .i64 D.s) := X.out.cell 8 2 rfl rfl; have c70 : wq.cell? ⟨gy, 0, none⟩ = some (.slice d1 D.l.length j1) := X.out.cell 7 0 rfl rfl; have c71 : wq.cell? ⟨gy, 1, none⟩ = some (.slice d2 D.r.length j2) := X.out.cell 7 1 rfl rfl; have c72 : wq.cell? ⟨gy, 2, none⟩ = some (.slice d3 D.ps.length j3) := X.out.cell 7 2 rfl rfl; have e30 : wq.frozen? ⟨r1, 0, none⟩ = false := X.out.free 3 0 rfl; have e31 : wq.frozen? ⟨r1, 1, none⟩ = false := X.out.free 3 1 rfl; have e32 : wq.frozen? ⟨r1, 2, none⟩ = false := X.out.free 3 2 rfl; have e40 : wq.frozen? ⟨r2, 0, none⟩ = false := X.out.free 4 0 rfl; have e41 : wq.frozen? ⟨r2, 1, none⟩ = false := X.out.free 4 1 rfl; have e42 : wq.frozen? ⟨r2, 2, none⟩ = false := X.out.free 4 2 rfl))
        all_goals
          clear c30 c31 c32 c40 c41 c42 c80 c81 c82 c70 c71 c72 e30 e31 e32 e40 e41 e42
          have Z := (X.out.put3c 3 rfl (.slice d1 D.l.length j1) (.slice d2 D.r.length j2) (.slice d3 D.ps.length j3)).put3c 4 rfl (.int .i64 p) (.int .i64 t) (.int .i64 D.s)
          have z0 := Z.cell 3 0 rfl rfl
          have z1 := Z.cell 3 1 rfl rfl
          have z2 := Z.cell 3 2 rfl rfl
          have z3 := Z.cell 4 0 rfl rfl
          have z4 := Z.cell 4 1 rfl rfl
          have z5 := Z.cell 4 2 rfl rfl
          have O9 := (P.out.seg (seg3 _ r1 (.slice d1 D.l.length j1) (.slice d2 D.r.length j2) (.slice d3 D.ps.length j3)) (.inr (by have := hlo2.out; have := HBL.out; omega))).seg (seg3 _ r2 (.int .i64 p) (.int .i64 t) (.int .i64 D.s)) (.inr (by have := hlo2.out; have := HBL.out; omega))
          have Q9 := (Q.out.seg (seg3 _ r1 (.slice d1 D.l.length j1) (.slice d2 D.r.length j2) (.slice d3 D.ps.length j3)) (.inr (by have := hq.out; have := HBL.out; simp; omega))).seg (seg3 _ r2 (.int .i64 p) (.int .i64 t) (.int .i64 D.s)) (.inr (by have := hq.out; have := HBL.out; simp; omega))
          have hPQ := hP2.out
          rename ∀ (a : Act) (w' : World), Code.wp _ Code.ret _ a w' → _ => HK
          refine HK _ _ ?_
          refine wp_ret ?_
          exact bodyPost_ret (v := .tuple #[.agg #[.slice d1 D.l.length j1, .slice d2 D.r.length j2, .slice d3 D.ps.length j3], .agg #[.int .i64 p, .int .i64 t, .int .i64 D.s], .slice gv rb.length kv, .int .i64 NN]) (by simp [results, Tryz.results10, go_sem, z0, z1, z2, z3, z4, z5]) rfl
            ⟨_, _, _, _, lo2, hi2, m1, i1, m2, i2, m3, i3, _, mh, by rw [HNN.out], by have := hlo2.out; have := HBL.out; omega, by have := hq.out; have := HBL.out; simp; omega, .inl hPQ, O9, by rw [← HRB.out]; exact Q9, Z.below⟩

end Go.Proofs.YtajfhalalnlejaaGreat

/- A region that draws its order, by facts of its operations: each operation's fact speaks of the slots that it names, of what was there ahead of the region, and of the blocks that the operation itself made; so no order need be gone through. Any program. -/
namespace Go.Proofs.YtajfhalalnlejaaGreat
open Go.RowKit
set_option linter.unusedSimpArgs false
set_option linter.unusedVariables false

/-- The value in slot k. -/
def slot (a : Act) (k : Nat) : Value := a.tmps.getD k undef
/-- The slots of S as they stand, all others empty. -/
def vis (S : List Nat) (a : Act) (k : Nat) : Value := bif S.contains k then slot a k else undef

/-- The slots of S as they stand once v is put into slot d, all others empty. -/
def visp (S : List Nat) (a : Act) (d : Option Nat) (v : Value) (k : Nat) : Value := bif S.contains k then (match d with | some x => bif x == k then v else slot a k | none => slot a k) else undef
/-- A part of a tuple. -/
def cmpV (v : Value) (k : Nat) : Value := match v with | .tuple t => t.getD k undef | _ => undef

/-- What was there below G and from lo on, below hi, is as it was. -/
structure Kept (G lo hi : Nat) (W W' : World) : Prop where
  size : W.heap.size ≤ W'.heap.size
  old : ∀ b, b < G → b < W.heap.size → W'.heap[b]? = W.heap[b]?
  own : ∀ b, lo ≤ b → b < hi → b < W.heap.size → W'.heap[b]? = W.heap[b]?

theorem Kept.of_below {G lo hi : Nat} {W W' : World} (h : Below W.heap.size W W') : Kept G lo hi W W' := ⟨h.size, fun b _ h1 => h.block b h1, fun b _ _ h1 => h.block b h1⟩

/-- The slot that operation j writes. -/
def rdst (ops : Array Oper) (j : Nat) : Option Nat := (ops[j]?).bind (·.dst)

/-- The rows that part a region: for each operation those that it waits for (all of them), the operation whose blocks it writes (itself, where it makes its own), the slots that its fact names, and the others that write the same blocks. -/
def rfOk (md : Region.Mode) (ops : Array Oper) (anc : List (List Nat)) (own : List Nat) (S peers : List (List Nat)) : Bool :=
  let n := ops.size
  let A := fun i => anc.getD i []
  let O := fun i => own.getD i i
  (List.range n).all fun i =>
    ((ops[i]?).map fun o => o.after.all fun e => !Region.binds md e || (A i).contains e.on).getD true &&
    ((A i).all fun j => decide (j < i) && ((A j).all fun k => (A i).contains k) && (((ops[i]?).map fun o => o.after.any fun e => Region.binds md e && (e.on == j || (A e.on).contains j)).getD false)) &&
    (O i == i || ((A i).contains (O i) && O (O i) == O i)) &&
    (List.range n).all fun j =>
      (j == i || (A i).contains j || match rdst ops j with | none => true | some d => !(S.getD i []).contains d) &&
      (!(O j == O i) || j == i || O i == i || (peers.getD i []).contains j)

structure RfStep (G : Nat) (F : Nat → Nat → Nat → (Nat → Value) → World → Prop) (own : List Nat) (S peers : List (List Nat)) (i lo hi : Nat) (dst : Option Nat) (a : Act) (W : World) (v : Value) (W' : World) : Prop where
  made : own.getD i i = i → Below W.heap.size W W' ∧ F i W.heap.size W'.heap.size (visp (S.getD i []) a dst v) W'
  wrote : own.getD i i ≠ i → Seg lo hi W W' ∧ F i lo hi (visp (S.getD i []) a dst v) W' ∧ ∀ j ∈ peers.getD i [], F j lo hi (vis (S.getD j []) a) W → F j lo hi (vis (S.getD j []) a) W'

/-- What holds in the middle of the region. -/
structure RfInv (w0 : World) (a0 : Act) (ops : Array Oper) (F : Nat → Nat → Nat → (Nat → Value) → World → Prop) (anc : List (List Nat)) (own : List Nat) (S : List (List Nat)) (iv : Nat → Nat × Nat) (done : Nat → Bool) (a : Act) (W : World) : Prop where
  below : Below w0.heap.size w0 W
  size : a.tmps.size = a0.tmps.size
  defers : a.defers = a0.defers
  rest : ∀ s, (∀ j, j < ops.size → rdst ops j ≠ some s) → slot a s = slot a0 s
  fact : ∀ i, i < ops.size → done i = true → (∀ j ∈ anc.getD i [], done j = true) ∧ F i (iv (own.getD i i)).1 (iv (own.getD i i)).2 (vis (S.getD i []) a) W
  ivs : ∀ i, i < ops.size → done i = true → own.getD i i = i → w0.heap.size ≤ (iv i).1 ∧ (iv i).1 ≤ (iv i).2 ∧ (iv i).2 ≤ W.heap.size
  apart : ∀ i j, i < ops.size → j < ops.size → done i = true → done j = true → own.getD i i = i → own.getD j j = j → i ≠ j → (iv i).2 ≤ (iv j).1 ∨ (iv j).2 ≤ (iv i).1

theorem slot_put {a : Act} {d : Option Nat} {v : Value} {s : Nat} (h : d ≠ some s) : slot (a.put d v) s = slot a s := by
  cases d with
  | none => rfl
  | some d =>
    have hne : d ≠ s := fun e => h (by rw [e])
    show (a.tmps.setIfInBounds d v).getD s undef = a.tmps.getD s undef
    rw [Array.getD_eq_getD_getElem?, Array.getD_eq_getD_getElem?, Array.getElem?_setIfInBounds_ne hne]

theorem vis_put {S : List Nat} {a : Act} {d : Option Nat} {v : Value} (h : ∀ x, d = some x → S.contains x = false) : vis S (a.put d v) = vis S a := by
  funext k
  unfold vis
  cases hk : S.contains k with
  | false => rfl
  | true =>
    simp only [cond_true]
    exact slot_put fun e => by have := h k e; rw [hk] at this; cases this

theorem vis_visp {S : List Nat} {a : Act} {d : Option Nat} {v : Value} (h : ∀ x, d = some x → x < a.tmps.size) : vis S (a.put d v) = visp S a d v := by
  funext k
  unfold vis visp
  cases hk : S.contains k with
  | false => rfl
  | true =>
    simp only [cond_true]
    cases d with
    | none => rfl
    | some x =>
      by_cases hx : x = k
      · subst hx
        have hlt := h x rfl
        simp only [beq_self_eq_true, cond_true]
        show (a.tmps.setIfInBounds x v).getD x undef = v
        simp [Array.getD, hlt]
      · have hb : (x == k) = false := by simpa using hx
        rw [slot_put (fun e => hx (Option.some.inj e))]
        simp [hb]

/-- All slots that are written lie in the frame. -/
def rfFits (ops : Array Oper) (n : Nat) : Bool := (List.range ops.size).all fun i => match rdst ops i with | some d => decide (d < n) | none => true

theorem rfFits_spec {ops : Array Oper} {n : Nat} (h : rfFits ops n = true) {i : Nat} (hi : i < ops.size) : ∀ x, rdst ops i = some x → x < n := by
  intro x hx
  have := List.all_eq_true.1 h i (List.mem_range.2 hi)
  rw [hx] at this
  simpa using this

theorem put_size (a : Act) (d : Option Nat) (v : Value) : (a.put d v).tmps.size = a.tmps.size ∧ (a.put d v).defers = a.defers := by
  cases d <;> simp [Act.put]

/-- All are listed where none is ready and each waits for earlier ones alone. -/
theorem ready_nil' {md : Region.Mode} {ops : Array Oper} {listed : Array Bool} (hd : ∀ (i : Nat) (o : Oper), ops[i]? = some o → ∀ e ∈ o.after, Region.binds md e = true → e.on < i) (hs : listed.size = ops.size) (h : Region.ready md ops listed = []) : ∀ i, i < ops.size → listed.getD i false = true := by
  intro i
  induction i using Nat.strongRecOn with
  | _ i ih =>
    intro hi
    cases hb : listed.getD i false with
    | true => rfl
    | false =>
      exfalso
      have hmem : i ∈ Region.ready md ops listed := by
        unfold Region.ready
        refine List.mem_filter.2 ⟨List.mem_range.2 hi, ?_⟩
        have hl : listed.getD i true = false := by
          have hil : i < listed.size := by omega
          simp only [Array.getD, hil, dif_pos] at hb ⊢
          exact hb
        rw [hl]
        have ho : ops[i]? = some ops[i] := Array.getElem?_eq_getElem hi
        rw [ho]
        simp only [Option.map_some, Option.getD_some, Bool.not_false, Bool.true_and]
        refine Array.all_eq_true.2 fun j hj => ?_
        cases hbd : Region.binds md ops[i].after[j] with
        | false => simp
        | true =>
          have hlt := hd i _ ho _ (Array.getElem_mem hj) hbd
          rw [ih _ hlt (by omega)]
          simp
      rw [h] at hmem
      cases hmem

/-- All slots that are written are among ds. -/
def rfDsts (ops : Array Oper) (ds : List Nat) : Bool := (List.range ops.size).all fun i => match rdst ops i with | some d => ds.contains d | none => true
theorem rfDsts_spec {ops : Array Oper} {ds : List Nat} (h : rfDsts ops ds = true) {s : Nat} (hs : s ∉ ds) : ∀ j, j < ops.size → rdst ops j ≠ some s := by
  intro j hj e
  have := List.all_eq_true.1 h j (List.mem_range.2 hj)
  rw [e] at this
  exact hs (by simpa using this)

/-- The frame behind the region: the one ahead of it, with the slots that were written. -/
theorem frame_of {a a0 : Act} (ds : List Nat) (hs : a.tmps.size = a0.tmps.size) (hd : a.defers = a0.defers) (hr : ∀ s, s ∉ ds → slot a s = slot a0 s) :
    a = ⟨ds.foldl (fun t d => t.setIfInBounds d (slot a d)) a0.tmps, a0.defers⟩ := by
  have key : ∀ (es : List Nat) (t : Array Value), (es.foldl (fun t d => t.setIfInBounds d (slot a d)) t).size = t.size ∧ ∀ s, (es.foldl (fun t d => t.setIfInBounds d (slot a d)) t)[s]? = if s ∈ es then (if s < t.size then some (slot a s) else none) else t[s]? := by
    intro es
    induction es with
    | nil => intro t; exact ⟨rfl, fun s => by simp⟩
    | cons d es ih =>
      intro t
      obtain ⟨h1, h2⟩ := ih (t.setIfInBounds d (slot a d))
      refine ⟨by rw [List.foldl_cons, h1]; simp, fun s => ?_⟩
      rw [List.foldl_cons, h2 s]
      by_cases hm : s ∈ es
      · simp [hm]
      · rw [if_neg hm, Array.getElem?_setIfInBounds]
        by_cases hds : d = s
        · subst hds; simp
        · have : s ≠ d := fun e => hds e.symm
          simp [hm, hds, this]
  obtain ⟨k1, k2⟩ := key ds a0.tmps
  have ht : a.tmps = ds.foldl (fun t d => t.setIfInBounds d (slot a d)) a0.tmps := by
    apply Array.ext_getElem?
    intro s
    rw [k2 s]
    by_cases hlt : s < a.tmps.size
    · have e1 : a.tmps[s]? = some (slot a s) := by
        rw [Array.getElem?_eq_getElem hlt]
        simp [slot, Array.getD, hlt]
      rw [e1]
      by_cases hm : s ∈ ds
      · rw [if_pos hm, if_pos (by omega)]
      · rw [if_neg hm, hr s hm]
        have h0 : s < a0.tmps.size := by omega
        rw [Array.getElem?_eq_getElem h0]
        simp [slot, Array.getD, h0]
    · rw [Array.getElem?_eq_none (by omega)]
      by_cases hm : s ∈ ds
      · rw [if_pos hm, if_neg (by omega)]
      · rw [if_neg hm, Array.getElem?_eq_none (by omega)]
  cases a
  cases a0
  simp only at ht hd
  simp only [Act.mk.injEq]
  exact ⟨ht, hd⟩

section
variable {P : Program} {md : Region.Mode} {ops : Array Oper} {Q : Exit → Act → World → Prop}

theorem rfOk_spec {anc : List (List Nat)} {own : List Nat} {S peers : List (List Nat)} (h : rfOk md ops anc own S peers = true) {i : Nat} (hi : i < ops.size) :
    (∀ o, ops[i]? = some o → ∀ e ∈ o.after, Region.binds md e = true → e.on ∈ anc.getD i []) ∧
    (∀ j ∈ anc.getD i [], j < i ∧ (∀ k ∈ anc.getD j [], k ∈ anc.getD i []) ∧ ∃ o, ops[i]? = some o ∧ ∃ e ∈ o.after, Region.binds md e = true ∧ (e.on = j ∨ j ∈ anc.getD e.on [])) ∧
    (own.getD i i = i ∨ (own.getD i i ∈ anc.getD i [] ∧ own.getD (own.getD i i) (own.getD i i) = own.getD i i)) ∧
    (∀ j, j < ops.size → j ≠ i → j ∉ anc.getD i [] → ∀ d, rdst ops j = some d → (S.getD i []).contains d = false) ∧
    (∀ j, j < ops.size → j ≠ i → own.getD j j = own.getD i i → own.getD i i ≠ i → j ∈ peers.getD i []) := by
  have h1 := List.all_eq_true.1 h i (List.mem_range.2 hi)
  simp only [Bool.and_eq_true] at h1
  obtain ⟨⟨⟨h1, h2⟩, h3⟩, h4⟩ := h1
  refine ⟨fun o ho e he hb => ?_, fun j hj => ?_, ?_, fun j hj hne hna d hd => ?_, fun j hj hne ho hi' => ?_⟩
  · rw [ho] at h1
    simp only [Option.map_some, Option.getD_some] at h1
    have := Array.all_eq_true'.1 h1 e he
    rw [hb] at this
    simpa using this
  · have := List.all_eq_true.1 h2 j hj
    simp only [Bool.and_eq_true, decide_eq_true_eq] at this
    refine ⟨this.1.1, fun k hk => by simpa using List.all_eq_true.1 this.1.2 k hk, ?_⟩
    have h5 := this.2
    cases ho : ops[i]? with
    | none => rw [ho] at h5; cases h5
    | some o =>
      rw [ho] at h5
      simp only [Option.map_some, Option.getD_some] at h5
      obtain ⟨k, hk, h6⟩ := Array.any_eq_true.1 h5
      simp only [Bool.and_eq_true, Bool.or_eq_true, beq_iff_eq, List.contains_iff_mem] at h6
      exact ⟨o, rfl, _, Array.getElem_mem hk, h6.1, h6.2⟩
  · simp only [Bool.or_eq_true, Bool.and_eq_true, beq_iff_eq, List.contains_iff_mem] at h3
    exact h3
  · have := List.all_eq_true.1 h4 j (List.mem_range.2 hj)
    simp only [Bool.and_eq_true, Bool.or_eq_true, beq_iff_eq] at this
    rcases this.1 with (h5 | h5) | h5
    · exact absurd h5 hne
    · exact absurd (by simpa using h5) hna
    · rw [hd] at h5
      simpa using h5
  · have := List.all_eq_true.1 h4 j (List.mem_range.2 hj)
    simp only [Bool.and_eq_true, Bool.or_eq_true, beq_iff_eq] at this
    rcases this.2 with ((h5 | h5) | h5) | h5
    · rw [ho] at h5
      simp at h5
    · exact absurd h5 hne
    · exact absurd h5 hi'
    · simpa using h5

/-- The operations from k on, one behind the other, m of them. -/
def rfTail (P : Program) (ops : Array Oper) (Q : Exit → Act → World → Prop) : Nat → Nat → Act → World → Prop
  | 0, _, a, w => Q .normal a w
  | m + 1, k, a, w => wpOp P ops Q k (rfTail P ops Q m (k + 1)) a w
/-- Each operation from t on waits for all that stand before it. -/
def rfTl (n t : Nat) (anc : List (List Nat)) : Bool := (List.range n).all fun i => decide (i < t) || (List.range i).all fun j => (anc.getD i []).contains j
theorem rfTl_spec {n t : Nat} {anc : List (List Nat)} (h : rfTl n t anc = true) {i : Nat} (hi : i < n) (ht : t ≤ i) : ∀ j, j < i → j ∈ anc.getD i [] := by
  intro j hj
  have h1 := List.all_eq_true.1 h i (List.mem_range.2 hi)
  simp only [Bool.or_eq_true, decide_eq_true_eq] at h1
  rcases h1 with h1 | h1
  · omega
  · simpa using List.all_eq_true.1 h1 j (List.mem_range.2 hj)

/-- A region in any order, by its operations' facts; its last m operations, which wait for all before them, are left to be walked. -/
theorem wpAny_factsT {a0 : Act} {w0 : World} (F : Nat → Nat → Nat → (Nat → Value) → World → Prop) (anc : List (List Nat)) (own : List Nat) (S peers : List (List Nat))
    (hok : rfOk md ops anc own S peers = true) (hfits : rfFits ops a0.tmps.size = true) (t m : Nat) (htm : t + m = ops.size) (htl : rfTl ops.size t anc = true)
    (hst : ∀ i, i < t → ∀ lo hi s W W', F i lo hi s W → w0.heap.size ≤ lo → lo ≤ hi → hi ≤ W.heap.size → w0.heap.size ≤ W.heap.size → Kept w0.heap.size lo hi W W' → F i lo hi s W')
    (hstep : ∀ i, i < t → ∀ (a : Act) (W : World) (iv : Nat → Nat × Nat), Below w0.heap.size w0 W → a.tmps.size = a0.tmps.size → a.defers = a0.defers → (∀ s, (∀ j, j < ops.size → rdst ops j ≠ some s) → slot a s = slot a0 s) →
      (∀ j ∈ anc.getD i [], F j (iv (own.getD j j)).1 (iv (own.getD j j)).2 (vis (S.getD j []) a) W) →
      (∀ j ∈ anc.getD i [], own.getD j j = j → w0.heap.size ≤ (iv j).1 ∧ (iv j).1 ≤ (iv j).2 ∧ (iv j).2 ≤ W.heap.size) →
      (∀ j ∈ anc.getD i [], ∀ k ∈ anc.getD i [], own.getD j j = j → own.getD k k = k → j ≠ k → (iv j).2 ≤ (iv k).1 ∨ (iv k).2 ≤ (iv j).1) →
      ∀ K : Act → World → Prop, (∀ v W', RfStep w0.heap.size F own S peers i (iv (own.getD i i)).1 (iv (own.getD i i)).2 (rdst ops i) a W v W' → K (a.put (rdst ops i) v) W') → wpOp P ops Q i K a W)
    (hfin : ∀ (a : Act) (W : World) (iv : Nat → Nat × Nat), RfInv w0 a0 ops F anc own S iv (fun i => decide (i < t)) a W → rfTail P ops Q m t a W) :
    wpAny P md ops Q ops.size (Array.replicate ops.size false) a0 { w0 with drawn := w0.drawn + 1 } := by
  have tail : ∀ (listed : Array Bool) (a : Act) (W : World) (iv : Nat → Nat × Nat), RfInv w0 a0 ops F anc own S iv (fun k => listed.getD k false) a W → (∀ j, j < t → listed.getD j false = true) → rfTail P ops Q m t a W := by
    intro listed a W iv I hl
    refine hfin a W iv ⟨I.below, I.size, I.defers, I.rest, fun i hi hd => ?_, fun i hi hd => ?_, fun i j hi hj hd1 hd2 => ?_⟩
    · have hit : i < t := of_decide_eq_true hd
      refine ⟨fun j hj => ?_, (I.fact i hi (hl i hit)).2⟩
      obtain ⟨-, r2, -⟩ := rfOk_spec hok hi
      exact decide_eq_true (Nat.lt_trans (r2 j hj).1 hit)
    · exact I.ivs i hi (hl i (of_decide_eq_true hd))
    · exact I.apart i j hi hj (hl i (of_decide_eq_true hd1)) (hl j (of_decide_eq_true hd2))
  refine wpAny_inv (fun listed a W => (∃ iv, RfInv w0 a0 ops F anc own S iv (fun k => listed.getD k false) a W ∧ ∀ k, t ≤ k → k < ops.size → listed.getD k false = false) ∨ (∃ k q, t ≤ k ∧ k + q = ops.size ∧ (∀ j, j < k → listed.getD j false = true) ∧ (∀ j, k ≤ j → j < ops.size → listed.getD j false = false) ∧ rfTail P ops Q q k a W)) ?_ ?_ _ _ _ _ (by simp) (by simp) ?_
  · intro listed a W i hI hs hi hli hdep
    have hlf : listed.getD i false = false := by
      have hil : i < listed.size := by omega
      simp only [Array.getD, hil, dif_pos] at hli ⊢
      exact hli
    obtain ⟨r1, r2, r3, r4, r5⟩ := rfOk_spec hok hi
    -- an operation of the tail comes up when all before it are listed
    have up : t ≤ i → (∀ j, j < t → listed.getD j false = true) ∨ (∃ iv, RfInv w0 a0 ops F anc own S iv (fun k => listed.getD k false) a W) → ∀ j, j < i → (∀ j' , j' ∈ anc.getD i [] → (∃ o, ops[i]? = some o ∧ ∃ e ∈ o.after, Region.binds md e = true ∧ (e.on = j' ∨ j' ∈ anc.getD e.on [])) → listed.getD j' false = true) → listed.getD j false = true := by
      intro ht _ j hj hA
      have hm := rfTl_spec htl hi ht j hj
      exact hA j hm (r2 j hm).2.2
    rcases hI with ⟨iv, I, htn⟩ | ⟨k, q, hk1, hk2, hk3, hk4, hT⟩
    rotate_left
    · -- in the tail
      have hki : k ≤ i := by
        rcases Nat.lt_or_ge i k with h | h
        · have := hk3 i h; rw [hlf] at this; cases this
        · exact h
      have hik : i = k := by
        rcases Nat.lt_or_ge k i with h | h
        · exfalso
          have hm := rfTl_spec htl hi (Nat.le_trans hk1 hki) k h
          obtain ⟨-, -, o, ho, e, he, hb, hc⟩ := r2 k hm
          have hl := hdep o ho e he hb
          have hon : e.on < k := by
            rcases Nat.lt_or_ge e.on k with h2 | h2
            · exact h2
            · have := hk4 e.on h2 (Nat.lt_trans (r2 _ (r1 o ho e he hb)).1 hi)
              rw [this] at hl; cases hl
          rcases hc with rfl | hc
          · omega
          · have hen : e.on < ops.size := by omega
            obtain ⟨-, s2, -⟩ := rfOk_spec hok hen
            have := (s2 k hc).1
            omega
        · omega
      subst hik
      obtain ⟨q, rfl⟩ : ∃ q', q = q' + 1 := ⟨q - 1, by omega⟩
      have hil : i < listed.size := by omega
      refine wpOp_mono (fun a' W' hT' => .inr ⟨i + 1, q, by omega, by omega, fun j hj => ?_, fun j hj hjn => ?_, hT'⟩) hT
      · rw [listed_set hil]
        by_cases e : j = i
        · rw [if_pos e]
        · rw [if_neg e]; exact hk3 j (by omega)
      · rw [listed_set hil, if_neg (by omega)]
        exact hk4 j (by omega) hjn
    rcases Nat.lt_or_ge i t with hit | hit
    rotate_left
    · -- the tail begins
      have hd : ∀ j ∈ anc.getD i [], listed.getD j false = true := by
        intro j hj
        obtain ⟨-, -, o, ho, e, he, hb, hc⟩ := r2 j hj
        have hl := hdep o ho e he hb
        rcases hc with rfl | hc
        · exact hl
        · have hen : e.on < ops.size := Nat.lt_trans (r2 _ (r1 o ho e he hb)).1 hi
          exact (I.fact _ hen hl).1 j hc
      have hit2 : i = t := by
        rcases Nat.lt_or_ge t i with h | h
        · have h1 := hd t (rfTl_spec htl hi hit t h)
          rw [htn t (Nat.le_refl _) (by omega)] at h1
          cases h1
        · omega
      subst hit2
      have hall : ∀ j, j < i → listed.getD j false = true := fun j hj => hd j (rfTl_spec htl hi (Nat.le_refl _) j hj)
      have hT := tail listed a W iv I hall
      obtain ⟨q, rfl⟩ : ∃ q', m = q' + 1 := ⟨m - 1, by omega⟩
      have hil : i < listed.size := by omega
      refine wpOp_mono (fun a' W' hT' => .inr ⟨i + 1, q, by omega, by omega, fun j hj => ?_, fun j hj hjn => ?_, hT'⟩) hT
      · rw [listed_set hil]
        by_cases e : j = i
        · rw [if_pos e]
        · rw [if_neg e]; exact hall j (by omega)
      · rw [listed_set hil, if_neg (by omega)]
        exact htn j (by omega) hjn
    clear up
    -- all that it waits for is done
    have hd : ∀ j ∈ anc.getD i [], listed.getD j false = true := by
      intro j hj
      obtain ⟨-, -, o, ho, e, he, hb, hc⟩ := r2 j hj
      have hl := hdep o ho e he hb
      rcases hc with rfl | hc
      · exact hl
      · have hen : e.on < ops.size := Nat.lt_trans (r2 _ (r1 o ho e he hb)).1 hi
        exact (I.fact _ hen hl).1 j hc
    have hjn : ∀ j ∈ anc.getD i [], j < ops.size := fun j hj => Nat.lt_trans (r2 j hj).1 hi
    refine hstep i hit a W iv I.below I.size I.defers I.rest (fun j hj => (I.fact j (hjn j hj) (hd j hj)).2) (fun j hj ho => I.ivs j (hjn j hj) (hd j hj) ho) (fun j hj k hk h1 h2 h3 => I.apart j k (hjn j hj) (hjn k hk) (hd j hj) (hd k hk) h1 h2 h3) _ ?_
    intro v W' R
    refine .inl ?_
    have htn' : ∀ k, t ≤ k → k < ops.size → (listed.setIfInBounds i true).getD k false = false := fun k h1 h2 => by
      rw [listed_set (by omega), if_neg (by omega)]
      exact htn k h1 h2
    suffices hsuf : ∃ iv, RfInv w0 a0 ops F anc own S iv (fun k => (listed.setIfInBounds i true).getD k false) (a.put (rdst ops i) v) W' by
      obtain ⟨iv', I'⟩ := hsuf
      exact ⟨iv', I', htn'⟩
    have hvv : ∀ T : List Nat, vis T (a.put (rdst ops i) v) = visp T a (rdst ops i) v := fun T => vis_visp fun x hx => by rw [I.size]; exact rfFits_spec hfits hi x hx
    have hil : i < listed.size := by omega
    have hset := fun k => listed_set (listed := listed) (i := i) (k := k) hil
    -- an operation that is done does not wait for i, and its fact names no slot that i writes
    have hno : ∀ k, k < ops.size → listed.getD k false = true → k ≠ i ∧ i ∉ anc.getD k [] ∧ own.getD k k ≠ i ∧ vis (S.getD k []) (a.put (rdst ops i) v) = vis (S.getD k []) a ∧ own.getD (own.getD k k) (own.getD k k) = own.getD k k ∧ listed.getD (own.getD k k) false = true ∧ own.getD k k < ops.size := by
      intro k hk hkl
      have e1 : k ≠ i := by rintro rfl; rw [hlf] at hkl; cases hkl
      have e2 : i ∉ anc.getD k [] := fun hm => by have := (I.fact k hk hkl).1 i hm; rw [hlf] at this; cases this
      obtain ⟨-, s2, s3, s4, -⟩ := rfOk_spec hok hk
      refine ⟨e1, e2, fun e => ?_, vis_put fun x hx => s4 i hi (Ne.symm e1) e2 x hx, ?_, ?_, ?_⟩
      · rcases s3 with s3 | s3
        · exact e1 (s3.symm.trans e)
        · rw [e] at s3; exact e2 s3.1
      · rcases s3 with s3 | s3
        · rw [s3]; exact s3
        · exact s3.2
      · rcases s3 with s3 | s3
        · rw [s3]; exact hkl
        · exact (I.fact k hk hkl).1 _ s3.1
      · rcases s3 with s3 | s3
        · rw [s3]; exact hk
        · exact Nat.lt_trans (s2 _ s3.1).1 hk
    have hG : w0.heap.size ≤ W.heap.size := I.below.size
    have hkt : ∀ k, k < ops.size → listed.getD k false = true → k < t := fun k hk hkl => by
      rcases Nat.lt_or_ge k t with h | h
      · exact h
      · rw [htn k h hk] at hkl; cases hkl
    have hrest : ∀ s, (∀ j, j < ops.size → rdst ops j ≠ some s) → slot (a.put (rdst ops i) v) s = slot a0 s := fun s h => (slot_put (h i hi)).trans (I.rest s h)
    have hdone : ∀ k, k < ops.size → (if k = i then true else listed.getD k false) = true → k = i ∨ listed.getD k false = true := by
      intro k _ h
      by_cases e : k = i
      · exact .inl e
      · rw [if_neg e] at h; exact .inr h
    by_cases ho : own.getD i i = i
    · obtain ⟨hb, hF⟩ := R.made ho
      have hb0 : Below w0.heap.size W W' := hb.mono hG
      refine ⟨fun k => if k = i then (W.heap.size, W'.heap.size) else iv k, I.below.trans hb0, (put_size _ _ _).1.trans I.size, (put_size _ _ _).2.trans I.defers, hrest, ?_, ?_, ?_⟩
      · intro k hk hkd
        simp only [hset] at hkd ⊢
        rcases hdone k hk hkd with rfl | hkl
        · refine ⟨fun j hj => ?_, ?_⟩
          · by_cases e : j = k
            · rw [if_pos e]
            · rw [if_neg e]; exact hd j hj
          · rw [ho, if_pos rfl, hvv]
            exact hF
        · obtain ⟨e1, e2, e3, e4, e5, e6, e7⟩ := hno k hk hkl
          refine ⟨fun j hj => ?_, ?_⟩
          · by_cases e : j = i
            · rw [if_pos e]
            · rw [if_neg e]; exact (I.fact k hk hkl).1 j hj
          · rw [if_neg e3, e4]
            obtain ⟨q1, q2, q3⟩ := I.ivs _ e7 e6 e5
            exact hst k (hkt k hk hkl) _ _ _ _ _ (I.fact k hk hkl).2 q1 q2 q3 hG (.of_below hb)
      · intro k hk hkd hko
        simp only [hset] at hkd ⊢
        rcases hdone k hk hkd with rfl | hkl
        · rw [if_pos rfl]
          exact ⟨hG, hb.size, Nat.le_refl _⟩
        · rw [if_neg (hno k hk hkl).1]
          obtain ⟨q1, q2, q3⟩ := I.ivs k hk hkl hko
          exact ⟨q1, q2, Nat.le_trans q3 hb.size⟩
      · intro j k hj hk hjd hkd hjo hko hne
        simp only [hset] at hjd hkd ⊢
        rcases hdone j hj hjd with rfl | hjl
        · rw [if_pos rfl]
          rcases hdone k hk hkd with rfl | hkl
          · exact absurd rfl hne
          · rw [if_neg (hno k hk hkl).1]
            exact .inr (I.ivs k hk hkl hko).2.2
        · rw [if_neg (hno j hj hjl).1]
          rcases hdone k hk hkd with rfl | hkl
          · rw [if_pos rfl]
            exact .inl (I.ivs j hj hjl hjo).2.2
          · rw [if_neg (hno k hk hkl).1]
            exact I.apart j k hj hk hjl hkl hjo hko hne
    · obtain ⟨hs', hF, hP⟩ := R.wrote ho
      rcases r3 with r3 | ⟨r3, r3'⟩
      · exact absurd r3 ho
      have hol := hd _ r3
      have hon := hjn _ r3
      obtain ⟨q1, q2, q3⟩ := I.ivs _ hon hol r3'
      have hb0 : Below w0.heap.size W W' := hs'.below.mono q1
      refine ⟨iv, I.below.trans hb0, (put_size _ _ _).1.trans I.size, (put_size _ _ _).2.trans I.defers, hrest, ?_, ?_, ?_⟩
      · intro k hk hkd
        simp only [hset] at hkd ⊢
        rcases hdone k hk hkd with rfl | hkl
        · refine ⟨fun j hj => ?_, by rw [hvv]; exact hF⟩
          by_cases e : j = k
          · rw [if_pos e]
          · rw [if_neg e]; exact hd j hj
        · obtain ⟨e1, e2, e3, e4, e5, e6, e7⟩ := hno k hk hkl
          refine ⟨fun j hj => ?_, ?_⟩
          · by_cases e : j = i
            · rw [if_pos e]
            · rw [if_neg e]; exact (I.fact k hk hkl).1 j hj
          · rw [e4]
            by_cases eo : own.getD k k = own.getD i i
            · have hf := (I.fact k hk hkl).2
              rw [eo] at hf ⊢
              exact hP k (r5 k hk e1 eo ho) hf
            · obtain ⟨p1, p2, p3⟩ := I.ivs _ e7 e6 e5
              have hap := I.apart _ _ e7 hon e6 hol e5 r3' eo
              refine hst k (hkt k hk hkl) _ _ _ _ _ (I.fact k hk hkl).2 p1 p2 p3 hG ⟨hs'.below.size, fun b hb _ => hs'.below.block b (Nat.lt_of_lt_of_le hb q1), fun b h1 h2 h3 => ?_⟩
              rcases hap with hap | hap
              · exact hs'.below.block b (Nat.lt_of_lt_of_le h2 hap)
              · exact hs'.over b (Nat.le_trans hap h1) h3
      · intro k hk hkd hko
        simp only [hset] at hkd
        rcases hdone k hk hkd with rfl | hkl
        · exact absurd hko ho
        · obtain ⟨p1, p2, p3⟩ := I.ivs k hk hkl hko
          exact ⟨p1, p2, Nat.le_trans p3 hs'.below.size⟩
      · intro j k hj hk hjd hkd hjo hko hne
        simp only [hset] at hjd hkd
        rcases hdone j hj hjd with rfl | hjl
        · exact absurd hjo ho
        rcases hdone k hk hkd with rfl | hkl
        · exact absurd hko ho
        exact I.apart j k hj hk hjl hkl hjo hko hne
  · intro listed a W hI hs hnil
    have hall := ready_nil' (fun i o ho e he hb => by
      have hi : i < ops.size := (Array.getElem?_eq_some_iff.1 ho).1
      obtain ⟨r1, r2, -⟩ := rfOk_spec hok hi
      exact (r2 _ (r1 o ho e he hb)).1) hs hnil
    rcases hI with ⟨iv, I, htn⟩ | ⟨k, q, hk1, hk2, hk3, hk4, hT⟩
    · have hm : m = 0 := by
        rcases Nat.eq_zero_or_pos m with h | h
        · exact h
        · have h1 := hall t (by omega)
          rw [htn t (Nat.le_refl _) (by omega)] at h1
          cases h1
      have hT := tail listed a W iv I (fun j hj => hall j (by omega))
      rw [hm] at hT
      exact hT
    · have hq : q = 0 := by
        rcases Nat.eq_zero_or_pos q with h | h
        · exact h
        · have h1 := hall k (by omega)
          rw [hk4 k (Nat.le_refl _) (by omega)] at h1
          cases h1
      rw [hq] at hT
      exact hT
  · refine .inl ⟨fun _ => (0, 0), ⟨(Below.refl _ _).drew, rfl, rfl, fun _ _ => rfl, ?_, ?_, ?_⟩, fun k _ _ => by simp [Array.getD]⟩
    · intro i hi hd
      simp [Array.getD] at hd
    · intro i hi hd
      simp [Array.getD] at hd
    · intro i j hi hj hd
      simp [Array.getD] at hd

/-- A region in any order, by its operations' facts. -/
theorem wpAny_facts {a0 : Act} {w0 : World} (F : Nat → Nat → Nat → (Nat → Value) → World → Prop) (anc : List (List Nat)) (own : List Nat) (S peers : List (List Nat))
    (hok : rfOk md ops anc own S peers = true) (hfits : rfFits ops a0.tmps.size = true)
    (hst : ∀ i, i < ops.size → ∀ lo hi s W W', F i lo hi s W → w0.heap.size ≤ lo → lo ≤ hi → hi ≤ W.heap.size → w0.heap.size ≤ W.heap.size → Kept w0.heap.size lo hi W W' → F i lo hi s W')
    (hstep : ∀ i, i < ops.size → ∀ (a : Act) (W : World) (iv : Nat → Nat × Nat), Below w0.heap.size w0 W → a.tmps.size = a0.tmps.size → a.defers = a0.defers → (∀ s, (∀ j, j < ops.size → rdst ops j ≠ some s) → slot a s = slot a0 s) →
      (∀ j ∈ anc.getD i [], F j (iv (own.getD j j)).1 (iv (own.getD j j)).2 (vis (S.getD j []) a) W) →
      (∀ j ∈ anc.getD i [], own.getD j j = j → w0.heap.size ≤ (iv j).1 ∧ (iv j).1 ≤ (iv j).2 ∧ (iv j).2 ≤ W.heap.size) →
      (∀ j ∈ anc.getD i [], ∀ k ∈ anc.getD i [], own.getD j j = j → own.getD k k = k → j ≠ k → (iv j).2 ≤ (iv k).1 ∨ (iv k).2 ≤ (iv j).1) →
      ∀ K : Act → World → Prop, (∀ v W', RfStep w0.heap.size F own S peers i (iv (own.getD i i)).1 (iv (own.getD i i)).2 (rdst ops i) a W v W' → K (a.put (rdst ops i) v) W') → wpOp P ops Q i K a W)
    (hfin : ∀ (a : Act) (W : World) (iv : Nat → Nat × Nat), RfInv w0 a0 ops F anc own S iv (fun _ => true) a W → Q .normal a W) :
    wpAny P md ops Q ops.size (Array.replicate ops.size false) a0 { w0 with drawn := w0.drawn + 1 } := by
  refine wpAny_factsT F anc own S peers hok hfits ops.size 0 (by simp) ?_ hst hstep ?_
  · exact List.all_eq_true.2 fun i hi => by simp [List.mem_range.1 hi]
  · intro a W iv I
    exact hfin a W iv ⟨I.below, I.size, I.defers, I.rest, fun i hi _ => ⟨fun _ _ => rfl, (I.fact i hi (decide_eq_true hi)).2⟩, fun i hi _ => I.ivs i hi (decide_eq_true hi), fun i j hi hj _ _ => I.apart i j hi hj (decide_eq_true hi) (decide_eq_true hj)⟩

end

theorem yielded_of {ops : Array Oper} {a : Act} {g d : Nat} {b : Bool} (hd : rdst ops g = some d) (hv : a.tmps.getD d undef = .bool b) : yielded ops a.tmps g = some b := by
  unfold yielded
  unfold rdst at hd
  rw [hd]
  by_cases hlt : d < a.tmps.size
  · rw [Option.bind_some, Array.getElem?_eq_getElem hlt]
    simp only [Array.getD, hlt, dif_pos] at hv
    have hv : a.tmps[d] = .bool b := hv
    rw [hv]
  · simp only [Array.getD, hlt, dif_neg, not_false_eq_true] at hv
    cases hv

theorem wanted_pos {ops : Array Oper} {o : Oper} {a : Act} {g d : Nat} {b : Bool} (hg : o.guard = some (g, b)) (hd : rdst ops g = some d) (hv : a.tmps.getD d undef = .bool b) : Region.wanted o (yielded ops a.tmps) = true := by
  unfold Region.wanted
  rw [hg]
  simp only [yielded_of hd hv]
  simp

theorem wanted_neg {ops : Array Oper} {o : Oper} {a : Act} {g d : Nat} {b b' : Bool} (hg : o.guard = some (g, b)) (hd : rdst ops g = some d) (hv : a.tmps.getD d undef = .bool b') (hne : b' ≠ b) : ¬ Region.wanted o (yielded ops a.tmps) = true := by
  unfold Region.wanted
  rw [hg]
  simp only [yielded_of hd hv]
  simpa using hne

/-! Owned values by Kept. -/
theorem Ow.on {w w' : World} {v : Value} {l : List Int} {lo hi : Nat} (h : Ow w v l lo hi) (hs : w.heap.size ≤ w'.heap.size) (k : ∀ b, lo ≤ b → b < hi → b < w.heap.size → w'.heap[b]? = w.heap[b]?) : Ow w' v l lo hi := by
  obtain ⟨⟨F, h, hF⟩, h1, h2⟩ := h
  exact ⟨⟨F, h.eq fun x hx => k x (hF x hx).1 (hF x hx).2 (h.lt x hx), hF⟩, h1, Nat.le_trans h2 hs⟩

theorem Owp.on {w w' : World} {v : Value} {ps : List Pv} {lo hi : Nat} (h : Owp w v ps lo hi) (hs : w.heap.size ≤ w'.heap.size) (k : ∀ b, lo ≤ b → b < hi → b < w.heap.size → w'.heap[b]? = w.heap[b]?) : Owp w' v ps lo hi :=
  ⟨owns_eq h.own fun g hg => k g (World.ownsRow.lt h.own g hg).1 (h.lt g hg) (World.ownsRow.lt h.own g hg).2, h.lt, h.le, Nat.le_trans h.top hs⟩

/-- A column of the call's own, its rows' own stretches left open. -/
def Oc (w : World) (v : Value) (l r : List Int) (ps : List Pv) (lo hi : Nat) : Prop := ∃ x y z n1 h1 n2 h2 n3 h3, v = .agg #[x, y, z] ∧ OC w x y z l r ps lo hi n1 h1 n2 h2 n3 h3

theorem OC.on {w w' : World} {x y z : Value} {l r : List Int} {ps : List Pv} {lo hi n1 h1 n2 h2 n3 h3 : Nat} (h : OC w x y z l r ps lo hi n1 h1 n2 h2 n3 h3) (hs : w.heap.size ≤ w'.heap.size) (k : ∀ b, lo ≤ b → b < hi → b < w.heap.size → w'.heap[b]? = w.heap[b]?) : OC w' x y z l r ps lo hi n1 h1 n2 h2 n3 h3 :=
  ⟨h.x.on hs fun b a c => k b (Nat.le_trans h.low.1 a) (Nat.lt_of_lt_of_le c h.high.1), h.y.on hs fun b a c => k b (Nat.le_trans h.low.2.1 a) (Nat.lt_of_lt_of_le c h.high.2.1), h.z.on hs fun b a c => k b (Nat.le_trans h.low.2.2 a) (Nat.lt_of_lt_of_le c h.high.2.2), h.low, h.high, h.apart, h.top.1, Nat.le_trans h.top.2 hs⟩

theorem Oc.on {w w' : World} {v : Value} {l r : List Int} {ps : List Pv} {G lo hi : Nat} (h : Oc w v l r ps lo hi) (k : Kept G lo hi w w') : Oc w' v l r ps lo hi := by
  obtain ⟨x, y, z, n1, h1, n2, h2, n3, h3, e, h⟩ := h
  exact ⟨x, y, z, n1, h1, n2, h2, n3, h3, e, h.on k.size k.own⟩

theorem Oc.below {w w' : World} {v : Value} {l r : List Int} {ps : List Pv} {lo hi : Nat} (h : Oc w v l r ps lo hi) (hb : Below w.heap.size w w') : Oc w' v l r ps lo hi := by
  obtain ⟨x, y, z, n1, h1, n2, h2, n3, h3, e, h⟩ := h
  exact ⟨x, y, z, n1, h1, n2, h2, n3, h3, e, h.below hb⟩

theorem Oc.seg {w w' : World} {v : Value} {l r : List Int} {ps : List Pv} {lo hi a b : Nat} (h : Oc w v l r ps lo hi) (s : Seg a b w w') (d : hi ≤ a ∨ b ≤ lo) : Oc w' v l r ps lo hi := by
  obtain ⟨x, y, z, n1, h1, n2, h2, n3, h3, e, h⟩ := h
  exact ⟨x, y, z, n1, h1, n2, h2, n3, h3, e, h.seg s d⟩

theorem Oc.mono {w : World} {v : Value} {l r : List Int} {ps : List Pv} {lo hi lo' hi' : Nat} (h : Oc w v l r ps lo hi) (h1 : lo' ≤ lo) (h2 : hi ≤ hi') (h3 : hi' ≤ w.heap.size) : Oc w v l r ps lo' hi' := by
  obtain ⟨x, y, z, n1, k1, n2, k2, n3, k3, e, h⟩ := h
  obtain ⟨a1, a2, a3⟩ := h.low
  obtain ⟨b1, b2, b3⟩ := h.high
  obtain ⟨t1, t2⟩ := h.top
  exact ⟨x, y, z, n1, k1, n2, k2, n3, k3, e, h.x, h.y, h.z, ⟨by omega, by omega, by omega⟩, ⟨by omega, by omega, by omega⟩, h.apart, by omega, h3⟩

theorem Oc.top {w : World} {v : Value} {l r : List Int} {ps : List Pv} {lo hi : Nat} (h : Oc w v l r ps lo hi) : lo ≤ hi ∧ hi ≤ w.heap.size := by
  obtain ⟨x, y, z, n1, h1, n2, h2, n3, h3, e, h⟩ := h
  exact h.top

/-- All numbers fit. -/
def CkWf (l r : List Int) (ps : List Pv) : Prop := (∀ x ∈ l, I64 x) ∧ (∀ x ∈ r, I64 x) ∧ ps.length ≤ 9223372036854775807 ∧ ∀ p ∈ ps, I64 p.1 ∧ I64 p.2

theorem Oc.rd {w : World} {v : Value} {l r : List Int} {ps : List Pv} {lo hi : Nat} (h : Oc w v l r ps lo hi) (hw : CkWf l r ps) : Ck w w.heap.size v l r ps := by
  obtain ⟨x, y, z, n1, h1, n2, h2, n3, h3, rfl, h⟩ := h
  exact h.ck hw.1 hw.2.1 hw.2.2.1 hw.2.2.2

theorem Oc.form {w : World} {v : Value} {l r : List Int} {ps : List Pv} {lo hi : Nat} (h : Oc w v l r ps lo hi) : ∃ a1 c1 a2 c2 a3 c3, v = .agg #[.slice a1 l.length c1, .slice a2 r.length c2, .slice a3 ps.length c3] := by
  obtain ⟨x, y, z, n1, h1, n2, h2, n3, h3, rfl, h⟩ := h
  obtain ⟨a1, c1, rfl⟩ := h.x.form
  obtain ⟨a2, c2, rfl⟩ := h.y.form
  obtain ⟨a3, c3, rfl⟩ := h.z.own.form
  exact ⟨_, _, _, _, _, _, rfl⟩

/-- A new column of the call's own is returned; nothing that was there has turned. -/
def RetOc (w : World) (l r : List Int) (ps : List Pv) (e : Ending) (w' : World) : Prop := ∃ v, e = .returned v ∧ Oc w' v l r ps w.heap.size w'.heap.size ∧ Below w.heap.size w w'

theorem toCracker_o (v : Value) (l r : List Int) (ps : List Pv) (w : World) (B : Nat) (hv : Ck w B v l r ps) (hB : B ≤ w.heap.size) (hl : l.length ≤ 1048576) (hr : r.length ≤ 1048576) (hp : ps.length ≤ 1048576) :
    Calls Tryz.prog 11 #[v] w (RetOc w l r ps) := by
  refine (toCracker_own v l r ps w B hv hB hl hr hp).mono ?_
  rintro e w' ⟨u, lo, rfl, hlo, ⟨x, y, z, n1, n2, rfl, h1, h2, h3⟩, hb⟩
  have q1 := h1.le
  have q2 := h2.le
  have q3 := h3.le
  have q4 := h3.top
  exact ⟨_, rfl, ⟨x, y, z, _, _, _, _, _, _, rfl, h1, h2, h3, ⟨by omega, by omega, by omega⟩, ⟨by omega, by omega, by omega⟩, ⟨.inl (by omega), .inl (by omega), .inl (by omega)⟩, hb.size, Nat.le_refl _⟩, hb⟩

/-- A number is returned, the column's own elements now read as l, r, ps, only their stretch has turned. -/
def RetMOc (w : World) (v : Value) (l r : List Int) (ps : List Pv) (lo hi : Nat) (k : Int) (e : Ending) (w' : World) : Prop := e = .returned (.int .i64 k) ∧ Oc w' v l r ps lo hi ∧ Seg lo hi w w'

theorem markCracker_o (v : Value) (l r : List Int) (ps : List Pv) (lo hi : Nat) (k : Int) (w : World) (h : Oc w v l r ps lo hi) (k0 : 0 ≤ k) (k1 : k + l.length + r.length + 2 * ps.length ≤ 4611686018427387904) :
    Calls Tryz.prog 18 #[v, .int .i64 k] w (RetMOc w v (mkI k l.length) (mkI (k + l.length) r.length) (mkP (k + l.length + r.length) ps.length) lo hi (k + l.length + r.length + 2 * ps.length)) := by
  obtain ⟨x, y, z, n1, h1, n2, h2, n3, h3, rfl, h⟩ := h
  refine (markCracker_oc x y z l r ps lo hi n1 h1 n2 h2 n3 h3 k w h k0 k1).mono ?_
  rintro e w' ⟨rfl, h', s⟩
  exact ⟨rfl, ⟨_, _, _, _, _, _, _, _, _, rfl, h'⟩, s⟩

theorem heldCracker_o (v : Value) (l r p : Nat) (lo hi : Nat) (k : Int) (w : World) (h : Oc w v (mkI k l) (mkI (k + l) r) (mkP (k + l + r) p) lo hi) (k0 : 0 ≤ k) (k1 : k + l + r + 2 * p ≤ 4611686018427387904) :
    Calls Tryz.prog 20 #[v, .int .i64 k] w (RetI1 w (k + l + r + 2 * p)) := by
  obtain ⟨x, y, z, n1, h1, n2, h2, n3, h3, rfl, h⟩ := h
  exact heldCracker_oc x y z l r p lo hi n1 h1 n2 h2 n3 h3 k w h k0 k1

/-- Integers of the call's own, in the words of the other types. -/
def Oin (w : World) (v : Value) (l : List Int) (lo hi : Nat) : Prop := Ow w v l lo hi
def IntsWf (l : List Int) : Prop := ∀ x ∈ l, I64 x
theorem Oin.on {w w' : World} {v : Value} {l : List Int} {G lo hi : Nat} (h : Oin w v l lo hi) (k : Kept G lo hi w w') : Oin w' v l lo hi := Ow.on h k.size k.own
theorem Oin.below {w w' : World} {v : Value} {l : List Int} {lo hi : Nat} (h : Oin w v l lo hi) (hb : Below w.heap.size w w') : Oin w' v l lo hi := Ow.below h hb
theorem Oin.seg {w w' : World} {v : Value} {l : List Int} {lo hi a b : Nat} (h : Oin w v l lo hi) (s : Seg a b w w') (d : hi ≤ a ∨ b ≤ lo) : Oin w' v l lo hi := Ow.seg h s d
theorem Oin.top {w : World} {v : Value} {l : List Int} {lo hi : Nat} (h : Oin w v l lo hi) : lo ≤ hi ∧ hi ≤ w.heap.size := ⟨h.le, Ow.top h⟩
theorem Oin.rd {w : World} {v : Value} {l : List Int} {lo hi : Nat} (h : Oin w v l lo hi) (hw : IntsWf l) : Ints w w.heap.size v l := Ow.ints h hw
theorem Oin.form {w : World} {v : Value} {l : List Int} {lo hi : Nat} (h : Oin w v l lo hi) : ∃ a c, v = .slice a l.length c := Ow.form h
def RetMOin (w : World) (v : Value) (l : List Int) (lo hi : Nat) (k : Int) (e : Ending) (w' : World) : Prop := e = .returned (.int .i64 k) ∧ Oin w' v l lo hi ∧ Seg lo hi w w'
theorem markIntS_o (v : Value) (l : List Int) (lo hi : Nat) (k : Int) (w : World) (h : Oin w v l lo hi) (k0 : 0 ≤ k) (k1 : k + l.length ≤ 4611686018427387904) :
    Calls Tryz.prog 19 #[v, .int .i64 k] w (RetMOin w v (mkI k l.length) lo hi (k + l.length)) := by
  refine (markIntS_ow v l lo hi k w h k0 k1).mono ?_
  rintro e w' ⟨rfl, h', s⟩
  exact ⟨rfl, h', s⟩
theorem heldIntS_o (v : Value) (n : Nat) (lo hi : Nat) (k : Int) (w : World) (h : Oin w v (mkI k n) lo hi) (k0 : 0 ≤ k) (k1 : k + n ≤ 4611686018427387904) :
    Calls Tryz.prog 21 #[v, .int .i64 k] w (RetI1 w (k + n)) := by
  refine (heldIntS_ow v n lo hi k w h k0 k1).mono ?_
  rintro e w' ⟨rfl, rfl⟩
  exact ⟨rfl, Below.refl _ _⟩
theorem eqIntS_same (v u : Value) (l : List Int) (w : World) (B : Nat) (hB : B ≤ w.heap.size) (hv : Ints w B v l) (hu : Ints w B u l) : Calls Tryz.prog 17 #[v, u] w (RetB1 w true) := eqIntS_alike v u l w B hv hu

theorem Kn.add {w W : World} {L : List (Nat × Array Value × TypeId)} (h : Kn w W L) {g : Nat} {c : Array Value} {t : TypeId} (hg : W.heap[g]? = some (.cells c t (0, 0))) (hlow : w.heap.size ≤ g) (hne : ∀ e ∈ L, e.1 ≠ g) : Kn w W (L ++ [(g, c, t)]) := by
  refine ⟨h.below, fun e he => ?_, fun e he => ?_, ?_⟩
  · rcases List.mem_append.1 he with he | he
    · exact h.hold e he
    · obtain rfl : e = (g, c, t) := by simpa using he
      exact hg
  · rcases List.mem_append.1 he with he | he
    · exact h.high e he
    · obtain rfl : e = (g, c, t) := by simpa using he
      exact hlow
  · rw [List.map_append, List.nodup_append]
    refine ⟨h.nodup, by simp, fun a ha b hb => ?_⟩
    obtain ⟨e, he, rfl⟩ := List.mem_map.1 ha
    obtain rfl : b = g := by simpa using hb
    exact hne e he

/-- What was known ahead, and what a stretch made. -/
theorem Kn.joinR {w u W : World} {L M : List (Nat × Array Value × TypeId)} (h : Kn w u L) (k : Kn u W M) : Kn w W (L ++ M) := by
  have h2 := h.up k.below
  refine ⟨h2.below, fun e he => ?_, fun e he => ?_, ?_⟩
  · rcases List.mem_append.1 he with he | he
    · exact h2.hold e he
    · exact k.hold e he
  · rcases List.mem_append.1 he with he | he
    · exact h.high e he
    · exact Nat.le_trans h.below.size (k.high e he)
  · rw [List.map_append, List.nodup_append]
    refine ⟨h.nodup, k.nodup, fun a ha b hb => ?_⟩
    obtain ⟨e, he, rfl⟩ := List.mem_map.1 ha
    obtain ⟨f, hf, rfl⟩ := List.mem_map.1 hb
    have h3 := (Array.getElem?_eq_some_iff.1 (h.hold e he)).1
    have h4 := k.high f hf
    omega

theorem Kn.lts {w W : World} {L : List (Nat × Array Value × TypeId)} (h : Kn w W L) : ∀ e ∈ L, e.1 < W.heap.size := fun e he => (Array.getElem?_eq_some_iff.1 (h.hold e he)).1

/-- A region's own boxes, read off its facts. -/
theorem Kn.none {w W : World} (h : Below w.heap.size w W) : Kn w W [] := ⟨h, fun e h => by simp at h, fun e h => by simp at h, by simp⟩

theorem size2 {c : Array Value} (h : c.size = 2) : ∃ a b, c = #[a, b] := by
  match c, h with
  | ⟨[a, b]⟩, _ => exact ⟨a, b, rfl⟩
theorem size3 {c : Array Value} (h : c.size = 3) : ∃ a b d, c = #[a, b, d] := by
  match c, h with
  | ⟨[a, b, d]⟩, _ => exact ⟨a, b, d, rfl⟩

theorem heap_put2 {W : World} {g : Nat} {c : Array Value} {t : TypeId} (h : W.heap[g]? = some (.cells c t (0, 0))) (hc : c.size = 2) (x y : Value) : ((W.setCell ⟨g, 0, none⟩ x).setCell ⟨g, 1, none⟩ y).heap[g]? = some (.cells #[x, y] t (0, 0)) := by
  obtain ⟨a, b, rfl⟩ := size2 hc
  have h1 := heap_setCell_same W g 0 _ _ x h
  have h2 := heap_setCell_same _ g 1 _ _ y h1
  simpa using h2

theorem heap_put3 {W : World} {g : Nat} {c : Array Value} {t : TypeId} (h : W.heap[g]? = some (.cells c t (0, 0))) (hc : c.size = 3) (x y z : Value) : (((W.setCell ⟨g, 0, none⟩ x).setCell ⟨g, 1, none⟩ y).setCell ⟨g, 2, none⟩ z).heap[g]? = some (.cells #[x, y, z] t (0, 0)) := by
  obtain ⟨a, b, d, rfl⟩ := size3 hc
  have h1 := heap_setCell_same W g 0 _ _ x h
  have h2 := heap_setCell_same _ g 1 _ _ y h1
  have h3 := heap_setCell_same _ g 2 _ _ z h2
  simpa using h3

theorem segS2 {W : World} {g lo hi : Nat} (h1 : lo ≤ g) (h2 : g < hi) (x y : Value) : Seg lo hi W ((W.setCell ⟨g, 0, none⟩ x).setCell ⟨g, 1, none⟩ y) :=
  ((Seg.setCell W g 0 x).mono h1 h2).trans ((Seg.setCell _ g 1 y).mono h1 h2)
theorem segS3 {W : World} {g lo hi : Nat} (h1 : lo ≤ g) (h2 : g < hi) (x y z : Value) : Seg lo hi W (((W.setCell ⟨g, 0, none⟩ x).setCell ⟨g, 1, none⟩ y).setCell ⟨g, 2, none⟩ z) :=
  (segS2 h1 h2 x y).trans ((Seg.setCell _ g 2 z).mono h1 h2)

end Go.Proofs.YtajfhalalnlejaaGreat

/- SelectWith of both programs, together, in the words of the laws' generator (promise 4). -/
namespace Go.Proofs.YtajfhalalnlejaaGreat
open Go.RowKit Go.ChangeShapes

theorem slF_wf4 {l r : List Int} {ps : List Pv} {p t s f u : Int} (h : Wf l r ps 1048576) : (((slF l r ps p t s f u).l).length ≤ 4000000 ∧ ((slF l r ps p t s f u).r).length ≤ 4000000 ∧ ((slF l r ps p t s f u).ps).length ≤ 4000000) ∧ CkWf (slF l r ps p t s f u).l (slF l r ps p t s f u).r (slF l r ps p t s f u).ps := by
  obtain ⟨h1, h2, h3, h4, h5, h6⟩ := slF_wf (p := p) (t := t) (s := s) (f := f) (u := u) h
  exact ⟨⟨by omega, by omega, by omega⟩, h4, h5, by omega, h6⟩
theorem slR_wf4 {l r : List Int} {ps : List Pv} {p t s f u : Int} (h : Wf l r ps 1048576) : ((slR l r ps p t s f u).length ≤ 4000000) ∧ IntsWf (slR l r ps p t s f u) :=
  ⟨Nat.le_trans (slR_len h) (by omega), slR_wf h⟩

theorem sSl_any (v : Value) (l r : List Int) (ps : List Pv) (p t s f u : Int) (W : World) (h : Ck W W.heap.size v l r ps) (hwf : Wf l r ps 1048576) (hf : I64 f) (hu : I64 u) :
    Calls Tryz.prog 10 #[v, .agg #[.int .i64 p, .int .i64 t, .int .i64 s], .agg #[.int .i64 f, .int .i64 u]] W (fun e w' => ∃ u0 u2 lo0 hi0 lo2 hi2, e = .returned (.tuple #[u0, .agg #[.int .i64 p, .int .i64 t, .int .i64 (slF l r ps p t s f u).s], u2, .int .i64 ((slF l r ps p t s f u).n : Int)]) ∧ Oc w' u0 (slF l r ps p t s f u).l (slF l r ps p t s f u).r (slF l r ps p t s f u).ps lo0 hi0 ∧ W.heap.size ≤ lo0 ∧ Oin w' u2 (slR l r ps p t s f u) lo2 hi2 ∧ W.heap.size ≤ lo2 ∧ (hi0 ≤ lo2 ∨ hi2 ≤ lo0) ∧ Below W.heap.size W w') := by
  refine (sSw_any v l r ps p t s f u W h hwf hf hu).mono ?_
  rintro e w' ⟨x, y, z, v', lo, hi, n1, h1, n2, h2, n3, h3, m, mh, rfl, a, b, c, O, Q, hb⟩
  exact ⟨_, _, _, _, _, _, rfl, ⟨_, _, _, _, _, _, _, _, _, rfl, O⟩, a, Q, b, c, hb⟩

theorem iSl_any (v : Value) (l r : List Int) (ps : List Pv) (p t s f u : Int) (W : World) (h : Ck W W.heap.size v l r ps) (hwf : Wf l r ps 1048576) (hf : I64 f) (hu : I64 u) :
    Calls Tryz.prog 14 #[v, .agg #[.int .i64 p, .int .i64 t, .int .i64 s], .agg #[.int .i64 f, .int .i64 u]] W (fun e w' => ∃ u0 u2 lo0 hi0 lo2 hi2, e = .returned (.tuple #[u0, .agg #[.int .i64 p, .int .i64 t, .int .i64 (slF l r ps p t s f u).s], u2, .int .i64 ((slF l r ps p t s f u).n : Int)]) ∧ Oc w' u0 (slF l r ps p t s f u).l (slF l r ps p t s f u).r (slF l r ps p t s f u).ps lo0 hi0 ∧ W.heap.size ≤ lo0 ∧ Oin w' u2 (slR l r ps p t s f u) lo2 hi2 ∧ W.heap.size ≤ lo2 ∧ (hi0 ≤ lo2 ∨ hi2 ≤ lo0) ∧ Below W.heap.size W w') := by
  refine (iSw_any v l r ps p t s f u W h hwf hf hu).mono ?_
  rintro e w' ⟨x, y, z, v', lo, hi, n1, h1, n2, h2, n3, h3, m, mh, rfl, a, b, c, O, Q, hb⟩
  exact ⟨_, _, _, _, _, _, rfl, ⟨_, _, _, _, _, _, _, _, _, rfl, O⟩, a, Q, b, c, hb⟩

end Go.Proofs.YtajfhalalnlejaaGreat
