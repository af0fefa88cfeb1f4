/- A column of the call's own that is written cell by cell; l10Move of the reference (promise 7). -/
import Derived.Test.YtajfhalalnlejaaRpM
import Derived.Test.YtajfhalalnlejaaCkO
namespace Go.Proofs.Ytajfhalalnlejaa
open Go.RowKit Go.ChangeShapes
set_option linter.unusedSimpArgs false
set_option linter.unusedVariables false
set_option maxRecDepth 100000

/-- Where owned integers lie, if there are some. -/
theorem Ow.at {w : World} {a : Option Addr} {n c : Nat} {l : List Int} {lo hi : Nat} (h : Ow w (.slice a n c) l lo hi) (h0 : 0 < l.length) :
    ∃ g, a = some ⟨g, 0, none⟩ ∧ n = l.length ∧ lo ≤ g ∧ g < hi ∧ ∀ j (hj : j < l.length), w.cell? ⟨g, j, none⟩ = some (.int .i64 (l.getD j 0)) ∧ w.frozen? ⟨g, j, none⟩ = false := by
  obtain ⟨⟨F, ⟨o, rfl⟩, hF⟩, hle, htop⟩ := h
  rcases o.2 with ⟨e, hn⟩ | ⟨g, cap', cur, e, -⟩
  · omega
  injection e with e1 e2 e3
  subst e1 e3
  have hg := hF g (by simp [Value.ownBlock])
  refine ⟨g, rfl, e2, hg.1, hg.2, fun j hj => ?_⟩
  obtain ⟨q1, q2, -⟩ := o.cell j hj
  rw [List.getD_eq_getElem?_getD, List.getElem?_eq_getElem hj]
  exact ⟨q1, q2⟩

theorem Ow.put {w : World} {g n c : Nat} {l : List Int} {lo hi : Nat} (h : Ow w (.slice (some ⟨g, 0, none⟩) n c) l lo hi) (hn : n = l.length) (j : Nat) (x : Int) :
    Ow (w.setCell ⟨g, j, none⟩ (.int .i64 x)) (.slice (some ⟨g, 0, none⟩) n c) (l.set j x) lo hi := by
  obtain ⟨⟨F, ⟨o, rfl⟩, hF⟩, hle, htop⟩ := h
  exact ⟨⟨_, ⟨o.store hn j x, rfl⟩, hF⟩, hle, by simpa using htop⟩

/-- Where owned pivots lie, if there are some. -/
theorem Owp.at {w : World} {a : Option Addr} {n c : Nat} {ps : List Pv} {lo hi : Nat} (h : Owp w (.slice a n c) ps lo hi) (h0 : 0 < ps.length) :
    ∃ g, a = some ⟨g, 0, none⟩ ∧ n = ps.length ∧ lo ≤ g ∧ g < hi ∧ ∀ j (hj : j < ps.length), w.cell? ⟨g, j * 2, none⟩ = some (.int .i64 (ps.getD j (0, 0)).1) ∧ w.cell? ⟨g, j * 2 + 1, none⟩ = some (.int .i64 (ps.getD j (0, 0)).2) ∧ w.frozen? ⟨g, j * 2, none⟩ = false ∧ w.frozen? ⟨g, j * 2 + 1, none⟩ = false := by
  rcases h.own.2 with ⟨hv, hn⟩ | ⟨g, cap', cur, hv, _⟩
  · omega
  simp only [Value.slice.injEq] at hv
  obtain ⟨rfl, e2, -⟩ := hv
  refine ⟨g, rfl, e2, (World.ownsRow.lt h.own g rfl).1, h.lt g rfl, fun j hj => ?_⟩
  obtain ⟨q0, q1, f0, f1, -⟩ := Op.cell h.own j hj
  rw [List.getD_eq_getElem?_getD, List.getElem?_eq_getElem hj]
  exact ⟨q0, q1, f0, f1⟩

/-- A pivot's place is put. -/
theorem Owp.putAt {w : World} {g n c : Nat} {ps : List Pv} {lo hi : Nat} (h : Owp w (.slice (some ⟨g, 0, none⟩) n c) ps lo hi) (hn : n = ps.length) (j : Nat) (y : Int) (hj : j < ps.length) :
    Owp (w.setCell ⟨g, j * 2 + 1, none⟩ (.int .i64 y)) (.slice (some ⟨g, 0, none⟩) n c) (ps.set j ((ps.getD j (0, 0)).1, y)) lo hi := by
  subst hn
  have h' : w.ownsRow lo 60 2 (.slice (some ⟨g, 0, none⟩) ps.length c) ps.length (pvVs ps) := h.own
  have s2 := (World.ownsRow.stored h' (j * 2 + 1) (.int .i64 y)).1
  rw [pvVs_set1 ps j y hj] at s2
  refine ⟨?_, h.lt, h.le, by simpa using h.top⟩
  unfold Op
  rw [List.length_set, List.getD_eq_getElem?_getD, List.getElem?_eq_getElem hj]
  exact s2

/-- Of what was there only blocks that P tells may have turned. -/
def Trn (P : Nat → Prop) (w w' : World) : Prop := ∃ F, Only F w w' ∧ ∀ b ∈ F, P b

theorem Trn.refl (P : Nat → Prop) (w : World) : Trn P w w := ⟨[], Only.refl _ _, by simp⟩
theorem Trn.trans {P : Nat → Prop} {a b c : World} (h : Trn P a b) (k : Trn P b c) : Trn P a c := by
  obtain ⟨F, h1, h2⟩ := h
  obtain ⟨G, k1, k2⟩ := k
  exact ⟨F ++ G, (h1.mono fun b hb => List.mem_append_left _ hb).trans (k1.mono fun b hb => List.mem_append_right _ hb), fun b hb => (List.mem_append.1 hb).elim (h2 b) (k2 b)⟩
theorem Trn.drew {P : Nat → Prop} {a b : World} (h : Trn P a b) : Trn P a b.drew := by
  obtain ⟨F, h1, h2⟩ := h
  exact ⟨F, h1.drew, h2⟩
theorem Trn.below {P : Nat → Prop} {a b : World} (h : Below a.heap.size a b) : Trn P a b := ⟨[], Only.of_below h, by simp⟩
theorem Trn.setCell {P : Nat → Prop} {a w : World} (h : Trn P a w) {g : Nat} (hp : P g) (j : Nat) (u : Value) : Trn P a (w.setCell ⟨g, j, none⟩ u) := by
  obtain ⟨F, h1, h2⟩ := h
  exact ⟨F ++ [g], (h1.mono fun b hb => List.mem_append_left _ hb).setCell (by simp) u, fun b hb => (List.mem_append.1 hb).elim (h2 b) (fun e => by simp at e; subst e; exact hp)⟩
theorem Trn.size {P : Nat → Prop} {a b : World} (h : Trn P a b) : a.heap.size ≤ b.heap.size := by
  obtain ⟨F, h1, -⟩ := h
  exact h1.below.size
theorem Trn.block {P : Nat → Prop} {a b : World} (h : Trn P a b) (k : Nat) (hk : k < a.heap.size) (hn : ¬ P k) : b.heap[k]? = a.heap[k]? := by
  obtain ⟨F, h1, h2⟩ := h
  exact h1.block k hk fun hf => hn (h2 k hf)
theorem Trn.mono {P Q : Nat → Prop} {a b : World} (h : Trn P a b) (hs : ∀ k, P k → Q k) : Trn Q a b := by
  obtain ⟨F, h1, h2⟩ := h
  exact ⟨F, h1, fun k hk => hs k (h2 k hk)⟩
theorem Trn.seg {a b lo hi : Nat} {w w' : World} (h : Seg lo hi w w') {P : Nat → Prop} (hs : ∀ k, lo ≤ k → k < hi → P k) : Trn P w w' := by
  refine ⟨(List.range hi).filter fun k => decide (lo ≤ k), ⟨⟨h.below.os, h.below.tape, h.below.output, h.below.size, fun k hk => absurd hk (Nat.not_lt_zero k)⟩, fun k hk hn => ?_⟩, fun k hk => ?_⟩
  · by_cases c : k < lo
    · exact h.below.block k c
    · refine h.over k ?_ hk
      by_cases c2 : hi ≤ k
      · exact c2
      · exact absurd (List.mem_filter.2 ⟨List.mem_range.2 (by omega), by simp; omega⟩) hn
  · obtain ⟨h1, h2⟩ := List.mem_filter.1 hk
    exact hs k (by simpa using h2) (List.mem_range.1 h1)

theorem Ow.trn {w w' : World} {v : Value} {l : List Int} {lo hi : Nat} {P : Nat → Prop} (h : Ow w v l lo hi) (s : Trn P w w') (d : ∀ b, lo ≤ b → b < hi → ¬ P b) : Ow w' v l lo hi := by
  obtain ⟨⟨F, h, hF⟩, h1, h2⟩ := h
  exact ⟨⟨F, h.eq fun x hx => s.block x (h.lt x hx) (d x (hF x hx).1 (hF x hx).2), hF⟩, h1, Nat.le_trans h2 s.size⟩
theorem Owp.trn {w w' : World} {v : Value} {ps : List Pv} {lo hi : Nat} {P : Nat → Prop} (h : Owp w v ps lo hi) (s : Trn P w w') (d : ∀ b, lo ≤ b → b < hi → ¬ P b) : Owp w' v ps lo hi :=
  ⟨owns_eq h.own fun g hg => s.block g (World.ownsRow.lt h.own g hg).2 (d g (World.ownsRow.lt h.own g hg).1 (h.lt g hg)), h.lt, h.le, Nat.le_trans h.top s.size⟩
theorem Kn.trn {w W W' : World} {L : List (Nat × Array Value × TypeId)} {P : Nat → Prop} (h : Kn w W L) (s : Trn P W W') (hP : ∀ b, P b → w.heap.size ≤ b) (hL : ∀ e ∈ L, ¬ P e.1) : Kn w W' L := by
  obtain ⟨F, h1, h2⟩ := s
  refine ⟨h.below.trans ((h1.toBelow (fun b hb => hP b (h2 b hb)) h.below.size)), fun e he => ?_, h.high, h.nodup⟩
  rw [h1.block _ (Array.getElem?_eq_some_iff.1 (h.hold e he)).1 fun hf => hL e he (h2 _ hf)]
  exact h.hold e he

/-- Three stretches of blocks. -/
def P3 (n1 h1 n2 h2 n3 h3 b : Nat) : Prop := (n1 ≤ b ∧ b < h1) ∨ (n2 ≤ b ∧ b < h2) ∨ (n3 ≤ b ∧ b < h3)

/-- A column of the call's own: its three rows lie apart. -/
structure O3 (w : World) (x y z : Value) (S : RP) (n1 h1 n2 h2 n3 h3 : Nat) : Prop where
  x : Ow w x S.l n1 h1
  y : Ow w y S.r n2 h2
  z : Owp w z S.ps n3 h3
  apart : (h1 ≤ n2 ∨ h2 ≤ n1) ∧ (h1 ≤ n3 ∨ h3 ≤ n1) ∧ (h2 ≤ n3 ∨ h3 ≤ n2)

theorem OC.o3 {w : World} {x y z : Value} {l r : List Int} {ps : List Pv} {lo hi n1 h1 n2 h2 n3 h3 : Nat} (h : OC w x y z l r ps lo hi n1 h1 n2 h2 n3 h3) (k n : Nat) : O3 w x y z ⟨l, r, ps, k, n⟩ n1 h1 n2 h2 n3 h3 := ⟨h.x, h.y, h.z, h.apart⟩
theorem O3.oc {w : World} {x y z : Value} {S : RP} {n1 h1 n2 h2 n3 h3 lo : Nat} (h : O3 w x y z S n1 h1 n2 h2 n3 h3) (hlo : lo ≤ n1 ∧ lo ≤ n2 ∧ lo ≤ n3) : OC w x y z S.l S.r S.ps lo w.heap.size n1 h1 n2 h2 n3 h3 :=
  ⟨h.x, h.y, h.z, hlo, ⟨h.x.top, h.y.top, h.z.top⟩, h.apart, Nat.le_trans hlo.1 (Nat.le_trans h.x.le h.x.top), Nat.le_refl _⟩
theorem O3.trn {w w' : World} {x y z : Value} {S : RP} {n1 h1 n2 h2 n3 h3 : Nat} {P : Nat → Prop} (h : O3 w x y z S n1 h1 n2 h2 n3 h3) (s : Trn P w w') (d : ∀ b, P3 n1 h1 n2 h2 n3 h3 b → ¬ P b) : O3 w' x y z S n1 h1 n2 h2 n3 h3 :=
  ⟨h.x.trn s fun b q1 q2 => d b (.inl ⟨q1, q2⟩), h.y.trn s fun b q1 q2 => d b (.inr (.inl ⟨q1, q2⟩)), h.z.trn s fun b q1 q2 => d b (.inr (.inr ⟨q1, q2⟩)), h.apart⟩
theorem O3.below {w w' : World} {x y z : Value} {S : RP} {n1 h1 n2 h2 n3 h3 : Nat} (h : O3 w x y z S n1 h1 n2 h2 n3 h3) (hb : Below w.heap.size w w') : O3 w' x y z S n1 h1 n2 h2 n3 h3 :=
  h.trn (P := fun _ => False) (Trn.below hb) fun _ _ => id
theorem O3.drew {w : World} {x y z : Value} {S : RP} {n1 h1 n2 h2 n3 h3 : Nat} (h : O3 w x y z S n1 h1 n2 h2 n3 h3) : O3 w.drew x y z S n1 h1 n2 h2 n3 h3 := h.below (Below.refl _ _).drew
/-- A store elsewhere. -/
theorem O3.set {w : World} {x y z : Value} {S : RP} {n1 h1 n2 h2 n3 h3 g : Nat} (h : O3 w x y z S n1 h1 n2 h2 n3 h3) (hg : ¬ P3 n1 h1 n2 h2 n3 h3 g) (j : Nat) (u : Value) : O3 (w.setCell ⟨g, j, none⟩ u) x y z S n1 h1 n2 h2 n3 h3 :=
  h.trn (P := fun b => b = g) ((Trn.refl (fun b => b = g) w).setCell (g := g) rfl j u) fun b hb e => hg (e ▸ hb)
theorem O3.like {w : World} {x y z : Value} {S T : RP} {n1 h1 n2 h2 n3 h3 : Nat} (h : O3 w x y z S n1 h1 n2 h2 n3 h3) (e1 : T.l = S.l) (e2 : T.r = S.r) (e3 : T.ps = S.ps) : O3 w x y z T n1 h1 n2 h2 n3 h3 := ⟨e1 ▸ h.x, e2 ▸ h.y, e3 ▸ h.z, h.apart⟩

theorem O3.putX {w : World} {y z : Value} {S : RP} {g n c n1 h1 n2 h2 n3 h3 : Nat} (h : O3 w (.slice (some ⟨g, 0, none⟩) n c) y z S n1 h1 n2 h2 n3 h3) (hn : n = S.l.length) (q1 : n1 ≤ g) (q2 : g < h1) (j : Nat) (v : Int) :
    O3 (w.setCell ⟨g, j, none⟩ (.int .i64 v)) (.slice (some ⟨g, 0, none⟩) n c) y z ⟨S.l.set j v, S.r, S.ps, S.h, S.n⟩ n1 h1 n2 h2 n3 h3 := by
  have s := ((Trn.refl (fun b => b = g) w).setCell rfl j (.int .i64 v))
  have a := h.apart
  exact ⟨h.x.put hn j v, h.y.trn s fun b p1 p2 e => by omega, h.z.trn s fun b p1 p2 e => by omega, a⟩
theorem O3.putY {w : World} {x z : Value} {S : RP} {g n c n1 h1 n2 h2 n3 h3 : Nat} (h : O3 w x (.slice (some ⟨g, 0, none⟩) n c) z S n1 h1 n2 h2 n3 h3) (hn : n = S.r.length) (q1 : n2 ≤ g) (q2 : g < h2) (j : Nat) (v : Int) :
    O3 (w.setCell ⟨g, j, none⟩ (.int .i64 v)) x (.slice (some ⟨g, 0, none⟩) n c) z ⟨S.l, S.r.set j v, S.ps, S.h, S.n⟩ n1 h1 n2 h2 n3 h3 := by
  have s := ((Trn.refl (fun b => b = g) w).setCell rfl j (.int .i64 v))
  have a := h.apart
  exact ⟨h.x.trn s fun b p1 p2 e => by omega, h.y.put hn j v, h.z.trn s fun b p1 p2 e => by omega, a⟩
theorem O3.putZ {w : World} {x y : Value} {S : RP} {g n c n1 h1 n2 h2 n3 h3 : Nat} (h : O3 w x y (.slice (some ⟨g, 0, none⟩) n c) S n1 h1 n2 h2 n3 h3) (hn : n = S.ps.length) (q1 : n3 ≤ g) (q2 : g < h3) (j : Nat) (v : Int) (hj : j < S.ps.length) :
    O3 (w.setCell ⟨g, j * 2 + 1, none⟩ (.int .i64 v)) x y (.slice (some ⟨g, 0, none⟩) n c) (S.at j v) n1 h1 n2 h2 n3 h3 := by
  have s := ((Trn.refl (fun b => b = g) w).setCell rfl (j * 2 + 1) (.int .i64 v))
  have a := h.apart
  exact ⟨h.x.trn s fun b p1 p2 e => by omega, h.y.trn s fun b p1 p2 e => by omega, h.z.putAt hn j v hj, a⟩

/-- A number is returned; the column of the call's own reads as S now, only its stretches have turned. -/
def RetMv (w : World) (x y z : Value) (n1 h1 n2 h2 n3 h3 : Nat) (S : RP) (k : Int) (e : Ending) (w' : World) : Prop := e = .returned (.int .i64 k) ∧ O3 w' x y z S n1 h1 n2 h2 n3 h3 ∧ Trn (P3 n1 h1 n2 h2 n3 h3) w w'

set_option maxHeartbeats 4000000 in
theorem sMove_oc (m : Nat) (x y z : Value) (S : RP) (a M c k n1 h1 n2 h2 n3 h3 : Nat) (w : World) (O : O3 w x y z S n1 h1 n2 h2 n3 h3) (hb : w.heap[m]? = some (.cells #[x, y, z] 27 (0, 0))) (hm : ¬ P3 n1 h1 n2 h2 n3 h3 m) (ok : S.Ok M c k) (ha : a < M) :
    Calls Try.prog 67 #[.pointer (some ⟨m, 0, none⟩), .int .i64 a, .int .i64 S.h] w (RetMv w x y z n1 h1 n2 h2 n3 h3 (S.fill a) (((S.fill a).n : Int) - S.n)) := by
  by_cases hah : a = S.h
  · have e : S.fill a = S := by unfold RP.fill; rw [if_pos hah]
    rw [e, Int.sub_self]
    have t1 : ((a : Int) == (S.h : Int)) = true := by simp [hah]
    have t2 : decide ((a : Int) = (S.h : Int)) = true := by simp [hah]
    have O := hide O
    have hab := hide hah
    clear hb hah e
    go_enter Try.func67, Try.ntmps67
    go_wp2_with fail
    go_ret
    exact ⟨rfl, O.out, Trn.refl _ _⟩
  · have e : S.fill a = ⟨S.l.set S.h (S.l.getD a 0), S.r.set S.h (S.r.getD a 0), S.ps, a, S.n + 1⟩ := by unfold RP.fill; rw [if_neg hah]
    have e2 : (((S.fill a).n : Nat) : Int) - S.n = 1 := by rw [e]; simp only; omega
    rw [e2, e]
    have ok1 := ok.l
    have ok2 := ok.r
    have ok3 := ok.h
    obtain ⟨ax, cx, rfl⟩ := O.x.form
    obtain ⟨ay, cy, rfl⟩ := O.y.form
    obtain ⟨gx, rfl, -, x1, x2, xc⟩ := O.x.at (by omega)
    obtain ⟨gy, rfl, -, y1, y2, yc⟩ := O.y.at (by omega)
    have ap := O.apart.1
    have O2 := hide ((O.putX rfl x1 x2 S.h (S.l.getD a 0)).drew.putY rfl y1 y2 S.h (S.r.getD a 0)).drew
    have SS := hide ((((Trn.refl (P3 n1 h1 n2 h2 n3 h3) w).setCell (.inl ⟨x1, x2⟩) S.h (.int .i64 (S.l.getD a 0))).drew.setCell (.inr (.inl ⟨y1, y2⟩)) S.h (.int .i64 (S.r.getD a 0))).drew)
    obtain ⟨qa, -⟩ := xc a (by omega)
    obtain ⟨qh, fh⟩ := xc S.h (by omega)
    have b0 : w.cell? ⟨m, 0, none⟩ = some (.slice (some ⟨gx, 0, none⟩) S.l.length cx) := cell_of_row w m 0 _ _ (0, 0) hb
    have ne1 : m ≠ gx := fun e => hm (.inl ⟨e ▸ x1, e ▸ x2⟩)
    have ne2 : gx ≠ m := fun e => ne1 e.symm
    have ne3 : m ≠ gy := fun e => hm (.inr (.inl ⟨e ▸ y1, e ▸ y2⟩))
    have ne4 : gy ≠ m := fun e => ne3 e.symm
    have ne5 : gx ≠ gy := by omega
    have ne6 : gy ≠ gx := by omega
    have b1 : w.cell? ⟨m, 1, none⟩ = some (.slice (some ⟨gy, 0, none⟩) S.r.length cy) := cell_of_row w m 1 _ _ (0, 0) hb
    obtain ⟨ra, -⟩ := yc a (by omega)
    obtain ⟨rh, gh⟩ := yc S.h (by omega)
    have t1 : ((a : Int) == (S.h : Int)) = false := by simp; omega
    have t2 : decide ((a : Int) = (S.h : Int)) = false := by simp; omega
    have i1 : a < S.l.length := by omega
    have i2 : S.h < S.l.length := by omega
    have i3 : a < S.r.length := by omega
    have i4 : S.h < S.r.length := by omega
    obtain ⟨va, hva⟩ : ∃ q, q = S.l.getD a 0 := ⟨_, rfl⟩
    obtain ⟨vr, hvr⟩ : ∃ q, q = S.r.getD a 0 := ⟨_, rfl⟩
    rw [← hva] at SS qa O2
    rw [← hvr] at SS ra O2
    rw [← hva, ← hvr]
    clear hva hvr O ok ok1 ok2 ok3 e e2 x1 x2 y1 y2 xc yc ap hm ha hb hah
    go_enter Try.func67, Try.ntmps67
    go_wp2_with fail
    go_region
    go_wp2_with fail
    go_region
    go_wp2_with fail
    go_ret
    exact ⟨rfl, O2.out.like rfl rfl rfl, SS.out⟩

end Go.Proofs.Ytajfhalalnlejaa
