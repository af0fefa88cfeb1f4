/- Slices of charges (five numbers each): read only (Cgs), owned by the call (Lg); the laws' toCharge.., eqCharge.., szChargeS (promise 6). Written by gen_cg.py. -/
import Derived.Test.YtdjhnamofmcmjaaDoorOwn
import Derived.Test.YtdjhnamofmcmjaaDoorRng
import Derived.Deep.SlicePairs
namespace Go.Proofs.YtdjhnamofmcmjaaDoor
open Go.RowKit Go.ChangeShapes
set_option linter.unusedSimpArgs false
set_option linter.unusedVariables false
set_option maxRecDepth 100000

/-- A charge: the query, the value, the piece, the number of swaps. -/
@[ext] structure Chg where
  q : Int
  v : Int
  a : Int
  b : Int
  n : Int

instance : Inhabited Chg := ⟨⟨0, 0, 0, 0, 0⟩⟩

/-- All its numbers are ints of Go. -/
def Chg.Ok (c : Chg) : Prop := I64 c.q ∧ I64 c.v ∧ I64 c.a ∧ I64 c.b ∧ I64 c.n

theorem infoChg : (Tryd.prog.info? 25).map (fun i => (i.zero, i.size, i.bytes)) = some (some (.agg #[.int .i64 0, .int .i64 0, .int .i64 0, .int .i64 0, .int .i64 0]), 5, 40) := by kernel_rfl

/-- The cells of charges. -/
def cgVs : List Chg → List Value
  | [] => []
  | c :: cs => .int .i64 c.q :: .int .i64 c.v :: .int .i64 c.a :: .int .i64 c.b :: .int .i64 c.n :: cgVs cs

theorem cgVs_length : ∀ cs : List Chg, (cgVs cs).length = cs.length * 5
  | [] => rfl
  | c :: cs => by simp [cgVs, cgVs_length cs]; omega

theorem cgVs_append : ∀ a b : List Chg, cgVs (a ++ b) = cgVs a ++ cgVs b
  | [], b => rfl
  | c :: cs, b => by simp [cgVs, cgVs_append cs b]

theorem cgVs_get0 : ∀ (cs : List Chg) (j : Nat) (h : j < cs.length), (cgVs cs)[j * 5]? = some (.int .i64 cs[j].q)
  | c :: cs, 0, _ => by simp [cgVs]
  | c :: cs, j + 1, h => by
    have := cgVs_get0 cs j (by simpa using h)
    rw [show (j + 1) * 5 = j * 5 + 1 + 1 + 1 + 1 + 1 by omega]
    simpa [cgVs] using this

theorem cgVs_get1 : ∀ (cs : List Chg) (j : Nat) (h : j < cs.length), (cgVs cs)[j * 5 + 1]? = some (.int .i64 cs[j].v)
  | c :: cs, 0, _ => by simp [cgVs]
  | c :: cs, j + 1, h => by
    have := cgVs_get1 cs j (by simpa using h)
    rw [show (j + 1) * 5 + 1 = j * 5 + 1 + 1 + 1 + 1 + 1 + 1 by omega]
    simpa [cgVs] using this

theorem cgVs_get2 : ∀ (cs : List Chg) (j : Nat) (h : j < cs.length), (cgVs cs)[j * 5 + 2]? = some (.int .i64 cs[j].a)
  | c :: cs, 0, _ => by simp [cgVs]
  | c :: cs, j + 1, h => by
    have := cgVs_get2 cs j (by simpa using h)
    rw [show (j + 1) * 5 + 2 = j * 5 + 2 + 1 + 1 + 1 + 1 + 1 by omega]
    simpa [cgVs] using this

theorem cgVs_get3 : ∀ (cs : List Chg) (j : Nat) (h : j < cs.length), (cgVs cs)[j * 5 + 3]? = some (.int .i64 cs[j].b)
  | c :: cs, 0, _ => by simp [cgVs]
  | c :: cs, j + 1, h => by
    have := cgVs_get3 cs j (by simpa using h)
    rw [show (j + 1) * 5 + 3 = j * 5 + 3 + 1 + 1 + 1 + 1 + 1 by omega]
    simpa [cgVs] using this

theorem cgVs_get4 : ∀ (cs : List Chg) (j : Nat) (h : j < cs.length), (cgVs cs)[j * 5 + 4]? = some (.int .i64 cs[j].n)
  | c :: cs, 0, _ => by simp [cgVs]
  | c :: cs, j + 1, h => by
    have := cgVs_get4 cs j (by simpa using h)
    rw [show (j + 1) * 5 + 4 = j * 5 + 4 + 1 + 1 + 1 + 1 + 1 by omega]
    simpa [cgVs] using this

theorem cgVs_set0 : ∀ (cs : List Chg) (j : Nat) (x : Int) (h : j < cs.length), (cgVs cs).set (j * 5) (.int .i64 x) = cgVs (cs.set j { cs[j] with q := x })
  | c :: cs, 0, x, _ => by simp [cgVs]
  | c :: cs, j + 1, x, h => by
    have := cgVs_set0 cs j x (by simpa using h)
    rw [show (j + 1) * 5 = j * 5 + 1 + 1 + 1 + 1 + 1 by omega]
    simpa [cgVs] using this

theorem cgVs_set1 : ∀ (cs : List Chg) (j : Nat) (x : Int) (h : j < cs.length), (cgVs cs).set (j * 5 + 1) (.int .i64 x) = cgVs (cs.set j { cs[j] with v := x })
  | c :: cs, 0, x, _ => by simp [cgVs]
  | c :: cs, j + 1, x, h => by
    have := cgVs_set1 cs j x (by simpa using h)
    rw [show (j + 1) * 5 + 1 = j * 5 + 1 + 1 + 1 + 1 + 1 + 1 by omega]
    simpa [cgVs] using this

theorem cgVs_set2 : ∀ (cs : List Chg) (j : Nat) (x : Int) (h : j < cs.length), (cgVs cs).set (j * 5 + 2) (.int .i64 x) = cgVs (cs.set j { cs[j] with a := x })
  | c :: cs, 0, x, _ => by simp [cgVs]
  | c :: cs, j + 1, x, h => by
    have := cgVs_set2 cs j x (by simpa using h)
    rw [show (j + 1) * 5 + 2 = j * 5 + 2 + 1 + 1 + 1 + 1 + 1 by omega]
    simpa [cgVs] using this

theorem cgVs_set3 : ∀ (cs : List Chg) (j : Nat) (x : Int) (h : j < cs.length), (cgVs cs).set (j * 5 + 3) (.int .i64 x) = cgVs (cs.set j { cs[j] with b := x })
  | c :: cs, 0, x, _ => by simp [cgVs]
  | c :: cs, j + 1, x, h => by
    have := cgVs_set3 cs j x (by simpa using h)
    rw [show (j + 1) * 5 + 3 = j * 5 + 3 + 1 + 1 + 1 + 1 + 1 by omega]
    simpa [cgVs] using this

theorem cgVs_set4 : ∀ (cs : List Chg) (j : Nat) (x : Int) (h : j < cs.length), (cgVs cs).set (j * 5 + 4) (.int .i64 x) = cgVs (cs.set j { cs[j] with n := x })
  | c :: cs, 0, x, _ => by simp [cgVs]
  | c :: cs, j + 1, x, h => by
    have := cgVs_set4 cs j x (by simpa using h)
    rw [show (j + 1) * 5 + 4 = j * 5 + 4 + 1 + 1 + 1 + 1 + 1 by omega]
    simpa [cgVs] using this

/-- v owns the charges cs in a block of the call's own. -/
def Lg (w : World) (base : Nat) (v : Value) (cs : List Chg) : Prop := w.ownsRow base 25 5 v cs.length (cgVs cs)

theorem Lg.keep {w w' : World} {base : Nat} {v : Value} {cs : List Chg} (h : Lg w base v cs) (hk : ∀ g, v.ownBlock = some g → w'.heap[g]? = w.heap[g]?) : Lg w' base v cs := owns_eq h hk

theorem Lg.below {w w' : World} {base : Nat} {v : Value} {cs : List Chg} (h : Lg w base v cs) (hb : Below w.heap.size w w') : Lg w' base v cs :=
  owns_eq h fun g hg => hb.block g (World.ownsRow.lt h g hg).2

theorem Lg.lt {w : World} {base : Nat} {v : Value} {cs : List Chg} (h : Lg w base v cs) {g : Nat} (hg : v.ownBlock = some g) : base ≤ g ∧ g < w.heap.size := World.ownsRow.lt h g hg

theorem Lg.form {w : World} {base : Nat} {v : Value} {cs : List Chg} (h : Lg w base v cs) : ∃ a cap, v = .slice a cs.length cap := by
  rcases h.2 with ⟨hv, hn⟩ | ⟨g, cap, cur, hv, _⟩
  · exact ⟨none, 0, by rw [hv, hn]⟩
  · exact ⟨_, _, hv⟩

theorem Lg.at' {w : World} {base n cap : Nat} {a : Option Addr} {cs : List Chg} (h : Lg w base (.slice a n cap) cs) (hn : 0 < cs.length) : ∃ g, a = some ⟨g, 0, none⟩ := by
  rcases h.2 with ⟨hv, hn'⟩ | ⟨g, cap, cur, hv, _⟩
  · omega
  · injection hv with h1
    exact ⟨g, h1⟩

theorem Lg.lower {w : World} {base B : Nat} {v : Value} {cs : List Chg} (h : Lg w base v cs) (hb : B ≤ base) : Lg w B v cs := by
  refine ⟨h.1, ?_⟩
  rcases h.2 with h2 | ⟨g, cap, cur, hv, hg, r⟩
  · exact .inl h2
  · exact .inr ⟨g, cap, cur, hv, Nat.le_trans hb hg, r⟩

theorem Lg.cell {w : World} {base : Nat} {g n cap : Nat} {cs : List Chg} (h : Lg w base (.slice (some ⟨g, 0, none⟩) n cap) cs) (j : Nat) (hj : j < cs.length) :
    w.cell? ⟨g, j * 5, none⟩ = some (.int .i64 cs[j].q) ∧ w.cell? ⟨g, j * 5 + 1, none⟩ = some (.int .i64 cs[j].v) ∧ w.cell? ⟨g, j * 5 + 2, none⟩ = some (.int .i64 cs[j].a) ∧ w.cell? ⟨g, j * 5 + 3, none⟩ = some (.int .i64 cs[j].b) ∧ w.cell? ⟨g, j * 5 + 4, none⟩ = some (.int .i64 cs[j].n) := by
  rcases h.2 with ⟨h', _⟩ | ⟨g', cap', cur, h', hb, hg, _, _, _, htake⟩
  · simp at h'
  · have h'' := h'
    simp only [Value.slice.injEq, Option.some.injEq, Addr.mk.injEq, and_true, true_and] at h''
    obtain ⟨rfl, rfl, rfl⟩ := h''
    have h3 : w.ownsRow base 25 5 (.slice (some ⟨g, 0, none⟩) cs.length cap) cs.length (cgVs cs) := h
    refine ⟨?_, ?_, ?_, ?_, ?_⟩
    · rw [World.ownsRow.cellAt h3 (j * 5) (by omega)]; exact cgVs_get0 cs j hj
    · rw [World.ownsRow.cellAt h3 (j * 5 + 1) (by omega)]; exact cgVs_get1 cs j hj
    · rw [World.ownsRow.cellAt h3 (j * 5 + 2) (by omega)]; exact cgVs_get2 cs j hj
    · rw [World.ownsRow.cellAt h3 (j * 5 + 3) (by omega)]; exact cgVs_get3 cs j hj
    · rw [World.ownsRow.cellAt h3 (j * 5 + 4) (by omega)]; exact cgVs_get4 cs j hj

theorem Lg.free {w : World} {base : Nat} {g n cap : Nat} {cs : List Chg} (h : Lg w base (.slice (some ⟨g, 0, none⟩) n cap) cs) (j : Nat) : w.frozen? ⟨g, j, none⟩ = false ∧ base ≤ g ∧ g < w.heap.size := by
  have hlt := World.ownsRow.lt h g (by simp [Value.ownBlock])
  obtain ⟨a, c, hv⟩ := h.form
  simp only [Value.slice.injEq] at hv
  obtain ⟨-, rfl, -⟩ := hv
  have h3 : w.ownsRow base 25 5 (.slice (some ⟨g, 0, none⟩) cs.length cap) cs.length (cgVs cs) := h
  exact ⟨World.ownsRow.frozenAt h3 _, hlt.1, hlt.2⟩

theorem Lg.made (w : World) (base : Nat) (hb : base ≤ w.heap.size) : Lg (w.alloc (.cells #[] 25)) base (.slice (some ⟨w.heap.size, 0, none⟩) 0 0) [] :=
  World.ownsRow_made w #[] 0 hb (by unfold maxLen; omega) rfl

/-- A charge is put. -/
theorem Lg.put {w : World} {base : Nat} {g n cap : Nat} {cs : List Chg} (h : Lg w base (.slice (some ⟨g, 0, none⟩) n cap) cs) (j : Nat) (c : Chg) (hj : j < cs.length) :
    Lg (((((w.setCell ⟨g, j * 5, none⟩ (.int .i64 c.q)).setCell ⟨g, j * 5 + 1, none⟩ (.int .i64 c.v)).setCell ⟨g, j * 5 + 2, none⟩ (.int .i64 c.a)).setCell ⟨g, j * 5 + 3, none⟩ (.int .i64 c.b)).setCell ⟨g, j * 5 + 4, none⟩ (.int .i64 c.n)) base (.slice (some ⟨g, 0, none⟩) n cap) (cs.set j c) := by
  obtain rfl : n = cs.length := by
    obtain ⟨a, c, hv⟩ := h.form
    simp only [Value.slice.injEq] at hv
    exact hv.2.1
  have s0 : w.ownsRow base 25 5 (.slice (some ⟨g, 0, none⟩) cs.length cap) cs.length (cgVs cs) := h
  have s1 := (World.ownsRow.stored s0 (j * 5) (.int .i64 c.q)).1
  have s2 := (World.ownsRow.stored s1 (j * 5 + 1) (.int .i64 c.v)).1
  have s3 := (World.ownsRow.stored s2 (j * 5 + 2) (.int .i64 c.a)).1
  have s4 := (World.ownsRow.stored s3 (j * 5 + 3) (.int .i64 c.b)).1
  have s5 := (World.ownsRow.stored s4 (j * 5 + 4) (.int .i64 c.n)).1
  rw [cgVs_set0 cs j c.q hj, cgVs_set1 _ j c.v (by simpa using hj), cgVs_set2 _ j c.a (by simpa using hj), cgVs_set3 _ j c.b (by simpa using hj), cgVs_set4 _ j c.n (by simpa using hj)] at s5
  simp only [List.getElem_set_self, List.set_set] at s5
  unfold Lg
  rw [List.length_set]
  exact s5

/-- v is a slice of charges that reads as cs; its cells lie below block B. -/
def Cgs (w : World) (B : Nat) (v : Value) (cs : List Chg) : Prop :=
  ∃ a cap, v = .slice a cs.length cap ∧ cs.length ≤ 9223372036854775807 ∧ (∀ c ∈ cs, c.Ok) ∧ ∀ j (h : j < cs.length), ∃ b o, a = some ⟨b, o, none⟩ ∧ b < B ∧ w.cell? ⟨b, o + j * 5, none⟩ = some (.int .i64 cs[j].q) ∧ w.cell? ⟨b, o + j * 5 + 1, none⟩ = some (.int .i64 cs[j].v) ∧ w.cell? ⟨b, o + j * 5 + 2, none⟩ = some (.int .i64 cs[j].a) ∧ w.cell? ⟨b, o + j * 5 + 3, none⟩ = some (.int .i64 cs[j].b) ∧ w.cell? ⟨b, o + j * 5 + 4, none⟩ = some (.int .i64 cs[j].n)

theorem Cgs.form {w : World} {B : Nat} {v : Value} {cs : List Chg} (h : Cgs w B v cs) : ∃ a cap, v = .slice a cs.length cap := by
  obtain ⟨a, cap, e, _⟩ := h
  exact ⟨a, cap, e⟩

theorem Cgs.ok {w : World} {B : Nat} {v : Value} {cs : List Chg} (h : Cgs w B v cs) : ∀ c ∈ cs, c.Ok := by
  obtain ⟨a, cap, _, _, h1, _⟩ := h
  exact h1

theorem Cgs.at' {w : World} {B n cap : Nat} {a : Option Addr} {cs : List Chg} (h : Cgs w B (.slice a n cap) cs) (j : Nat) (hj : j < cs.length) : ∃ b o, a = some ⟨b, o, none⟩ ∧ b < B ∧ w.cell? ⟨b, o + j * 5, none⟩ = some (.int .i64 cs[j].q) ∧ w.cell? ⟨b, o + j * 5 + 1, none⟩ = some (.int .i64 cs[j].v) ∧ w.cell? ⟨b, o + j * 5 + 2, none⟩ = some (.int .i64 cs[j].a) ∧ w.cell? ⟨b, o + j * 5 + 3, none⟩ = some (.int .i64 cs[j].b) ∧ w.cell? ⟨b, o + j * 5 + 4, none⟩ = some (.int .i64 cs[j].n) := by
  obtain ⟨a', cap', e, _, _, h3⟩ := h
  simp only [Value.slice.injEq] at e
  obtain ⟨rfl, -, -⟩ := e
  exact h3 j hj

theorem Cgs.below {w w' : World} {B C : Nat} {v : Value} {cs : List Chg} (h : Cgs w B v cs) (hb : Below C w w') (hC : B ≤ C) : Cgs w' B v cs := by
  obtain ⟨a, cap, e, h1, h2, h3⟩ := h
  refine ⟨a, cap, e, h1, h2, fun j hj => ?_⟩
  obtain ⟨b, o, e2, hB, c0, c1, c2, c3, c4⟩ := h3 j hj
  have K : ∀ i, w'.cell? ⟨b, i, none⟩ = w.cell? ⟨b, i, none⟩ := fun i => hb.cell (p := ⟨b, i, none⟩) (Nat.lt_of_lt_of_le hB hC)
  exact ⟨b, o, e2, hB, (K _).trans c0, (K _).trans c1, (K _).trans c2, (K _).trans c3, (K _).trans c4⟩

theorem Cgs.mono {w : World} {B C : Nat} {v : Value} {cs : List Chg} (h : Cgs w B v cs) (hC : B ≤ C) : Cgs w C v cs := by
  obtain ⟨a, cap, e, h1, h2, h3⟩ := h
  refine ⟨a, cap, e, h1, h2, fun j hj => ?_⟩
  obtain ⟨b, o, e2, hB, hc⟩ := h3 j hj
  exact ⟨b, o, e2, Nat.lt_of_lt_of_le hB hC, hc⟩

theorem Cgs.up {w w' : World} {v : Value} {cs : List Chg} (h : Cgs w w.heap.size v cs) (hb : Below w.heap.size w w') : Cgs w' w'.heap.size v cs := (h.below hb (Nat.le_refl _)).mono hb.size

theorem Lg.cgs {w : World} {base B : Nat} {v : Value} {cs : List Chg} (h : Lg w base v cs) (hB : w.heap.size ≤ B) (hl : cs.length ≤ 9223372036854775807) (hw : ∀ c ∈ cs, c.Ok) : Cgs w B v cs := by
  rcases h.2 with ⟨hv, hn⟩ | ⟨g, cap, cur, hv, _⟩
  · have : cs = [] := List.eq_nil_of_length_eq_zero hn
    subst this; subst hv
    exact ⟨_, _, rfl, by simp, hw, fun j hj => by simp at hj⟩
  · subst hv
    refine ⟨_, _, rfl, hl, hw, fun j hj => ?_⟩
    obtain ⟨c0, c1, c2, c3, c4⟩ := Lg.cell h j hj
    exact ⟨g, 0, rfl, Nat.lt_of_lt_of_le (Lg.free h 0).2.2 hB, by rw [Nat.zero_add]; exact c0, by rw [Nat.zero_add]; exact c1, by rw [Nat.zero_add]; exact c2, by rw [Nat.zero_add]; exact c3, by rw [Nat.zero_add]; exact c4⟩

/-- A charge is returned; nothing that was there has turned. -/
def RetCg1 (w : World) (c : Chg) (e : Ending) (w' : World) : Prop := e = .returned (.agg #[.int .i64 c.q, .int .i64 c.v, .int .i64 c.a, .int .i64 c.b, .int .i64 c.n]) ∧ Below w.heap.size w w'

theorem toCharge_any (c : Chg) (w : World) : Calls Tryd.prog 5 #[.agg #[.int .i64 c.q, .int .i64 c.v, .int .i64 c.a, .int .i64 c.b, .int .i64 c.n]] w (RetCg1 w c) := by
  obtain ⟨x0, x1, x2, x3, x4⟩ := c
  simp only
  unfold RetCg1
  simp only
  go_enter Tryd.func5, Tryd.ntmps5
  go_wp2
  exact bodyPost_ret (v := .agg #[.int .i64 x0, .int .i64 x1, .int .i64 x2, .int .i64 x3, .int .i64 x4]) (by simp [results, Tryd.results5, go_sem]) rfl ⟨rfl, below3 _ _ _ _⟩

/-- New charges of the call's own are returned; nothing that was there has turned. -/
def RetCgs (w : World) (cs : List Chg) (e : Ending) (w' : World) : Prop := ∃ v, e = .returned v ∧ Lg w' w.heap.size v cs ∧ Below w.heap.size w w'

theorem take_setC (l m : List Chg) (k : Nat) (hk : k < l.length) (hm : m = l.take k ++ List.replicate (l.length - k) ⟨0, 0, 0, 0, 0⟩) : m.set k l[k] = l.take (k + 1) ++ List.replicate (l.length - (k + 1)) ⟨0, 0, 0, 0, 0⟩ := by
  subst hm
  rw [List.set_append_right _ _ (by simp; omega)]
  have e : (List.replicate (l.length - k) (⟨0, 0, 0, 0, 0⟩ : Chg)).set (k - (l.take k).length) l[k] = l[k] :: List.replicate (l.length - (k + 1)) ⟨0, 0, 0, 0, 0⟩ := by
    rw [show k - (l.take k).length = 0 by simp; omega, show l.length - k = (l.length - (k + 1)) + 1 by omega, List.replicate_succ]
    rfl
  rw [e, List.take_succ_eq_append_getElem hk, List.append_assoc, List.singleton_append]

theorem cgVs_zeros : ∀ n : Nat, cgVs (List.replicate n ⟨0, 0, 0, 0, 0⟩) = List.replicate (n * 5) (.int .i64 0)
  | 0 => rfl
  | n + 1 => by
    rw [List.replicate_succ, cgVs, cgVs_zeros n, show (n + 1) * 5 = n * 5 + 1 + 1 + 1 + 1 + 1 by omega]
    simp only [List.replicate_succ]

end Go.Proofs.YtdjhnamofmcmjaaDoor
