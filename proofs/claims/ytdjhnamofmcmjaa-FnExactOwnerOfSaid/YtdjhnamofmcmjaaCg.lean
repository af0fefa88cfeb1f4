/- Slices of charges (five numbers each): read only (Cgs), owned by the call (Lg); the laws' toCharge.., eqCharge.., szChargeS (promise 6). Written by gen_cg.py. -/
import Derived.Test.YtdjhnamofmcmjaaOwn
import Derived.Test.YtdjhnamofmcmjaaRng
import Derived.Deep.SlicePairs
namespace Go.Proofs.Ytdjhnamofmcmjaa
open Go.RowKit Go.ChangeShapes
set_option linter.unusedSimpArgs false
set_option linter.unusedVariables false
set_option maxRecDepth 100000

/-- A charge: the query, the value, the piece, the number of swaps. -/
@[ext] structure Chg where
  q : Int
  v : Int
  a : Int
  b : Int
  n : Int

instance : Inhabited Chg := ⟨⟨0, 0, 0, 0, 0⟩⟩

/-- All its numbers are ints of Go. -/
def Chg.Ok (c : Chg) : Prop := I64 c.q ∧ I64 c.v ∧ I64 c.a ∧ I64 c.b ∧ I64 c.n

theorem infoChg : (Try.prog.info? 77).map (fun i => (i.zero, i.size, i.bytes)) = some (some (.agg #[.int .i64 0, .int .i64 0, .int .i64 0, .int .i64 0, .int .i64 0]), 5, 40) := by kernel_rfl

/-- The cells of charges. -/
def cgVs : List Chg → List Value
  | [] => []
  | c :: cs => .int .i64 c.q :: .int .i64 c.v :: .int .i64 c.a :: .int .i64 c.b :: .int .i64 c.n :: cgVs cs

theorem cgVs_length : ∀ cs : List Chg, (cgVs cs).length = cs.length * 5
  | [] => rfl
  | c :: cs => by simp [cgVs, cgVs_length cs]; omega

theorem cgVs_append : ∀ a b : List Chg, cgVs (a ++ b) = cgVs a ++ cgVs b
  | [], b => rfl
  | c :: cs, b => by simp [cgVs, cgVs_append cs b]

theorem cgVs_get0 : ∀ (cs : List Chg) (j : Nat) (h : j < cs.length), (cgVs cs)[j * 5]? = some (.int .i64 cs[j].q)
  | c :: cs, 0, _ => by simp [cgVs]
  | c :: cs, j + 1, h => by
    have := cgVs_get0 cs j (by simpa using h)
    rw [show (j + 1) * 5 = j * 5 + 1 + 1 + 1 + 1 + 1 by omega]
    simpa [cgVs] using this

theorem cgVs_get1 : ∀ (cs : List Chg) (j : Nat) (h : j < cs.length), (cgVs cs)[j * 5 + 1]? = some (.int .i64 cs[j].v)
  | c :: cs, 0, _ => by simp [cgVs]
  | c :: cs, j + 1, h => by
    have := cgVs_get1 cs j (by simpa using h)
    rw [show (j + 1) * 5 + 1 = j * 5 + 1 + 1 + 1 + 1 + 1 + 1 by omega]
    simpa [cgVs] using this

theorem cgVs_get2 : ∀ (cs : List Chg) (j : Nat) (h : j < cs.length), (cgVs cs)[j * 5 + 2]? = some (.int .i64 cs[j].a)
  | c :: cs, 0, _ => by simp [cgVs]
  | c :: cs, j + 1, h => by
    have := cgVs_get2 cs j (by simpa using h)
    rw [show (j + 1) * 5 + 2 = j * 5 + 2 + 1 + 1 + 1 + 1 + 1 by omega]
    simpa [cgVs] using this

theorem cgVs_get3 : ∀ (cs : List Chg) (j : Nat) (h : j < cs.length), (cgVs cs)[j * 5 + 3]? = some (.int .i64 cs[j].b)
  | c :: cs, 0, _ => by simp [cgVs]
  | c :: cs, j + 1, h => by
    have := cgVs_get3 cs j (by simpa using h)
    rw [show (j + 1) * 5 + 3 = j * 5 + 3 + 1 + 1 + 1 + 1 + 1 by omega]
    simpa [cgVs] using this

theorem cgVs_get4 : ∀ (cs : List Chg) (j : Nat) (h : j < cs.length), (cgVs cs)[j * 5 + 4]? = some (.int .i64 cs[j].n)
  | c :: cs, 0, _ => by simp [cgVs]
  | c :: cs, j + 1, h => by
    have := cgVs_get4 cs j (by simpa using h)
    rw [show (j + 1) * 5 + 4 = j * 5 + 4 + 1 + 1 + 1 + 1 + 1 by omega]
    simpa [cgVs] using this

theorem cgVs_set0 : ∀ (cs : List Chg) (j : Nat) (x : Int) (h : j < cs.length), (cgVs cs).set (j * 5) (.int .i64 x) = cgVs (cs.set j { cs[j] with q := x })
  | c :: cs, 0, x, _ => by simp [cgVs]
  | c :: cs, j + 1, x, h => by
    have := cgVs_set0 cs j x (by simpa using h)
    rw [show (j + 1) * 5 = j * 5 + 1 + 1 + 1 + 1 + 1 by omega]
    simpa [cgVs] using this

theorem cgVs_set1 : ∀ (cs : List Chg) (j : Nat) (x : Int) (h : j < cs.length), (cgVs cs).set (j * 5 + 1) (.int .i64 x) = cgVs (cs.set j { cs[j] with v := x })
  | c :: cs, 0, x, _ => by simp [cgVs]
  | c :: cs, j + 1, x, h => by
    have := cgVs_set1 cs j x (by simpa using h)
    rw [show (j + 1) * 5 + 1 = j * 5 + 1 + 1 + 1 + 1 + 1 + 1 by omega]
    simpa [cgVs] using this

theorem cgVs_set2 : ∀ (cs : List Chg) (j : Nat) (x : Int) (h : j < cs.length), (cgVs cs).set (j * 5 + 2) (.int .i64 x) = cgVs (cs.set j { cs[j] with a := x })
  | c :: cs, 0, x, _ => by simp [cgVs]
  | c :: cs, j + 1, x, h => by
    have := cgVs_set2 cs j x (by simpa using h)
    rw [show (j + 1) * 5 + 2 = j * 5 + 2 + 1 + 1 + 1 + 1 + 1 by omega]
    simpa [cgVs] using this

theorem cgVs_set3 : ∀ (cs : List Chg) (j : Nat) (x : Int) (h : j < cs.length), (cgVs cs).set (j * 5 + 3) (.int .i64 x) = cgVs (cs.set j { cs[j] with b := x })
  | c :: cs, 0, x, _ => by simp [cgVs]
  | c :: cs, j + 1, x, h => by
    have := cgVs_set3 cs j x (by simpa using h)
    rw [show (j + 1) * 5 + 3 = j * 5 + 3 + 1 + 1 + 1 + 1 + 1 by omega]
    simpa [cgVs] using this

theorem cgVs_set4 : ∀ (cs : List Chg) (j : Nat) (x : Int) (h : j < cs.length), (cgVs cs).set (j * 5 + 4) (.int .i64 x) = cgVs (cs.set j { cs[j] with n := x })
  | c :: cs, 0, x, _ => by simp [cgVs]
  | c :: cs, j + 1, x, h => by
    have := cgVs_set4 cs j x (by simpa using h)
    rw [show (j + 1) * 5 + 4 = j * 5 + 4 + 1 + 1 + 1 + 1 + 1 by omega]
    simpa [cgVs] using this

/-- v owns the charges cs in a block of the call's own. -/
def Lg (w : World) (base : Nat) (v : Value) (cs : List Chg) : Prop := w.ownsRow base 77 5 v cs.length (cgVs cs)

theorem Lg.keep {w w' : World} {base : Nat} {v : Value} {cs : List Chg} (h : Lg w base v cs) (hk : ∀ g, v.ownBlock = some g → w'.heap[g]? = w.heap[g]?) : Lg w' base v cs := owns_eq h hk

theorem Lg.below {w w' : World} {base : Nat} {v : Value} {cs : List Chg} (h : Lg w base v cs) (hb : Below w.heap.size w w') : Lg w' base v cs :=
  owns_eq h fun g hg => hb.block g (World.ownsRow.lt h g hg).2

theorem Lg.lt {w : World} {base : Nat} {v : Value} {cs : List Chg} (h : Lg w base v cs) {g : Nat} (hg : v.ownBlock = some g) : base ≤ g ∧ g < w.heap.size := World.ownsRow.lt h g hg

theorem Lg.form {w : World} {base : Nat} {v : Value} {cs : List Chg} (h : Lg w base v cs) : ∃ a cap, v = .slice a cs.length cap := by
  rcases h.2 with ⟨hv, hn⟩ | ⟨g, cap, cur, hv, _⟩
  · exact ⟨none, 0, by rw [hv, hn]⟩
  · exact ⟨_, _, hv⟩

theorem Lg.at' {w : World} {base n cap : Nat} {a : Option Addr} {cs : List Chg} (h : Lg w base (.slice a n cap) cs) (hn : 0 < cs.length) : ∃ g, a = some ⟨g, 0, none⟩ := by
  rcases h.2 with ⟨hv, hn'⟩ | ⟨g, cap, cur, hv, _⟩
  · omega
  · injection hv with h1
    exact ⟨g, h1⟩

theorem Lg.lower {w : World} {base B : Nat} {v : Value} {cs : List Chg} (h : Lg w base v cs) (hb : B ≤ base) : Lg w B v cs := by
  refine ⟨h.1, ?_⟩
  rcases h.2 with h2 | ⟨g, cap, cur, hv, hg, r⟩
  · exact .inl h2
  · exact .inr ⟨g, cap, cur, hv, Nat.le_trans hb hg, r⟩

theorem Lg.cell {w : World} {base : Nat} {g n cap : Nat} {cs : List Chg} (h : Lg w base (.slice (some ⟨g, 0, none⟩) n cap) cs) (j : Nat) (hj : j < cs.length) :
    w.cell? ⟨g, j * 5, none⟩ = some (.int .i64 cs[j].q) ∧ w.cell? ⟨g, j * 5 + 1, none⟩ = some (.int .i64 cs[j].v) ∧ w.cell? ⟨g, j * 5 + 2, none⟩ = some (.int .i64 cs[j].a) ∧ w.cell? ⟨g, j * 5 + 3, none⟩ = some (.int .i64 cs[j].b) ∧ w.cell? ⟨g, j * 5 + 4, none⟩ = some (.int .i64 cs[j].n) := by
  rcases h.2 with ⟨h', _⟩ | ⟨g', cap', cur, h', hb, hg, _, _, _, htake⟩
  · simp at h'
  · have h'' := h'
    simp only [Value.slice.injEq, Option.some.injEq, Addr.mk.injEq, and_true, true_and] at h''
    obtain ⟨rfl, rfl, rfl⟩ := h''
    have h3 : w.ownsRow base 77 5 (.slice (some ⟨g, 0, none⟩) cs.length cap) cs.length (cgVs cs) := h
    refine ⟨?_, ?_, ?_, ?_, ?_⟩
    · rw [World.ownsRow.cellAt h3 (j * 5) (by omega)]; exact cgVs_get0 cs j hj
    · rw [World.ownsRow.cellAt h3 (j * 5 + 1) (by omega)]; exact cgVs_get1 cs j hj
    · rw [World.ownsRow.cellAt h3 (j * 5 + 2) (by omega)]; exact cgVs_get2 cs j hj
    · rw [World.ownsRow.cellAt h3 (j * 5 + 3) (by omega)]; exact cgVs_get3 cs j hj
    · rw [World.ownsRow.cellAt h3 (j * 5 + 4) (by omega)]; exact cgVs_get4 cs j hj

theorem Lg.free {w : World} {base : Nat} {g n cap : Nat} {cs : List Chg} (h : Lg w base (.slice (some ⟨g, 0, none⟩) n cap) cs) (j : Nat) : w.frozen? ⟨g, j, none⟩ = false ∧ base ≤ g ∧ g < w.heap.size := by
  have hlt := World.ownsRow.lt h g (by simp [Value.ownBlock])
  obtain ⟨a, c, hv⟩ := h.form
  simp only [Value.slice.injEq] at hv
  obtain ⟨-, rfl, -⟩ := hv
  have h3 : w.ownsRow base 77 5 (.slice (some ⟨g, 0, none⟩) cs.length cap) cs.length (cgVs cs) := h
  exact ⟨World.ownsRow.frozenAt h3 _, hlt.1, hlt.2⟩

theorem Lg.made (w : World) (base : Nat) (hb : base ≤ w.heap.size) : Lg (w.alloc (.cells #[] 77)) base (.slice (some ⟨w.heap.size, 0, none⟩) 0 0) [] :=
  World.ownsRow_made w #[] 0 hb (by unfold maxLen; omega) rfl

/-- A charge is put. -/
theorem Lg.put {w : World} {base : Nat} {g n cap : Nat} {cs : List Chg} (h : Lg w base (.slice (some ⟨g, 0, none⟩) n cap) cs) (j : Nat) (c : Chg) (hj : j < cs.length) :
    Lg (((((w.setCell ⟨g, j * 5, none⟩ (.int .i64 c.q)).setCell ⟨g, j * 5 + 1, none⟩ (.int .i64 c.v)).setCell ⟨g, j * 5 + 2, none⟩ (.int .i64 c.a)).setCell ⟨g, j * 5 + 3, none⟩ (.int .i64 c.b)).setCell ⟨g, j * 5 + 4, none⟩ (.int .i64 c.n)) base (.slice (some ⟨g, 0, none⟩) n cap) (cs.set j c) := by
  obtain rfl : n = cs.length := by
    obtain ⟨a, c, hv⟩ := h.form
    simp only [Value.slice.injEq] at hv
    exact hv.2.1
  have s0 : w.ownsRow base 77 5 (.slice (some ⟨g, 0, none⟩) cs.length cap) cs.length (cgVs cs) := h
  have s1 := (World.ownsRow.stored s0 (j * 5) (.int .i64 c.q)).1
  have s2 := (World.ownsRow.stored s1 (j * 5 + 1) (.int .i64 c.v)).1
  have s3 := (World.ownsRow.stored s2 (j * 5 + 2) (.int .i64 c.a)).1
  have s4 := (World.ownsRow.stored s3 (j * 5 + 3) (.int .i64 c.b)).1
  have s5 := (World.ownsRow.stored s4 (j * 5 + 4) (.int .i64 c.n)).1
  rw [cgVs_set0 cs j c.q hj, cgVs_set1 _ j c.v (by simpa using hj), cgVs_set2 _ j c.a (by simpa using hj), cgVs_set3 _ j c.b (by simpa using hj), cgVs_set4 _ j c.n (by simpa using hj)] at s5
  simp only [List.getElem_set_self, List.set_set] at s5
  unfold Lg
  rw [List.length_set]
  exact s5

/-- v is a slice of charges that reads as cs; its cells lie below block B. -/
def Cgs (w : World) (B : Nat) (v : Value) (cs : List Chg) : Prop :=
  ∃ a cap, v = .slice a cs.length cap ∧ cs.length ≤ 9223372036854775807 ∧ (∀ c ∈ cs, c.Ok) ∧ ∀ j (h : j < cs.length), ∃ b o, a = some ⟨b, o, none⟩ ∧ b < B ∧ w.cell? ⟨b, o + j * 5, none⟩ = some (.int .i64 cs[j].q) ∧ w.cell? ⟨b, o + j * 5 + 1, none⟩ = some (.int .i64 cs[j].v) ∧ w.cell? ⟨b, o + j * 5 + 2, none⟩ = some (.int .i64 cs[j].a) ∧ w.cell? ⟨b, o + j * 5 + 3, none⟩ = some (.int .i64 cs[j].b) ∧ w.cell? ⟨b, o + j * 5 + 4, none⟩ = some (.int .i64 cs[j].n)

theorem Cgs.form {w : World} {B : Nat} {v : Value} {cs : List Chg} (h : Cgs w B v cs) : ∃ a cap, v = .slice a cs.length cap := by
  obtain ⟨a, cap, e, _⟩ := h
  exact ⟨a, cap, e⟩

theorem Cgs.ok {w : World} {B : Nat} {v : Value} {cs : List Chg} (h : Cgs w B v cs) : ∀ c ∈ cs, c.Ok := by
  obtain ⟨a, cap, _, _, h1, _⟩ := h
  exact h1

theorem Cgs.at' {w : World} {B n cap : Nat} {a : Option Addr} {cs : List Chg} (h : Cgs w B (.slice a n cap) cs) (j : Nat) (hj : j < cs.length) : ∃ b o, a = some ⟨b, o, none⟩ ∧ b < B ∧ w.cell? ⟨b, o + j * 5, none⟩ = some (.int .i64 cs[j].q) ∧ w.cell? ⟨b, o + j * 5 + 1, none⟩ = some (.int .i64 cs[j].v) ∧ w.cell? ⟨b, o + j * 5 + 2, none⟩ = some (.int .i64 cs[j].a) ∧ w.cell? ⟨b, o + j * 5 + 3, none⟩ = some (.int .i64 cs[j].b) ∧ w.cell? ⟨b, o + j * 5 + 4, none⟩ = some (.int .i64 cs[j].n) := by
  obtain ⟨a', cap', e, _, _, h3⟩ := h
  simp only [Value.slice.injEq] at e
  obtain ⟨rfl, -, -⟩ := e
  exact h3 j hj

theorem Cgs.below {w w' : World} {B C : Nat} {v : Value} {cs : List Chg} (h : Cgs w B v cs) (hb : Below C w w') (hC : B ≤ C) : Cgs w' B v cs := by
  obtain ⟨a, cap, e, h1, h2, h3⟩ := h
  refine ⟨a, cap, e, h1, h2, fun j hj => ?_⟩
  obtain ⟨b, o, e2, hB, c0, c1, c2, c3, c4⟩ := h3 j hj
  have K : ∀ i, w'.cell? ⟨b, i, none⟩ = w.cell? ⟨b, i, none⟩ := fun i => hb.cell (p := ⟨b, i, none⟩) (Nat.lt_of_lt_of_le hB hC)
  exact ⟨b, o, e2, hB, (K _).trans c0, (K _).trans c1, (K _).trans c2, (K _).trans c3, (K _).trans c4⟩

theorem Cgs.mono {w : World} {B C : Nat} {v : Value} {cs : List Chg} (h : Cgs w B v cs) (hC : B ≤ C) : Cgs w C v cs := by
  obtain ⟨a, cap, e, h1, h2, h3⟩ := h
  refine ⟨a, cap, e, h1, h2, fun j hj => ?_⟩
  obtain ⟨b, o, e2, hB, hc⟩ := h3 j hj
  exact ⟨b, o, e2, Nat.lt_of_lt_of_le hB hC, hc⟩

theorem Cgs.up {w w' : World} {v : Value} {cs : List Chg} (h : Cgs w w.heap.size v cs) (hb : Below w.heap.size w w') : Cgs w' w'.heap.size v cs := (h.below hb (Nat.le_refl _)).mono hb.size

theorem Lg.cgs {w : World} {base B : Nat} {v : Value} {cs : List Chg} (h : Lg w base v cs) (hB : w.heap.size ≤ B) (hl : cs.length ≤ 9223372036854775807) (hw : ∀ c ∈ cs, c.Ok) : Cgs w B v cs := by
  rcases h.2 with ⟨hv, hn⟩ | ⟨g, cap, cur, hv, _⟩
  · have : cs = [] := List.eq_nil_of_length_eq_zero hn
    subst this; subst hv
    exact ⟨_, _, rfl, by simp, hw, fun j hj => by simp at hj⟩
  · subst hv
    refine ⟨_, _, rfl, hl, hw, fun j hj => ?_⟩
    obtain ⟨c0, c1, c2, c3, c4⟩ := Lg.cell h j hj
    exact ⟨g, 0, rfl, Nat.lt_of_lt_of_le (Lg.free h 0).2.2 hB, by rw [Nat.zero_add]; exact c0, by rw [Nat.zero_add]; exact c1, by rw [Nat.zero_add]; exact c2, by rw [Nat.zero_add]; exact c3, by rw [Nat.zero_add]; exact c4⟩

/-- A charge is returned; nothing that was there has turned. -/
def RetCg1 (w : World) (c : Chg) (e : Ending) (w' : World) : Prop := e = .returned (.agg #[.int .i64 c.q, .int .i64 c.v, .int .i64 c.a, .int .i64 c.b, .int .i64 c.n]) ∧ Below w.heap.size w w'

theorem toCharge_any (c : Chg) (w : World) : Calls Try.prog 57 #[.agg #[.int .i64 c.q, .int .i64 c.v, .int .i64 c.a, .int .i64 c.b, .int .i64 c.n]] w (RetCg1 w c) := by
  obtain ⟨x0, x1, x2, x3, x4⟩ := c
  simp only
  unfold RetCg1
  simp only
  go_enter Try.func57, Try.ntmps57
  go_wp2
  exact bodyPost_ret (v := .agg #[.int .i64 x0, .int .i64 x1, .int .i64 x2, .int .i64 x3, .int .i64 x4]) (by simp [results, Try.results57, go_sem]) rfl ⟨rfl, below3 _ _ _ _⟩

theorem eqCharge_same (c : Chg) (w : World) : Calls Try.prog 61 #[.agg #[.int .i64 c.q, .int .i64 c.v, .int .i64 c.a, .int .i64 c.b, .int .i64 c.n], .agg #[.int .i64 c.q, .int .i64 c.v, .int .i64 c.a, .int .i64 c.b, .int .i64 c.n]] w (RetB1 w true) := by
  obtain ⟨x0, x1, x2, x3, x4⟩ := c
  simp only
  have h0 : (x0 != x0) = false := by simp
  have h1 : (x1 != x1) = false := by simp
  have h2 : (x2 != x2) = false := by simp
  have h3 : (x3 != x3) = false := by simp
  have h4 : (x4 != x4) = false := by simp
  go_enter Try.func61, Try.ntmps61
  go_wp2
  go_ret
  exact ⟨rfl, below2 _ _ _⟩

theorem szChargeS_any (v : Value) (cs : List Chg) (left : Int) (w : World) (B : Nat) (hv : Cgs w B v cs) (h1 : -1 ≤ left) (h2 : left ≤ 1048576) :
    Calls Try.prog 17 #[v, .int .i64 left] w fun e w' => e = .returned (.int .i64 (if left - cs.length < 0 then -1 else left - cs.length)) ∧ w = w' := by
  obtain ⟨a, cap, rfl, hlen, hwf, hcell⟩ := hv
  clear hcell hwf
  by_cases h : left - cs.length < 0
  · rw [if_pos h]
    go_enter Try.func17, Try.ntmps17
    go_wp2
    go_ret
    exact ⟨rfl, rfl⟩
  · rw [if_neg h]
    go_enter Try.func17, Try.ntmps17
    go_wp2
    go_ret
    exact ⟨rfl, rfl⟩

/-- New charges of the call's own are returned; nothing that was there has turned. -/
def RetCgs (w : World) (cs : List Chg) (e : Ending) (w' : World) : Prop := ∃ v, e = .returned v ∧ Lg w' w.heap.size v cs ∧ Below w.heap.size w w'

theorem take_setC (l m : List Chg) (k : Nat) (hk : k < l.length) (hm : m = l.take k ++ List.replicate (l.length - k) ⟨0, 0, 0, 0, 0⟩) : m.set k l[k] = l.take (k + 1) ++ List.replicate (l.length - (k + 1)) ⟨0, 0, 0, 0, 0⟩ := by
  subst hm
  rw [List.set_append_right _ _ (by simp; omega)]
  have e : (List.replicate (l.length - k) (⟨0, 0, 0, 0, 0⟩ : Chg)).set (k - (l.take k).length) l[k] = l[k] :: List.replicate (l.length - (k + 1)) ⟨0, 0, 0, 0, 0⟩ := by
    rw [show k - (l.take k).length = 0 by simp; omega, show l.length - k = (l.length - (k + 1)) + 1 by omega, List.replicate_succ]
    rfl
  rw [e, List.take_succ_eq_append_getElem hk, List.append_assoc, List.singleton_append]

theorem cgVs_zeros : ∀ n : Nat, cgVs (List.replicate n ⟨0, 0, 0, 0, 0⟩) = List.replicate (n * 5) (.int .i64 0)
  | 0 => rfl
  | n + 1 => by
    rw [List.replicate_succ, cgVs, cgVs_zeros n, show (n + 1) * 5 = n * 5 + 1 + 1 + 1 + 1 + 1 by omega]
    simp only [List.replicate_succ]

/-- make([]Charge, n). -/
theorem lg_make (W : World) {ops : Array Oper} {rest : List Oper} {o : Oper} {a : Act} {Q : Exit → Act → World → Prop} (hgd : o.guard = none) (x y : Operand)
    (ho : o.op = Go.Op.makeSlice 46 x y) (base : Nat)
    (n : Nat) (L C : Int) (hx : a.eval x = .int .i64 L) (hy : a.eval y = .int .i64 C) (hL : L = (n : Int)) (hC : C = (n : Int)) (hn : n ≤ 1099511627776) (hbase : base ≤ W.heap.size)
    (h : ∀ w', Lg w' base (.slice (some ⟨W.heap.size, 0, none⟩) n n) (List.replicate n ⟨0, 0, 0, 0, 0⟩) → Below base W w' → W.heap.size < w'.heap.size → wpList Try.prog ops Q rest (a.put o.dst (.slice (some ⟨W.heap.size, 0, none⟩) n n)) w') :
    wpList Try.prog ops Q (o :: rest) a W := by
  obtain ⟨i0, hi, hz0, hz1, hz2⟩ := info_parts infoChg
  refine wpList_make_full W hgd x y 46 ho base 77 i0 _ 5 Try.underlying46 hi hz0 hz1 .i64 .i64 L C n hx hy hL hC (by rw [hz2]; omega) (by unfold maxLen; omega) hbase ?_
  intro w' hown hgrow
  refine h w' ?_ ((Below.refl base W).grown hgrow hbase (fun k hk => by cases hk)) ?_
  · unfold Lg
    have e1 : (madeCells (Value.agg #[.int .i64 0, .int .i64 0, .int .i64 0, .int .i64 0, .int .i64 0]).cells (n * 5)).toList = cgVs (List.replicate n ⟨0, 0, 0, 0, 0⟩) := by
      rw [cgVs_zeros]
      simp [madeCells, Value.cells]
      rw [List.eq_replicate_iff]
      refine ⟨by simp, fun b hb => ?_⟩
      simp at hb
      obtain ⟨i, hi, rfl⟩ := hb
      have : i % 5 = 0 ∨ i % 5 = 1 ∨ i % 5 = 2 ∨ i % 5 = 3 ∨ i % 5 = 4 := by omega
      rcases this with h | h | h | h | h <;> simp [h]
    rw [← e1, List.length_replicate]
    exact hown
  · exact (World.ownsRow.lt hown W.heap.size (by simp [Value.ownBlock])).2

set_option maxHeartbeats 1000000 in
theorem toChargeS_own (v : Value) (cs : List Chg) (w : World) (B : Nat) (hv : Cgs w B v cs) (hB : B ≤ w.heap.size) (hl : cs.length ≤ 1048576) :
    Calls Try.prog 20 #[v] w (RetCgs w cs) := by
  obtain ⟨a, cap, rfl, hlen, hwf, hcell⟩ := hv
  have HC := hide hcell
  clear hcell hwf
  go_enter Try.func20, Try.ntmps20
  go_wp2_with (first | (at_make; refine lg_make _ rfl _ _ rfl w.heap.size cs.length _ _ rfl rfl rfl rfl (by omega) (Nat.le_refl _) ?_; intro w1 hown1 hb1 hs1))
  go_loopw [4] (fun i wr => ∃ (k : Nat) (m : List Chg), k ≤ cs.length ∧ i = .int .i64 k ∧ Hid (m = cs.take k ++ List.replicate (cs.length - k) ⟨0, 0, 0, 0, 0⟩) ∧ Hid (Lg wr w.heap.size (.slice (some ⟨w.heap.size, 0, none⟩) cs.length cs.length) m) ∧ Below w.heap.size w wr) (fun i _ => cs.length - (intOf i).toNat)
  case atStart => exact ⟨0, _, by omega, rfl, by simp [Hid], hown1, hb1⟩
  case round =>
    clear hown1 hb1
    obtain ⟨k, m, hk, rfl, hm, hown, hb⟩ := hrel
    have HML := hide (show m.length = cs.length by rw [hm.out]; simp; omega)
    by_cases hlt : k < cs.length
    · obtain ⟨b, o, rfl, hbB, hc0, hc1, hc2, hc3, hc4⟩ := HC.out k hlt
      obtain ⟨c, hp⟩ : ∃ p, p = cs[k] := ⟨_, rfl⟩
      rw [← hp] at hc0 hc1 hc2 hc3 hc4
      have HP := hide hp
      obtain ⟨x0, x1, x2, x3, x4⟩ := c
      simp only at hc0 hc1 hc2 hc3 hc4
      have d0 : wr.cell? ⟨b, o + k * 5, none⟩ = some (.int .i64 x0) := by rw [hb.cell (p := ⟨b, o + k * 5, none⟩) (Nat.lt_of_lt_of_le hbB hB)]; exact hc0
      have d1 : wr.cell? ⟨b, o + k * 5 + 1, none⟩ = some (.int .i64 x1) := by rw [hb.cell (p := ⟨b, o + k * 5 + 1, none⟩) (Nat.lt_of_lt_of_le hbB hB)]; exact hc1
      have d2 : wr.cell? ⟨b, o + k * 5 + 2, none⟩ = some (.int .i64 x2) := by rw [hb.cell (p := ⟨b, o + k * 5 + 2, none⟩) (Nat.lt_of_lt_of_le hbB hB)]; exact hc2
      have d3 : wr.cell? ⟨b, o + k * 5 + 3, none⟩ = some (.int .i64 x3) := by rw [hb.cell (p := ⟨b, o + k * 5 + 3, none⟩) (Nat.lt_of_lt_of_le hbB hB)]; exact hc3
      have d4 : wr.cell? ⟨b, o + k * 5 + 4, none⟩ = some (.int .i64 x4) := by rw [hb.cell (p := ⟨b, o + k * 5 + 4, none⟩) (Nat.lt_of_lt_of_le hbB hB)]; exact hc4
      clear hc0 hc1 hc2 hc3 hc4 hp
      go_wp2_with fail
      go_at_call 57
      refine (toCharge_any ⟨x0, x1, x2, x3, x4⟩ _).mono ?_
      rintro e wa ⟨rfl, hba⟩
      have hown2 := hide (hown.out.below hba)
      obtain ⟨y0, y1, y2, y3, y4⟩ := Lg.cell hown2.out k (by rw [HML.out]; exact hlt)
      obtain ⟨f0, -, hg⟩ := Lg.free hown2.out (k * 5)
      have f1 := (Lg.free hown2.out (k * 5 + 1)).1
      have f2 := (Lg.free hown2.out (k * 5 + 2)).1
      have f3 := (Lg.free hown2.out (k * 5 + 3)).1
      have f4 := (Lg.free hown2.out (k * 5 + 4)).1
      have hbb := hide (hb.trans (hba.mono hb.size))
      clear hba d0 d1 d2 d3 d4
      simp only
      go_wp2_with fail
      go_roundw
      case rel =>
        refine ⟨k + 1, m.set k ⟨x0, x1, x2, x3, x4⟩, by omega, by go_num, ?_, Lg.put hown2.out k ⟨x0, x1, x2, x3, x4⟩ (by rw [HML.out]; exact hlt), ((((hbb.out.setCell (p := ⟨w.heap.size, k * 5, none⟩) (Nat.le_refl _) _).setCell (p := ⟨w.heap.size, k * 5 + 1, none⟩) (Nat.le_refl _) _).setCell (p := ⟨w.heap.size, k * 5 + 2, none⟩) (Nat.le_refl _) _).setCell (p := ⟨w.heap.size, k * 5 + 3, none⟩) (Nat.le_refl _) _).setCell (p := ⟨w.heap.size, k * 5 + 4, none⟩) (Nat.le_refl _) _⟩
        show _ = _
        rw [HP.out]
        exact take_setC cs m k hlt hm.out
      case measure => simp [intOf]; omega
    · have hke : k = cs.length := by omega
      subst hke
      have hml2 : m = cs := by rw [hm.out]; simp
      subst hml2
      go_wp2
      go_ret
      exact ⟨_, rfl, hown.out, hb⟩

/-- Charges of two slices that read alike. -/
theorem eqChargeS_same (v u : Value) (cs : List Chg) (w : World) (B : Nat) (hv : Cgs w B v cs) (hu : Cgs w B u cs) (hB : B ≤ w.heap.size) :
    Calls Try.prog 23 #[v, u] w (RetB1 w true) := by
  obtain ⟨a, cap, rfl, hlen, -, hcell⟩ := hv
  obtain ⟨c, cap2, rfl, -, -, hcell2⟩ := hu
  have HC := hide hcell
  have HC2 := hide hcell2
  clear hcell hcell2
  have hd : ((cs.length : Int) != (cs.length : Int)) = false := by simp
  go_enter Try.func23, Try.ntmps23
  go_wp2
  go_loopw [5] (fun i wr => ∃ (k : Nat), k ≤ cs.length ∧ i = .int .i64 k ∧ Below w.heap.size w wr) (fun i _ => cs.length - (intOf i).toNat)
  case atStart => exact ⟨0, by omega, rfl, Below.refl _ _⟩
  case round =>
    obtain ⟨k, hk, rfl, hb⟩ := hrel
    by_cases hlt : k < cs.length
    · obtain ⟨b, o, rfl, hbB, hc0, hc1, hc2, hc3, hc4⟩ := HC.out k hlt
      obtain ⟨b2, o2, rfl, hbB2, hd0, hd1, hd2, hd3, hd4⟩ := HC2.out k hlt
      obtain ⟨p, hp⟩ : ∃ p, p = cs[k] := ⟨_, rfl⟩
      rw [← hp] at hc0 hc1 hc2 hc3 hc4 hd0 hd1 hd2 hd3 hd4
      obtain ⟨x0, x1, x2, x3, x4⟩ := p
      simp only at hc0 hc1 hc2 hc3 hc4 hd0 hd1 hd2 hd3 hd4
      have d0 : wr.cell? ⟨b, o + k * 5, none⟩ = some (.int .i64 x0) := by rw [hb.cell (p := ⟨b, o + k * 5, none⟩) (Nat.lt_of_lt_of_le hbB hB)]; exact hc0
      have d1 : wr.cell? ⟨b, o + k * 5 + 1, none⟩ = some (.int .i64 x1) := by rw [hb.cell (p := ⟨b, o + k * 5 + 1, none⟩) (Nat.lt_of_lt_of_le hbB hB)]; exact hc1
      have d2 : wr.cell? ⟨b, o + k * 5 + 2, none⟩ = some (.int .i64 x2) := by rw [hb.cell (p := ⟨b, o + k * 5 + 2, none⟩) (Nat.lt_of_lt_of_le hbB hB)]; exact hc2
      have d3 : wr.cell? ⟨b, o + k * 5 + 3, none⟩ = some (.int .i64 x3) := by rw [hb.cell (p := ⟨b, o + k * 5 + 3, none⟩) (Nat.lt_of_lt_of_le hbB hB)]; exact hc3
      have d4 : wr.cell? ⟨b, o + k * 5 + 4, none⟩ = some (.int .i64 x4) := by rw [hb.cell (p := ⟨b, o + k * 5 + 4, none⟩) (Nat.lt_of_lt_of_le hbB hB)]; exact hc4
      have e0 : wr.cell? ⟨b2, o2 + k * 5, none⟩ = some (.int .i64 x0) := by rw [hb.cell (p := ⟨b2, o2 + k * 5, none⟩) (Nat.lt_of_lt_of_le hbB2 hB)]; exact hd0
      have e1 : wr.cell? ⟨b2, o2 + k * 5 + 1, none⟩ = some (.int .i64 x1) := by rw [hb.cell (p := ⟨b2, o2 + k * 5 + 1, none⟩) (Nat.lt_of_lt_of_le hbB2 hB)]; exact hd1
      have e2 : wr.cell? ⟨b2, o2 + k * 5 + 2, none⟩ = some (.int .i64 x2) := by rw [hb.cell (p := ⟨b2, o2 + k * 5 + 2, none⟩) (Nat.lt_of_lt_of_le hbB2 hB)]; exact hd2
      have e3 : wr.cell? ⟨b2, o2 + k * 5 + 3, none⟩ = some (.int .i64 x3) := by rw [hb.cell (p := ⟨b2, o2 + k * 5 + 3, none⟩) (Nat.lt_of_lt_of_le hbB2 hB)]; exact hd3
      have e4 : wr.cell? ⟨b2, o2 + k * 5 + 4, none⟩ = some (.int .i64 x4) := by rw [hb.cell (p := ⟨b2, o2 + k * 5 + 4, none⟩) (Nat.lt_of_lt_of_le hbB2 hB)]; exact hd4
      have HBB := hide hb
      clear hc0 hc1 hc2 hc3 hc4 hd0 hd1 hd2 hd3 hd4 hp hb
      go_wp2_with fail
      go_region_with (go_at_call 61; refine (eqCharge_same ⟨x0, x1, x2, x3, x4⟩ _).mono ?_; rintro e wa ⟨rfl, hba⟩)
      all_goals go_wp2_with fail
      all_goals go_roundw
      all_goals first
        | exact ⟨k + 1, by omega, by go_num, (HBB.out.drew).trans (hba.mono HBB.out.drew.size)⟩
        | (simp [intOf]; omega)
    · have hke : k = cs.length := by omega
      subst hke
      go_wp2
      go_ret
      exact ⟨rfl, hb⟩

theorem cgs_in {H : Type} {enc : TypeId × Value → H} {W : World} {fuel : Nat} {v : Value} {x : DataW H × List MemPlace} (hf : DataW.trod enc Try.prog W 0 (fun _ => true) true fuel 41 [v] = some x) : ∃ cs, Cgs W W.heap.size v cs := by
  have ce : Try.prog.cellsOf 84 = 5 := by kernel_rfl
  have he : ∃ f0 f1 f2 f3 f4 : Field, Try.prog.underlying 84 = some (.struct #[f0, f1, f2, f3, f4]) ∧ (f0.offset = 0 ∧ f1.offset = 1 ∧ f2.offset = 2 ∧ f3.offset = 3 ∧ f4.offset = 4) ∧ (f0.type = 3 ∧ f1.type = 3 ∧ f2.type = 3 ∧ f3.type = 3 ∧ f4.type = 3) :=
    ⟨_, _, _, _, _, Try.underlying84, ⟨rfl, rfl, rfl, rfl, rfl⟩, rfl, rfl, rfl, rfl, rfl⟩
  have ci : Try.prog.cellsOf 3 = 1 := by kernel_rfl
  obtain ⟨f0, f1, f2, f3, f4, hu, ⟨o0, o1, o2, o3, o4⟩, e0, e1, e2, e3, e4⟩ := he
  rcases Go.Deep.open_slice Try.underlying41 hf with ⟨hcs, _⟩ | ⟨a, len, cap, m, n, D, Pl, hcs, _, hl, hm, hmm, _, hall⟩
  · simp at hcs
    subst hcs
    exact ⟨[], ⟨_, _, rfl, by simp, by simp, fun j hj => by simp at hj⟩⟩
  · simp at hcs
    subst hcs
    have hmc : m = cap := by simpa using hmm
    have each : ∀ i, ∃ c : Chg, i < len → c.Ok ∧ W.cell? (a.add (i * 5)) = some (.int .i64 c.q) ∧ W.cell? (a.add (i * 5 + 1)) = some (.int .i64 c.v) ∧ W.cell? (a.add (i * 5 + 2)) = some (.int .i64 c.a) ∧ W.cell? (a.add (i * 5 + 3)) = some (.int .i64 c.b) ∧ W.cell? (a.add (i * 5 + 4)) = some (.int .i64 c.n) := by
      intro i
      by_cases hi : i < len
      · obtain ⟨cs', h1, h2⟩ := hall i (by omega)
        rw [ce] at h1
        obtain ⟨_, hlen, hcell⟩ := World.cells?_some h1
        obtain ⟨xs, k, hk, hxy, _, hxl, hx⟩ := DataW.trod_struct hu h2
        match xs, hxl, cs', hlen with
        | [y0, y1, y2, y3, y4], _, [v0, v1, v2, v3, v4], _ =>
          have g0 := hx 0 f0 rfl
          have g1 := hx 1 f1 rfl
          have g2 := hx 2 f2 rfl
          have g3 := hx 3 f3 rfl
          have g4 := hx 4 f4 rfl
          rw [o0, e0, ci] at g0
          rw [o1, e1, ci] at g1
          rw [o2, e2, ci] at g2
          rw [o3, e3, ci] at g3
          rw [o4, e4, ci] at g4
          simp at g0 g1 g2 g3 g4
          obtain ⟨z0, hz0, _, wz0⟩ := DataW.trod_int Try.underlying3 g0
          obtain ⟨z1, hz1, _, wz1⟩ := DataW.trod_int Try.underlying3 g1
          obtain ⟨z2, hz2, _, wz2⟩ := DataW.trod_int Try.underlying3 g2
          obtain ⟨z3, hz3, _, wz3⟩ := DataW.trod_int Try.underlying3 g3
          obtain ⟨z4, hz4, _, wz4⟩ := DataW.trod_int Try.underlying3 g4
          simp at hz0 hz1 hz2 hz3 hz4
          subst hz0; subst hz1; subst hz2; subst hz3; subst hz4
          have b0 := bounds_i64 wz0
          have b1 := bounds_i64 wz1
          have b2 := bounds_i64 wz2
          have b3 := bounds_i64 wz3
          have b4 := bounds_i64 wz4
          have c0 := hcell 0 (by omega)
          have c1 := hcell 1 (by omega)
          have c2 := hcell 2 (by omega)
          have c3 := hcell 3 (by omega)
          have c4 := hcell 4 (by omega)
          rw [Go.Deep.add_add] at c0 c1 c2 c3 c4
          have i0 : I64 z0 := ⟨by omega, by omega⟩
          have i1 : I64 z1 := ⟨by omega, by omega⟩
          have i2 : I64 z2 := ⟨by omega, by omega⟩
          have i3 : I64 z3 := ⟨by omega, by omega⟩
          have i4 : I64 z4 := ⟨by omega, by omega⟩
          exact ⟨⟨z0, z1, z2, z3, z4⟩, fun _ => ⟨⟨i0, i1, i2, i3, i4⟩, by simpa using c0, by simpa using c1, by simpa using c2, by simpa using c3, by simpa using c4⟩⟩
      · exact ⟨⟨0, 0, 0, 0, 0⟩, fun h => absurd h hi⟩
    obtain ⟨f, hfc⟩ := Classical.axiomOfChoice each
    have hlen : ((List.range len).map f).length = len := by simp
    refine ⟨(List.range len).map f, ⟨some a, cap, by rw [hlen], by unfold maxLen at hm; omega, ?_, ?_⟩⟩
    · intro p hp
      obtain ⟨i, hi, rfl⟩ := List.mem_map.1 hp
      exact (hfc i (List.mem_range.1 hi)).1
    intro j hj
    have hj2 : j < len := by omega
    obtain ⟨_, c0, c1, c2, c3, c4⟩ := hfc j hj2
    obtain ⟨b, off, spot⟩ := a
    have hspot : spot = none := by simpa [Addr.add] using World.cell?_spot (hfc 0 (by omega)).2.1
    subst hspot
    simp only [Addr.add_lit] at c0 c1 c2 c3 c4
    have hb := World.block_lt_of_cell? _ _ c0
    refine ⟨b, off, rfl, hb, ?_, ?_, ?_, ?_, ?_⟩
    · rw [c0]; simp
    · rw [Nat.add_assoc]; rw [c1]; simp
    · rw [Nat.add_assoc]; rw [c2]; simp
    · rw [Nat.add_assoc]; rw [c3]; simp
    · rw [Nat.add_assoc]; rw [c4]; simp

theorem open_cgs {H : Type} {enc : TypeId × Value → H} {W : World} {base : Nat} {v : Value} {d : DataW H} {p : List MemPlace} (hv : Value.okWide Try.prog W .any base 41 v) (h : DataW.Trod enc Try.prog W 0 (fun _ => true) true 41 v d p) : ∃ cs, Cgs W W.heap.size v cs := by
  obtain ⟨a, len, cap, rfl⟩ := WideShapes.okWide_slice Try.underlying41 hv
  obtain ⟨fuel, hf⟩ := h
  have e : (Value.slice a len cap).cells.toList = [.slice a len cap] := by simp [Value.cells]
  first
  | exact cgs_in hf
  | (rw [e] at hf; exact cgs_in hf)

end Go.Proofs.Ytdjhnamofmcmjaa
