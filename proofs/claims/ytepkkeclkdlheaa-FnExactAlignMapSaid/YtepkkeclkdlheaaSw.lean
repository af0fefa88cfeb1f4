/- Slices of swaps: read only (Pvs), owned by the call (OwS, Osw); the laws' toSwap.., eqSwap.., szSwapS, marks. (Written after Pv and CkO by renaming: a swap's cells are a pivot's.) -/
import Derived.Test.YtepkkeclkdlheaaCkO
namespace Go.Proofs.Ytepkkeclkdlheaa
open Go.RowKit Go.ChangeShapes
set_option linter.unusedSimpArgs false
set_option linter.unusedVariables false
set_option maxRecDepth 100000

theorem infoSwp : (Try.prog.info? 111).map (fun i => (i.zero, i.size, i.bytes)) = some (some (.agg #[.int .i64 0, .int .i64 0]), 2, 16) := by kernel_rfl

/-- v owns the pivots ps in a block of the call's own. -/
def OwS (w : World) (base : Nat) (v : Value) (ps : List Pv) : Prop := w.ownsRow base 111 2 v ps.length (pvVs ps)

theorem OwS.below {w w' : World} {base : Nat} {v : Value} {ps : List Pv} (h : OwS w base v ps) (hb : Below w.heap.size w w') : OwS w' base v ps :=
  owns_eq h fun g hg => hb.block g (World.ownsRow.lt h g hg).2

theorem OwS.lower {w : World} {base B : Nat} {v : Value} {ps : List Pv} (h : OwS w base v ps) (hb : B ≤ base) : OwS w B v ps := by
  refine ⟨h.1, ?_⟩
  rcases h.2 with h2 | ⟨g, cap, cur, hv, hg, r⟩
  · exact .inl h2
  · exact .inr ⟨g, cap, cur, hv, Nat.le_trans hb hg, r⟩

theorem OwS.form {w : World} {base : Nat} {v : Value} {ps : List Pv} (h : OwS w base v ps) : ∃ a cap, v = .slice a ps.length cap := by
  rcases h.2 with ⟨hv, hn⟩ | ⟨g, cap, cur, hv, _⟩
  · exact ⟨none, 0, by rw [hv, hn]⟩
  · exact ⟨_, _, hv⟩

theorem OwS.cell {w : World} {base : Nat} {g n cap : Nat} {ps : List Pv} (h : OwS w base (.slice (some ⟨g, 0, none⟩) n cap) ps) (j : Nat) (hj : j < ps.length) :
    w.cell? ⟨g, j * 2, none⟩ = some (.int .i64 ps[j].1) ∧ w.cell? ⟨g, j * 2 + 1, none⟩ = some (.int .i64 ps[j].2) ∧ w.frozen? ⟨g, j * 2, none⟩ = false ∧ w.frozen? ⟨g, j * 2 + 1, none⟩ = false ∧ base ≤ g ∧ g < w.heap.size := by
  have hlt := World.ownsRow.lt h g (by simp [Value.ownBlock])
  rcases h.2 with ⟨h', _⟩ | ⟨g', cap', cur, h', hb, hg, _, _, _, htake⟩
  · simp at h'
  · have h'' := h'
    simp only [Value.slice.injEq, Option.some.injEq, Addr.mk.injEq, and_true, true_and] at h''
    obtain ⟨rfl, rfl, rfl⟩ := h''
    have h3 : w.ownsRow base 111 2 (.slice (some ⟨g, 0, none⟩) ps.length cap) ps.length (pvVs ps) := h
    refine ⟨?_, ?_, World.ownsRow.frozenAt h3 _, World.ownsRow.frozenAt h3 _, hlt.1, hlt.2⟩
    · rw [World.ownsRow.cellAt h3 (j * 2) (by omega)]; exact pvVs_get0 ps j hj
    · rw [World.ownsRow.cellAt h3 (j * 2 + 1) (by omega)]; exact pvVs_get1 ps j hj

theorem OwS.pvs {w : World} {base B : Nat} {v : Value} {ps : List Pv} (h : OwS w base v ps) (hB : w.heap.size ≤ B) (hl : ps.length ≤ 9223372036854775807) (hw : ∀ p ∈ ps, I64 p.1 ∧ I64 p.2) : Pvs w B v ps := by
  rcases h.2 with ⟨hv, hn⟩ | ⟨g, cap, cur, hv, _⟩
  · have : ps = [] := List.eq_nil_of_length_eq_zero hn
    subst this; subst hv
    exact ⟨_, _, rfl, by simp, hw, fun j hj => by simp at hj⟩
  · subst hv
    refine ⟨_, _, rfl, hl, hw, fun j hj => ?_⟩
    obtain ⟨c0, c1, _, _, _, hlt⟩ := OwS.cell h j hj
    exact ⟨g, 0, rfl, Nat.lt_of_lt_of_le hlt hB, by rw [Nat.zero_add]; exact c0, by rw [Nat.zero_add]; exact c1⟩

/-- A pivot is put. -/
theorem OwS.put {w : World} {base : Nat} {g n cap : Nat} {ps : List Pv} (h : OwS w base (.slice (some ⟨g, 0, none⟩) n cap) ps) (j : Nat) (x y : Int) (hj : j < ps.length) :
    OwS ((w.setCell ⟨g, j * 2, none⟩ (.int .i64 x)).setCell ⟨g, j * 2 + 1, none⟩ (.int .i64 y)) base (.slice (some ⟨g, 0, none⟩) n cap) (ps.set j (x, y)) := by
  obtain rfl : n = ps.length := by
    obtain ⟨a, c, hv⟩ := h.form
    simp only [Value.slice.injEq] at hv
    exact hv.2.1
  have h' : w.ownsRow base 111 2 (.slice (some ⟨g, 0, none⟩) ps.length cap) ps.length (pvVs ps) := h
  have s1 := (World.ownsRow.stored h' (j * 2) (.int .i64 x)).1
  have s2 := (World.ownsRow.stored s1 (j * 2 + 1) (.int .i64 y)).1
  rw [pvVs_put ps j x y hj] at s2
  unfold OwS
  rw [List.length_set]
  exact s2

/-- New pivots of the call's own are returned; nothing that was there has turned. -/
def RetSws (w : World) (ps : List Pv) (e : Ending) (w' : World) : Prop := ∃ v, e = .returned v ∧ OwS w' w.heap.size v ps ∧ Below w.heap.size w w'

/-- make([]Pivot, n). -/
theorem os_make (W : World) {ops : Array Oper} {rest : List Oper} {o : Oper} {a : Act} {Q : Exit → Act → World → Prop} (hgd : o.guard = none) (x y : Operand)
    (ho : o.op = Go.Op.makeSlice 76 x y) (base : Nat)
    (n : Nat) (L C : Int) (hx : a.eval x = .int .i64 L) (hy : a.eval y = .int .i64 C) (hL : L = (n : Int)) (hC : C = (n : Int)) (hn : n ≤ 1099511627776) (hbase : base ≤ W.heap.size)
    (h : ∀ w', OwS w' base (.slice (some ⟨W.heap.size, 0, none⟩) n n) (List.replicate n (0, 0)) → Below base W w' → W.heap.size < w'.heap.size → wpList Try.prog ops Q rest (a.put o.dst (.slice (some ⟨W.heap.size, 0, none⟩) n n)) w') :
    wpList Try.prog ops Q (o :: rest) a W := by
  obtain ⟨i0, hi, hz0, hz1, hz2⟩ := info_parts infoSwp
  refine wpList_make_full W hgd x y 76 ho base 111 i0 _ 2 Try.underlying76 hi hz0 hz1 .i64 .i64 L C n hx hy hL hC (by rw [hz2]; omega) (by unfold maxLen; omega) hbase ?_
  intro w' hown hgrow
  refine h w' ?_ ((Below.refl base W).grown hgrow hbase (fun k hk => by cases hk)) ?_
  · unfold OwS
    have e1 : (madeCells (Value.agg #[.int .i64 0, .int .i64 0]).cells (n * 2)).toList = pvVs (List.replicate n (0, 0)) := by
      rw [pvVs_zeros]
      simp [madeCells, Value.cells]
      rw [List.eq_replicate_iff]
      refine ⟨by simp, fun b hb => ?_⟩
      simp at hb
      obtain ⟨i, hi, rfl⟩ := hb
      have : i % 2 = 0 ∨ i % 2 = 1 := by omega
      rcases this with h | h <;> simp [h]
    rw [← e1, List.length_replicate]
    exact hown
  · exact (World.ownsRow.lt hown W.heap.size (by simp [Value.ownBlock])).2

/-- The pivots ps lie in a row of v's own, from block lo on, below hi. -/
structure Osw (w : World) (v : Value) (ps : List Pv) (lo hi : Nat) : Prop where
  own : OwS w lo v ps
  lt : ∀ g, v.ownBlock = some g → g < hi
  le : lo ≤ hi
  top : hi ≤ w.heap.size

theorem Osw.of {w' : World} {v : Value} {ps : List Pv} {lo : Nat} (h : OwS w' lo v ps) (hs : lo ≤ w'.heap.size) : Osw w' v ps lo w'.heap.size := ⟨h, fun g hg => (World.ownsRow.lt h g hg).2, hs, Nat.le_refl _⟩

theorem Osw.seg {w w' : World} {v : Value} {ps : List Pv} {lo hi a b : Nat} (h : Osw w v ps lo hi) (s : Seg a b w w') (d : hi ≤ a ∨ b ≤ lo) : Osw w' v ps lo hi := by
  refine ⟨owns_eq h.own fun g hg => ?_, h.lt, h.le, Nat.le_trans h.top s.below.size⟩
  have h1 := h.lt g hg
  have h2 := World.ownsRow.lt h.own g hg
  rcases d with d | d
  · exact s.below.block g (by omega)
  · exact s.over g (by omega) h2.2

theorem Osw.below {w w' : World} {v : Value} {ps : List Pv} {lo hi : Nat} (h : Osw w v ps lo hi) (hb : Below w.heap.size w w') : Osw w' v ps lo hi :=
  ⟨h.own.below hb, h.lt, h.le, Nat.le_trans h.top hb.size⟩

/-- A number is returned, v's own pivots now read as ps, only their stretch has turned. -/
def RetMSw (w : World) (v : Value) (lo hi : Nat) (x : Int) (ps : List Pv) (e : Ending) (w' : World) : Prop := e = .returned (.int .i64 x) ∧ Osw w' v ps lo hi ∧ Seg lo hi w w'

end Go.Proofs.Ytepkkeclkdlheaa
