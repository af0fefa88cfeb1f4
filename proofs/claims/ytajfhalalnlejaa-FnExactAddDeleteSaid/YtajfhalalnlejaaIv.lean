/- Slices of items, after the words for slices of pivots: owned by the call (Oi, Owi; read only: Pvs); the laws' toItemS, eqItemS, szItemS, markItemS, heldItemS. -/
import Derived.Test.YtajfhalalnlejaaIt
import Derived.Test.YtajfhalalnlejaaCkO
import Derived.Test.YtajfhalalnlejaaRf
import Derived.Deep.SlicePairs
namespace Go.Proofs.Ytajfhalalnlejaa
open Go.RowKit Go.ChangeShapes
set_option linter.unusedSimpArgs false
set_option linter.unusedVariables false
set_option maxRecDepth 100000

theorem infoIt : (Try.prog.info? 49).map (fun i => (i.zero, i.size, i.bytes)) = some (some (.agg #[.int .i64 0, .int .i64 0]), 2, 16) := by kernel_rfl

/-- v owns the pivots ps in a block of the call's own. -/
def Oi (w : World) (base : Nat) (v : Value) (ps : List Pv) : Prop := w.ownsRow base 49 2 v ps.length (pvVs ps)

theorem Oi.below {w w' : World} {base : Nat} {v : Value} {ps : List Pv} (h : Oi w base v ps) (hb : Below w.heap.size w w') : Oi w' base v ps :=
  owns_eq h fun g hg => hb.block g (World.ownsRow.lt h g hg).2

theorem Oi.lower {w : World} {base B : Nat} {v : Value} {ps : List Pv} (h : Oi w base v ps) (hb : B ≤ base) : Oi w B v ps := by
  refine ⟨h.1, ?_⟩
  rcases h.2 with h2 | ⟨g, cap, cur, hv, hg, r⟩
  · exact .inl h2
  · exact .inr ⟨g, cap, cur, hv, Nat.le_trans hb hg, r⟩

theorem Oi.form {w : World} {base : Nat} {v : Value} {ps : List Pv} (h : Oi w base v ps) : ∃ a cap, v = .slice a ps.length cap := by
  rcases h.2 with ⟨hv, hn⟩ | ⟨g, cap, cur, hv, _⟩
  · exact ⟨none, 0, by rw [hv, hn]⟩
  · exact ⟨_, _, hv⟩

theorem Oi.cell {w : World} {base : Nat} {g n cap : Nat} {ps : List Pv} (h : Oi w base (.slice (some ⟨g, 0, none⟩) n cap) ps) (j : Nat) (hj : j < ps.length) :
    w.cell? ⟨g, j * 2, none⟩ = some (.int .i64 ps[j].1) ∧ w.cell? ⟨g, j * 2 + 1, none⟩ = some (.int .i64 ps[j].2) ∧ w.frozen? ⟨g, j * 2, none⟩ = false ∧ w.frozen? ⟨g, j * 2 + 1, none⟩ = false ∧ base ≤ g ∧ g < w.heap.size := by
  have hlt := World.ownsRow.lt h g (by simp [Value.ownBlock])
  rcases h.2 with ⟨h', _⟩ | ⟨g', cap', cur, h', hb, hg, _, _, _, htake⟩
  · simp at h'
  · have h'' := h'
    simp only [Value.slice.injEq, Option.some.injEq, Addr.mk.injEq, and_true, true_and] at h''
    obtain ⟨rfl, rfl, rfl⟩ := h''
    have h3 : w.ownsRow base 49 2 (.slice (some ⟨g, 0, none⟩) ps.length cap) ps.length (pvVs ps) := h
    refine ⟨?_, ?_, World.ownsRow.frozenAt h3 _, World.ownsRow.frozenAt h3 _, hlt.1, hlt.2⟩
    · rw [World.ownsRow.cellAt h3 (j * 2) (by omega)]; exact pvVs_get0 ps j hj
    · rw [World.ownsRow.cellAt h3 (j * 2 + 1) (by omega)]; exact pvVs_get1 ps j hj

theorem Oi.pvs {w : World} {base B : Nat} {v : Value} {ps : List Pv} (h : Oi w base v ps) (hB : w.heap.size ≤ B) (hl : ps.length ≤ 9223372036854775807) (hw : ∀ p ∈ ps, I64 p.1 ∧ I64 p.2) : Pvs w B v ps := by
  rcases h.2 with ⟨hv, hn⟩ | ⟨g, cap, cur, hv, _⟩
  · have : ps = [] := List.eq_nil_of_length_eq_zero hn
    subst this; subst hv
    exact ⟨_, _, rfl, by simp, hw, fun j hj => by simp at hj⟩
  · subst hv
    refine ⟨_, _, rfl, hl, hw, fun j hj => ?_⟩
    obtain ⟨c0, c1, _, _, _, hlt⟩ := Oi.cell h j hj
    exact ⟨g, 0, rfl, Nat.lt_of_lt_of_le hlt hB, by rw [Nat.zero_add]; exact c0, by rw [Nat.zero_add]; exact c1⟩

/-- A pivot is put. -/
theorem Oi.put {w : World} {base : Nat} {g n cap : Nat} {ps : List Pv} (h : Oi w base (.slice (some ⟨g, 0, none⟩) n cap) ps) (j : Nat) (x y : Int) (hj : j < ps.length) :
    Oi ((w.setCell ⟨g, j * 2, none⟩ (.int .i64 x)).setCell ⟨g, j * 2 + 1, none⟩ (.int .i64 y)) base (.slice (some ⟨g, 0, none⟩) n cap) (ps.set j (x, y)) := by
  obtain rfl : n = ps.length := by
    obtain ⟨a, c, hv⟩ := h.form
    simp only [Value.slice.injEq] at hv
    exact hv.2.1
  have h' : w.ownsRow base 49 2 (.slice (some ⟨g, 0, none⟩) ps.length cap) ps.length (pvVs ps) := h
  have s1 := (World.ownsRow.stored h' (j * 2) (.int .i64 x)).1
  have s2 := (World.ownsRow.stored s1 (j * 2 + 1) (.int .i64 y)).1
  rw [pvVs_put ps j x y hj] at s2
  unfold Oi
  rw [List.length_set]
  exact s2

theorem eqItem_same (x y : Int) (w : World) : Calls Try.prog 115 #[.agg #[.int .i64 x, .int .i64 y], .agg #[.int .i64 x, .int .i64 y]] w (RetB1 w true) := by
  have h1 : (x != x) = false := by simp
  have h2 : (y != y) = false := by simp
  go_enter Try.func115, Try.ntmps115
  go_wp2
  go_ret
  exact ⟨rfl, below2 _ _ _⟩

theorem szItemS_any (v : Value) (ps : List Pv) (left : Int) (w : World) (B : Nat) (hv : Pvs w B v ps) (h1 : -1 ≤ left) (h2 : left ≤ 1048576) :
    Calls Try.prog 86 #[v, .int .i64 left] w fun e w' => e = .returned (.int .i64 (if left - ps.length < 0 then -1 else left - ps.length)) ∧ w = w' := by
  obtain ⟨a, cap, rfl, hlen, hwf, hcell⟩ := hv
  clear hcell hwf
  by_cases h : left - ps.length < 0
  · rw [if_pos h]
    go_enter Try.func86, Try.ntmps86
    go_wp2
    go_ret
    exact ⟨rfl, rfl⟩
  · rw [if_neg h]
    go_enter Try.func86, Try.ntmps86
    go_wp2
    go_ret
    exact ⟨rfl, rfl⟩

/-- New pivots of the call's own are returned; nothing that was there has turned. -/
def RetIts (w : World) (ps : List Pv) (e : Ending) (w' : World) : Prop := ∃ v, e = .returned v ∧ Oi w' w.heap.size v ps ∧ Below w.heap.size w w'

/-- make([]Pivot, n). -/
theorem oi_make (W : World) {ops : Array Oper} {rest : List Oper} {o : Oper} {a : Act} {Q : Exit → Act → World → Prop} (hgd : o.guard = none) (x y : Operand)
    (ho : o.op = Go.Op.makeSlice 68 x y) (base : Nat)
    (n : Nat) (L C : Int) (hx : a.eval x = .int .i64 L) (hy : a.eval y = .int .i64 C) (hL : L = (n : Int)) (hC : C = (n : Int)) (hn : n ≤ 1099511627776) (hbase : base ≤ W.heap.size)
    (h : ∀ w', Oi w' base (.slice (some ⟨W.heap.size, 0, none⟩) n n) (List.replicate n (0, 0)) → Below base W w' → W.heap.size < w'.heap.size → wpList Try.prog ops Q rest (a.put o.dst (.slice (some ⟨W.heap.size, 0, none⟩) n n)) w') :
    wpList Try.prog ops Q (o :: rest) a W := by
  obtain ⟨i0, hi, hz0, hz1, hz2⟩ := info_parts infoIt
  refine wpList_make_full W hgd x y 68 ho base 49 i0 _ 2 Try.underlying68 hi hz0 hz1 .i64 .i64 L C n hx hy hL hC (by rw [hz2]; omega) (by unfold maxLen; omega) hbase ?_
  intro w' hown hgrow
  refine h w' ?_ ((Below.refl base W).grown hgrow hbase (fun k hk => by cases hk)) ?_
  · unfold Oi
    have e1 : (madeCells (Value.agg #[.int .i64 0, .int .i64 0]).cells (n * 2)).toList = pvVs (List.replicate n (0, 0)) := by
      rw [pvVs_zeros]
      simp [madeCells, Value.cells]
      rw [List.eq_replicate_iff]
      refine ⟨by simp, fun b hb => ?_⟩
      simp at hb
      obtain ⟨i, hi, rfl⟩ := hb
      have : i % 2 = 0 ∨ i % 2 = 1 := by omega
      rcases this with h | h <;> simp [h]
    rw [← e1, List.length_replicate]
    exact hown
  · exact (World.ownsRow.lt hown W.heap.size (by simp [Value.ownBlock])).2

set_option maxHeartbeats 1000000 in
theorem toItemS_own (v : Value) (ps : List Pv) (w : World) (B : Nat) (hv : Pvs w B v ps) (hB : B ≤ w.heap.size) (hl : ps.length ≤ 1048576) :
    Calls Try.prog 88 #[v] w (RetIts w ps) := by
  obtain ⟨a, cap, rfl, hlen, hwf, hcell⟩ := hv
  have HC := hide hcell
  clear hcell hwf
  go_enter Try.func88, Try.ntmps88
  go_wp2_with (first | (at_make; refine oi_make _ rfl _ _ rfl w.heap.size ps.length _ _ rfl rfl rfl rfl (by omega) (Nat.le_refl _) ?_; intro w1 hown1 hb1 hs1))
  go_loopw [4] (fun i wr => ∃ (k : Nat) (m : List Pv), k ≤ ps.length ∧ i = .int .i64 k ∧ Hid (m = ps.take k ++ List.replicate (ps.length - k) (0, 0)) ∧ Hid (Oi wr w.heap.size (.slice (some ⟨w.heap.size, 0, none⟩) ps.length ps.length) m) ∧ Below w.heap.size w wr) (fun i _ => ps.length - (intOf i).toNat)
  case atStart => exact ⟨0, _, by omega, rfl, by simp [Hid], hown1, hb1⟩
  case round =>
    clear hown1 hb1
    obtain ⟨k, m, hk, rfl, hm, hown, hb⟩ := hrel
    have HML := hide (show m.length = ps.length by rw [hm.out]; simp; omega)
    by_cases hlt : k < ps.length
    · obtain ⟨b, o, rfl, hbB, hc, hc2⟩ := HC.out k hlt
      obtain ⟨p, hp⟩ : ∃ p, p = ps[k] := ⟨_, rfl⟩
      rw [← hp] at hc hc2
      obtain ⟨x, y⟩ := p
      simp only at hc hc2
      have HP := hide hp
      have d1 : wr.cell? ⟨b, o + k * 2, none⟩ = some (.int .i64 x) := by rw [hb.cell (p := ⟨b, o + k * 2, none⟩) (Nat.lt_of_lt_of_le hbB hB)]; exact hc
      have d2 : wr.cell? ⟨b, o + k * 2 + 1, none⟩ = some (.int .i64 y) := by rw [hb.cell (p := ⟨b, o + k * 2 + 1, none⟩) (Nat.lt_of_lt_of_le hbB hB)]; exact hc2
      clear hc hc2 hp
      go_wp2_with fail
      go_at_call 24
      refine (toItem_any x y _).mono ?_
      rintro e wa ⟨rfl, hba⟩
      have hown2 := hide (hown.out.below hba)
      obtain ⟨c0, c1, f0, f1, -, hg⟩ := Oi.cell hown2.out k (by rw [HML.out]; exact hlt)
      have hbb := hide (hb.trans (hba.mono hb.size))
      clear hba d1 d2
      go_wp2_with fail
      go_roundw
      case rel =>
        refine ⟨k + 1, m.set k (x, y), by omega, by go_num, ?_, Oi.put hown2.out k x y (by rw [HML.out]; exact hlt), (hbb.out.setCell (p := ⟨w.heap.size, k * 2, none⟩) (Nat.le_refl _) _).setCell (p := ⟨w.heap.size, k * 2 + 1, none⟩) (Nat.le_refl _) _⟩
        show _ = _
        rw [HP.out]
        exact take_setP ps m k hlt hm.out
      case measure => simp [intOf]; omega
    · have hke : k = ps.length := by omega
      subst hke
      have hml2 : m = ps := by rw [hm.out]; simp
      subst hml2
      go_wp2
      go_ret
      exact ⟨_, rfl, hown.out, hb⟩

/-- Pivots of two slices that read alike. -/
theorem eqItemS_same (v u : Value) (ps : List Pv) (w : World) (B : Nat) (hv : Pvs w B v ps) (hu : Pvs w B u ps) (hB : B ≤ w.heap.size) :
    Calls Try.prog 91 #[v, u] w (RetB1 w true) := by
  obtain ⟨a, cap, rfl, hlen, -, hcell⟩ := hv
  obtain ⟨c, cap2, rfl, -, -, hcell2⟩ := hu
  have HC := hide hcell
  have HC2 := hide hcell2
  clear hcell hcell2
  have hd : ((ps.length : Int) != (ps.length : Int)) = false := by simp
  go_enter Try.func91, Try.ntmps91
  go_wp2
  go_loopw [5] (fun i wr => ∃ (k : Nat), k ≤ ps.length ∧ i = .int .i64 k ∧ Below w.heap.size w wr) (fun i _ => ps.length - (intOf i).toNat)
  case atStart => exact ⟨0, by omega, rfl, Below.refl _ _⟩
  case round =>
    obtain ⟨k, hk, rfl, hb⟩ := hrel
    by_cases hlt : k < ps.length
    · obtain ⟨b, o, rfl, hbB, hc, hc'⟩ := HC.out k hlt
      obtain ⟨b2, o2, rfl, hbB2, hc2, hc2'⟩ := HC2.out k hlt
      obtain ⟨p, hp⟩ : ∃ p, p = ps[k] := ⟨_, rfl⟩
      rw [← hp] at hc hc' hc2 hc2'
      obtain ⟨x, y⟩ := p
      simp only at hc hc' hc2 hc2'
      have d1 : wr.cell? ⟨b, o + k * 2, none⟩ = some (.int .i64 x) := by rw [hb.cell (p := ⟨b, o + k * 2, none⟩) (Nat.lt_of_lt_of_le hbB hB)]; exact hc
      have d2 : wr.cell? ⟨b, o + k * 2 + 1, none⟩ = some (.int .i64 y) := by rw [hb.cell (p := ⟨b, o + k * 2 + 1, none⟩) (Nat.lt_of_lt_of_le hbB hB)]; exact hc'
      have d3 : wr.cell? ⟨b2, o2 + k * 2, none⟩ = some (.int .i64 x) := by rw [hb.cell (p := ⟨b2, o2 + k * 2, none⟩) (Nat.lt_of_lt_of_le hbB2 hB)]; exact hc2
      have d4 : wr.cell? ⟨b2, o2 + k * 2 + 1, none⟩ = some (.int .i64 y) := by rw [hb.cell (p := ⟨b2, o2 + k * 2 + 1, none⟩) (Nat.lt_of_lt_of_le hbB2 hB)]; exact hc2'
      have HBB := hide hb
      clear hc hc' hc2 hc2' hp hb
      go_wp2_with fail
      go_region_with (go_at_call 115; refine (eqItem_same x y _).mono ?_; rintro e wa ⟨rfl, hba⟩)
      all_goals go_wp2_with fail
      all_goals go_roundw
      all_goals first
        | exact ⟨k + 1, by omega, by go_num, (HBB.out.drew).trans (hba.mono HBB.out.drew.size)⟩
        | (simp [intOf]; omega)
    · have hke : k = ps.length := by omega
      subst hke
      go_wp2
      go_ret
      exact ⟨rfl, hb⟩

theorem its_in {H : Type} {enc : TypeId × Value → H} {W : World} {fuel : Nat} {v : Value} {x : DataW H × List MemPlace} (hf : DataW.trod enc Try.prog W 0 (fun _ => true) true fuel 63 [v] = some x) : ∃ ps, Pvs W W.heap.size v ps ∧ ∃ a n c, v = .slice a n c ∧ n ≤ c ∧ (a = none → c = 0) := by
  rcases Go.Deep.open_slice_pairs Try.underlying63 Try.underlying44 (by kernel_rfl) rfl rfl (by kernel_rfl) (by kernel_rfl) hf with ⟨hcs, _⟩ | ⟨a, len, cap, m, n, V0, V1, D0, D1, P0, P1, hcs, _, hl, hm, hmm, _, hall⟩
  · simp at hcs
    subst hcs
    exact ⟨[], ⟨_, _, rfl, by simp, by simp, fun j hj => by simp at hj⟩, _, _, _, rfl, Nat.le_refl _, fun _ => rfl⟩
  · simp at hcs
    subst hcs
    have hmc : m = cap := by simpa using hmm
    have each : ∀ i, ∃ c : Pv, i < len → V0 i = .int .i64 c.1 ∧ V1 i = .int .i64 c.2 ∧ I64 c.1 ∧ I64 c.2 := by
      intro i
      by_cases hi : i < len
      · obtain ⟨_, _, t0, t1⟩ := hall i (by omega)
        obtain ⟨f, hf, _, wf⟩ := DataW.trod_int Try.underlying3 t0
        obtain ⟨t, ht, _, wt⟩ := DataW.trod_int Try.underlying3 t1
        simp at hf ht
        have b0 := bounds_i64 wf
        have b1 := bounds_i64 wt
        exact ⟨(f, t), fun _ => ⟨hf, ht, ⟨by omega, by omega⟩, ⟨by omega, by omega⟩⟩⟩
      · exact ⟨(0, 0), fun h => absurd h hi⟩
    obtain ⟨f, hfc⟩ := Classical.axiomOfChoice each
    have hlen : ((List.range len).map f).length = len := by simp
    refine ⟨(List.range len).map f, ⟨some a, cap, by rw [hlen], by unfold maxLen at hm; omega, ?_, ?_⟩, _, _, _, rfl, hl, fun h => by cases h⟩
    · intro p hp
      obtain ⟨i, hi, rfl⟩ := List.mem_map.1 hp
      exact ⟨(hfc i (List.mem_range.1 hi)).2.2.1, (hfc i (List.mem_range.1 hi)).2.2.2⟩
    intro j hj
    have hj2 : j < len := by omega
    obtain ⟨q1, q2, q3, q4⟩ := hfc j hj2
    obtain ⟨b, off, spot⟩ := a
    obtain ⟨k0, k1, _, _⟩ := hall j (by omega)
    have hspot : spot = none := by simpa [Addr.add] using World.cell?_spot (hall 0 (by omega)).1
    subst hspot
    rw [Addr.add_lit] at k0 k1
    have hb := World.block_lt_of_cell? _ _ k0
    rw [q1] at k0
    rw [q2] at k1
    refine ⟨b, off, rfl, hb, ?_, ?_⟩
    · rw [k0]; simp
    · rw [Nat.add_assoc]; rw [k1]; simp

/-- The pivots ps lie in a row of v's own, from block lo on, below hi. -/
structure Owi (w : World) (v : Value) (ps : List Pv) (lo hi : Nat) : Prop where
  own : Oi w lo v ps
  lt : ∀ g, v.ownBlock = some g → g < hi
  le : lo ≤ hi
  top : hi ≤ w.heap.size

theorem Owi.of {w' : World} {v : Value} {ps : List Pv} {lo : Nat} (h : Oi w' lo v ps) (hs : lo ≤ w'.heap.size) : Owi w' v ps lo w'.heap.size := ⟨h, fun g hg => (World.ownsRow.lt h g hg).2, hs, Nat.le_refl _⟩

theorem Owi.seg {w w' : World} {v : Value} {ps : List Pv} {lo hi a b : Nat} (h : Owi w v ps lo hi) (s : Seg a b w w') (d : hi ≤ a ∨ b ≤ lo) : Owi w' v ps lo hi := by
  refine ⟨owns_eq h.own fun g hg => ?_, h.lt, h.le, Nat.le_trans h.top s.below.size⟩
  have h1 := h.lt g hg
  have h2 := World.ownsRow.lt h.own g hg
  rcases d with d | d
  · exact s.below.block g (by omega)
  · exact s.over g (by omega) h2.2

theorem Owi.below {w w' : World} {v : Value} {ps : List Pv} {lo hi : Nat} (h : Owi w v ps lo hi) (hb : Below w.heap.size w w') : Owi w' v ps lo hi :=
  ⟨h.own.below hb, h.lt, h.le, Nat.le_trans h.top hb.size⟩

theorem Owi.cap {w : World} {v : Value} {ps : List Pv} {lo hi : Nat} (h : Owi w v ps lo hi) : Cap v := by
  rcases h.own.2 with ⟨hv, hn⟩ | ⟨g, cap, cur, hv, _, _, hnc, _⟩
  · exact ⟨none, 0, 0, hv, Nat.le_refl _, fun _ => rfl⟩
  · exact ⟨_, _, _, hv, hnc, fun h => by cases h⟩

/-- A number is returned, v's own pivots now read as ps, only their stretch has turned. -/
def RetMIt (w : World) (v : Value) (lo hi : Nat) (x : Int) (ps : List Pv) (e : Ending) (w' : World) : Prop := e = .returned (.int .i64 x) ∧ Owi w' v ps lo hi ∧ Seg lo hi w w'

set_option maxHeartbeats 2000000 in
theorem markIs_ow (v : Value) (ps : List Pv) (lo hi : Nat) (k : Int) (w : World) (h : Owi w v ps lo hi) (h0 : 0 ≤ k) (h1 : k + 2 * ps.length ≤ 4611686018427387904) :
    Calls Try.prog 94 #[v, .int .i64 k] w (RetMIt w v lo hi (k + 2 * ps.length) (mkP k ps.length)) := by
  have H := hide h
  obtain ⟨a, cap, rfl⟩ := h.own.form
  clear h
  go_enter Try.func94, Try.ntmps94
  go_wp2
  go_loopw [1, 5] (fun x i wr => ∃ (j : Nat) (m : List Pv), j ≤ ps.length ∧ i = .int .i64 j ∧ x = .int .i64 (k + 2 * j) ∧ Hid (m = (mkP k ps.length).take j ++ ps.drop j) ∧ Hid (Owi wr (.slice a ps.length cap) m lo hi) ∧ Hid (Seg lo hi w wr)) (fun _ i _ => ps.length - (intOf i).toNat)
  case atStart => exact ⟨0, ps, by omega, rfl, by simp, by show _ = _; simp, H.out, Seg.refl _ _ _⟩
  case round =>
    obtain ⟨j, m, hj, rfl, rfl, hmm, ho, hw⟩ := hrel
    have hml : m.length = ps.length := by rw [hmm.out]; simp [mkP_length]; omega
    by_cases hlt : j < ps.length
    · have hjm : j < m.length := by omega
      obtain ⟨g, rfl⟩ : ∃ g, a = some ⟨g, 0, none⟩ := by
        rcases ho.out.own.2 with ⟨hv, hn⟩ | ⟨g, cap', cur, hv, _⟩
        · omega
        · simp only [Value.slice.injEq] at hv
          exact ⟨g, hv.1⟩
      obtain ⟨q0, q1, f0, f1, hg1, hg2⟩ := Oi.cell ho.out.own j hjm
      have hg3 := ho.out.lt g rfl
      obtain ⟨y, hy⟩ : ∃ y, y = m[j].1 := ⟨_, rfl⟩
      obtain ⟨y', hy'⟩ : ∃ y, y = m[j].2 := ⟨_, rfl⟩
      rw [← hy] at q0
      rw [← hy'] at q1
      have HM := hide hml
      clear hy hy' hml
      have q1' : (wr.setCell ⟨g, j * 2, none⟩ (.int .i64 (k + 2 * (j : Int)))).cell? ⟨g, j * 2 + 1, none⟩ = some (.int .i64 y') := by
        rw [World.cell?_setCell_other _ _ _ _ (by simp)]; exact q1
      have f1' : (wr.setCell ⟨g, j * 2, none⟩ (.int .i64 (k + 2 * (j : Int)))).frozen? ⟨g, j * 2 + 1, none⟩ = false := by simpa using f1
      go_wp2_with fail
      go_roundw
      case rel =>
        refine ⟨j + 1, m.set j (k + 2 * j, k + 2 * j + 1), by omega, by go_num, by go_num, ?_, ?_, ?_⟩
        · show _ = _
          rw [hmm.out, ← mkP_get k ps.length j hlt]
          exact set_step _ _ j (by rw [mkP_length]; exact hlt) hlt
        · exact ⟨Oi.put ho.out.own j _ _ hjm, ho.out.lt, ho.out.le, by simpa using ho.out.top⟩
        · exact (hw.out.trans ((Seg.setCell wr g (j * 2) _).mono hg1 (by omega))).trans ((Seg.setCell _ g (j * 2 + 1) _).mono hg1 (by omega))
      case measure => simp [intOf]; omega
    · have hje : j = ps.length := by omega
      subst hje
      have hmf : m = mkP k ps.length := by rw [hmm.out, List.take_of_length_le (by rw [mkP_length]; exact Nat.le_refl _)]; simp
      subst hmf
      go_wp2
      go_ret
      exact ⟨rfl, ho.out, hw.out⟩

set_option maxHeartbeats 2000000 in
theorem heldIs_ow (v : Value) (n : Nat) (lo hi : Nat) (k : Int) (w : World) (h : Owi w v (mkP k n) lo hi) (h0 : 0 ≤ k) (h1 : k + 2 * n ≤ 4611686018427387904) :
    Calls Try.prog 95 #[v, .int .i64 k] w fun e w' => e = .returned (.int .i64 (k + 2 * n)) ∧ w = w' := by
  have H := hide h
  obtain ⟨a, cap, rfl⟩ := h.own.form
  rw [mkP_length] at H ⊢
  clear h
  go_enter Try.func95, Try.ntmps95
  go_wp2
  go_loopw [1, 5] (fun x i wr => ∃ (j : Nat), j ≤ n ∧ i = .int .i64 j ∧ x = .int .i64 (k + 2 * j) ∧ w = wr) (fun _ i _ => n - (intOf i).toNat)
  case atStart => exact ⟨0, by omega, rfl, by simp, rfl⟩
  case round =>
    obtain ⟨j, hj, rfl, rfl, rfl⟩ := hrel
    by_cases hlt : j < n
    · obtain ⟨g, rfl⟩ : ∃ g, a = some ⟨g, 0, none⟩ := by
        rcases H.out.own.2 with ⟨hv, hn⟩ | ⟨g, cap', cur, hv, _⟩
        · rw [mkP_length] at hn; omega
        · simp only [Value.slice.injEq] at hv
          exact ⟨g, hv.1⟩
      obtain ⟨q0, q1, -⟩ := Oi.cell H.out.own j (by rw [mkP_length]; exact hlt)
      rw [mkP_get k n j hlt] at q0 q1
      simp only at q0 q1
      have t1 : (k + 2 * (j : Int) != k + 2 * (j : Int)) = false := by simp
      have t2 : (k + 2 * (j : Int) + 1 != k + 2 * (j : Int) + 1) = false := by simp
      go_wp2_with fail
      go_roundw
      case rel => exact ⟨j + 1, by omega, by go_num, by go_num, trivial⟩
      case measure => simp [intOf]; omega
    · have hje : j = n := by omega
      subst hje
      go_wp2
      go_ret
      exact ⟨rfl, rfl⟩

theorem Owi.on {w w' : World} {v : Value} {ps : List Pv} {lo hi : Nat} (h : Owi w v ps lo hi) (hs : w.heap.size ≤ w'.heap.size) (k : ∀ b, lo ≤ b → b < hi → b < w.heap.size → w'.heap[b]? = w.heap[b]?) : Owi w' v ps lo hi :=
  ⟨owns_eq h.own fun g hg => k g (World.ownsRow.lt h.own g hg).1 (h.lt g hg) (World.ownsRow.lt h.own g hg).2, h.lt, h.le, Nat.le_trans h.top hs⟩

end Go.Proofs.Ytajfhalalnlejaa
