/- Slices of pivots: read only (Pvs), owned by the call (Op); the laws' toPivot.., eqPivot.., szPivotS. -/
import Derived.Test.YtepkkeclkdlheaaCkM
import Derived.Test.YtepkkeclkdlheaaOwn
import Derived.Test.YtepkkeclkdlheaaRng
import Derived.Deep.SlicePairs
namespace Go.Proofs.Ytepkkeclkdlheaa
open Go.RowKit Go.ChangeShapes
set_option linter.unusedSimpArgs false
set_option linter.unusedVariables false
set_option maxRecDepth 100000

theorem infoP : (Try.prog.info? 147).map (fun i => (i.zero, i.size, i.bytes)) = some (some (.agg #[.int .i64 0, .int .i64 0]), 2, 16) := by kernel_rfl

/-- v is a slice of pivots that reads as ps; its cells lie below block B. -/
def Pvs (w : World) (B : Nat) (v : Value) (ps : List Pv) : Prop :=
  ∃ a cap, v = .slice a ps.length cap ∧ ps.length ≤ 9223372036854775807 ∧ (∀ p ∈ ps, I64 p.1 ∧ I64 p.2) ∧ ∀ j (h : j < ps.length), ∃ b o, a = some ⟨b, o, none⟩ ∧ b < B ∧ w.cell? ⟨b, o + j * 2, none⟩ = some (.int .i64 ps[j].1) ∧ w.cell? ⟨b, o + j * 2 + 1, none⟩ = some (.int .i64 ps[j].2)

theorem Pvs.below {w w' : World} {B C : Nat} {v : Value} {ps : List Pv} (h : Pvs w B v ps) (hb : Below C w w') (hC : B ≤ C) : Pvs w' B v ps := by
  obtain ⟨a, cap, e, h1, h2, h3⟩ := h
  refine ⟨a, cap, e, h1, h2, fun j hj => ?_⟩
  obtain ⟨b, o, e2, hB, hc, hc2⟩ := h3 j hj
  exact ⟨b, o, e2, hB, by rw [hb.cell (p := ⟨b, o + j * 2, none⟩) (Nat.lt_of_lt_of_le hB hC)]; exact hc, by rw [hb.cell (p := ⟨b, o + j * 2 + 1, none⟩) (Nat.lt_of_lt_of_le hB hC)]; exact hc2⟩

theorem Pvs.mono {w : World} {B C : Nat} {v : Value} {ps : List Pv} (h : Pvs w B v ps) (hC : B ≤ C) : Pvs w C v ps := by
  obtain ⟨a, cap, e, h1, h2, h3⟩ := h
  refine ⟨a, cap, e, h1, h2, fun j hj => ?_⟩
  obtain ⟨b, o, e2, hB, hc⟩ := h3 j hj
  exact ⟨b, o, e2, Nat.lt_of_lt_of_le hB hC, hc⟩

theorem Pvs.up {w w' : World} {v : Value} {ps : List Pv} (h : Pvs w w.heap.size v ps) (hb : Below w.heap.size w w') : Pvs w' w'.heap.size v ps := (h.below hb (Nat.le_refl _)).mono hb.size

/-- The cells of pivots. -/
def pvVs : List Pv → List Value
  | [] => []
  | p :: ps => .int .i64 p.1 :: .int .i64 p.2 :: pvVs ps

theorem pvVs_length : ∀ ps : List Pv, (pvVs ps).length = ps.length * 2
  | [] => rfl
  | p :: ps => by simp [pvVs, pvVs_length ps]; omega

theorem pvVs_append : ∀ a b : List Pv, pvVs (a ++ b) = pvVs a ++ pvVs b
  | [], b => rfl
  | p :: ps, b => by simp [pvVs, pvVs_append ps b]

theorem pvVs_get0 : ∀ (ps : List Pv) (j : Nat) (h : j < ps.length), (pvVs ps)[j * 2]? = some (.int .i64 ps[j].1)
  | p :: ps, 0, _ => by simp [pvVs]
  | p :: ps, j + 1, h => by
    have := pvVs_get0 ps j (by simpa using h)
    rw [show (j + 1) * 2 = j * 2 + 1 + 1 by omega]
    simpa [pvVs] using this

theorem pvVs_get1 : ∀ (ps : List Pv) (j : Nat) (h : j < ps.length), (pvVs ps)[j * 2 + 1]? = some (.int .i64 ps[j].2)
  | p :: ps, 0, _ => by simp [pvVs]
  | p :: ps, j + 1, h => by
    have := pvVs_get1 ps j (by simpa using h)
    rw [show (j + 1) * 2 + 1 = j * 2 + 1 + 1 + 1 by omega]
    simpa [pvVs] using this

theorem pvVs_set0 : ∀ (ps : List Pv) (j : Nat) (x : Int) (h : j < ps.length), (pvVs ps).set (j * 2) (.int .i64 x) = pvVs (ps.set j (x, ps[j].2))
  | p :: ps, 0, x, _ => by simp [pvVs]
  | p :: ps, j + 1, x, h => by
    have := pvVs_set0 ps j x (by simpa using h)
    rw [show (j + 1) * 2 = j * 2 + 1 + 1 by omega]
    simpa [pvVs] using this

theorem pvVs_set1 : ∀ (ps : List Pv) (j : Nat) (x : Int) (h : j < ps.length), (pvVs ps).set (j * 2 + 1) (.int .i64 x) = pvVs (ps.set j (ps[j].1, x))
  | p :: ps, 0, x, _ => by simp [pvVs]
  | p :: ps, j + 1, x, h => by
    have := pvVs_set1 ps j x (by simpa using h)
    rw [show (j + 1) * 2 + 1 = j * 2 + 1 + 1 + 1 by omega]
    simpa [pvVs] using this

theorem pvVs_put (ps : List Pv) (j : Nat) (x y : Int) (h : j < ps.length) : ((pvVs ps).set (j * 2) (.int .i64 x)).set (j * 2 + 1) (.int .i64 y) = pvVs (ps.set j (x, y)) := by
  rw [pvVs_set0 ps j x h, pvVs_set1 _ j y (by simpa using h)]
  simp

/-- v owns the pivots ps in a block of the call's own. -/
def Op (w : World) (base : Nat) (v : Value) (ps : List Pv) : Prop := w.ownsRow base 147 2 v ps.length (pvVs ps)

theorem Op.below {w w' : World} {base : Nat} {v : Value} {ps : List Pv} (h : Op w base v ps) (hb : Below w.heap.size w w') : Op w' base v ps :=
  owns_eq h fun g hg => hb.block g (World.ownsRow.lt h g hg).2

theorem Op.lower {w : World} {base B : Nat} {v : Value} {ps : List Pv} (h : Op w base v ps) (hb : B ≤ base) : Op w B v ps := by
  refine ⟨h.1, ?_⟩
  rcases h.2 with h2 | ⟨g, cap, cur, hv, hg, r⟩
  · exact .inl h2
  · exact .inr ⟨g, cap, cur, hv, Nat.le_trans hb hg, r⟩

theorem Op.form {w : World} {base : Nat} {v : Value} {ps : List Pv} (h : Op w base v ps) : ∃ a cap, v = .slice a ps.length cap := by
  rcases h.2 with ⟨hv, hn⟩ | ⟨g, cap, cur, hv, _⟩
  · exact ⟨none, 0, by rw [hv, hn]⟩
  · exact ⟨_, _, hv⟩

theorem Op.cell {w : World} {base : Nat} {g n cap : Nat} {ps : List Pv} (h : Op w base (.slice (some ⟨g, 0, none⟩) n cap) ps) (j : Nat) (hj : j < ps.length) :
    w.cell? ⟨g, j * 2, none⟩ = some (.int .i64 ps[j].1) ∧ w.cell? ⟨g, j * 2 + 1, none⟩ = some (.int .i64 ps[j].2) ∧ w.frozen? ⟨g, j * 2, none⟩ = false ∧ w.frozen? ⟨g, j * 2 + 1, none⟩ = false ∧ base ≤ g ∧ g < w.heap.size := by
  have hlt := World.ownsRow.lt h g (by simp [Value.ownBlock])
  rcases h.2 with ⟨h', _⟩ | ⟨g', cap', cur, h', hb, hg, _, _, _, htake⟩
  · simp at h'
  · have h'' := h'
    simp only [Value.slice.injEq, Option.some.injEq, Addr.mk.injEq, and_true, true_and] at h''
    obtain ⟨rfl, rfl, rfl⟩ := h''
    have h3 : w.ownsRow base 147 2 (.slice (some ⟨g, 0, none⟩) ps.length cap) ps.length (pvVs ps) := h
    refine ⟨?_, ?_, World.ownsRow.frozenAt h3 _, World.ownsRow.frozenAt h3 _, hlt.1, hlt.2⟩
    · rw [World.ownsRow.cellAt h3 (j * 2) (by omega)]; exact pvVs_get0 ps j hj
    · rw [World.ownsRow.cellAt h3 (j * 2 + 1) (by omega)]; exact pvVs_get1 ps j hj

theorem Op.pvs {w : World} {base B : Nat} {v : Value} {ps : List Pv} (h : Op w base v ps) (hB : w.heap.size ≤ B) (hl : ps.length ≤ 9223372036854775807) (hw : ∀ p ∈ ps, I64 p.1 ∧ I64 p.2) : Pvs w B v ps := by
  rcases h.2 with ⟨hv, hn⟩ | ⟨g, cap, cur, hv, _⟩
  · have : ps = [] := List.eq_nil_of_length_eq_zero hn
    subst this; subst hv
    exact ⟨_, _, rfl, by simp, hw, fun j hj => by simp at hj⟩
  · subst hv
    refine ⟨_, _, rfl, hl, hw, fun j hj => ?_⟩
    obtain ⟨c0, c1, _, _, _, hlt⟩ := Op.cell h j hj
    exact ⟨g, 0, rfl, Nat.lt_of_lt_of_le hlt hB, by rw [Nat.zero_add]; exact c0, by rw [Nat.zero_add]; exact c1⟩

/-- A pivot is put. -/
theorem Op.put {w : World} {base : Nat} {g n cap : Nat} {ps : List Pv} (h : Op w base (.slice (some ⟨g, 0, none⟩) n cap) ps) (j : Nat) (x y : Int) (hj : j < ps.length) :
    Op ((w.setCell ⟨g, j * 2, none⟩ (.int .i64 x)).setCell ⟨g, j * 2 + 1, none⟩ (.int .i64 y)) base (.slice (some ⟨g, 0, none⟩) n cap) (ps.set j (x, y)) := by
  obtain rfl : n = ps.length := by
    obtain ⟨a, c, hv⟩ := h.form
    simp only [Value.slice.injEq] at hv
    exact hv.2.1
  have h' : w.ownsRow base 147 2 (.slice (some ⟨g, 0, none⟩) ps.length cap) ps.length (pvVs ps) := h
  have s1 := (World.ownsRow.stored h' (j * 2) (.int .i64 x)).1
  have s2 := (World.ownsRow.stored s1 (j * 2 + 1) (.int .i64 y)).1
  rw [pvVs_put ps j x y hj] at s2
  unfold Op
  rw [List.length_set]
  exact s2

/-- A pivot is returned; nothing that was there has turned. -/
def RetPv (w : World) (x y : Int) (e : Ending) (w' : World) : Prop := e = .returned (.agg #[.int .i64 x, .int .i64 y]) ∧ Below w.heap.size w w'

theorem toPivot_any (x y : Int) (w : World) : Calls Try.prog 152 #[.agg #[.int .i64 x, .int .i64 y]] w (RetPv w x y) := by
  go_enter Try.func152, Try.ntmps152
  go_wp2
  exact bodyPost_ret (v := .agg #[.int .i64 x, .int .i64 y]) (by simp [results, Try.results152, go_sem]) rfl ⟨rfl, below3 _ _ _ _⟩

theorem eqPivot_same (x y : Int) (w : World) : Calls Try.prog 160 #[.agg #[.int .i64 x, .int .i64 y], .agg #[.int .i64 x, .int .i64 y]] w (RetB1 w true) := by
  have h1 : (x != x) = false := by simp
  have h2 : (y != y) = false := by simp
  go_enter Try.func160, Try.ntmps160
  go_wp2
  go_ret
  exact ⟨rfl, below2 _ _ _⟩

theorem szPivotS_any (v : Value) (ps : List Pv) (left : Int) (w : World) (B : Nat) (hv : Pvs w B v ps) (h1 : -1 ≤ left) (h2 : left ≤ 1048576) :
    Calls Try.prog 92 #[v, .int .i64 left] w fun e w' => e = .returned (.int .i64 (if left - ps.length < 0 then -1 else left - ps.length)) ∧ w = w' := by
  obtain ⟨a, cap, rfl, hlen, hwf, hcell⟩ := hv
  clear hcell hwf
  by_cases h : left - ps.length < 0
  · rw [if_pos h]
    go_enter Try.func92, Try.ntmps92
    go_wp2
    go_ret
    exact ⟨rfl, rfl⟩
  · rw [if_neg h]
    go_enter Try.func92, Try.ntmps92
    go_wp2
    go_ret
    exact ⟨rfl, rfl⟩

/-- New pivots of the call's own are returned; nothing that was there has turned. -/
def RetPs (w : World) (ps : List Pv) (e : Ending) (w' : World) : Prop := ∃ v, e = .returned v ∧ Op w' w.heap.size v ps ∧ Below w.heap.size w w'

theorem take_setP (l m : List Pv) (k : Nat) (hk : k < l.length) (hm : m = l.take k ++ List.replicate (l.length - k) (0, 0)) : m.set k l[k] = l.take (k + 1) ++ List.replicate (l.length - (k + 1)) (0, 0) := by
  subst hm
  rw [List.set_append_right _ _ (by simp; omega)]
  have e : (List.replicate (l.length - k) ((0, 0) : Pv)).set (k - (l.take k).length) l[k] = l[k] :: List.replicate (l.length - (k + 1)) (0, 0) := by
    rw [show k - (l.take k).length = 0 by simp; omega, show l.length - k = (l.length - (k + 1)) + 1 by omega, List.replicate_succ]
    rfl
  rw [e, List.take_succ_eq_append_getElem hk, List.append_assoc, List.singleton_append]

theorem pvVs_zeros : ∀ n : Nat, pvVs (List.replicate n (0, 0)) = List.replicate (n * 2) (.int .i64 0)
  | 0 => rfl
  | n + 1 => by
    rw [List.replicate_succ, pvVs, pvVs_zeros n, show (n + 1) * 2 = n * 2 + 1 + 1 by omega, List.replicate_succ, List.replicate_succ]

/-- make([]Pivot, n). -/
theorem op_make (W : World) {ops : Array Oper} {rest : List Oper} {o : Oper} {a : Act} {Q : Exit → Act → World → Prop} (hgd : o.guard = none) (x y : Operand)
    (ho : o.op = Go.Op.makeSlice 23 x y) (base : Nat)
    (n : Nat) (L C : Int) (hx : a.eval x = .int .i64 L) (hy : a.eval y = .int .i64 C) (hL : L = (n : Int)) (hC : C = (n : Int)) (hn : n ≤ 1099511627776) (hbase : base ≤ W.heap.size)
    (h : ∀ w', Op w' base (.slice (some ⟨W.heap.size, 0, none⟩) n n) (List.replicate n (0, 0)) → Below base W w' → W.heap.size < w'.heap.size → wpList Try.prog ops Q rest (a.put o.dst (.slice (some ⟨W.heap.size, 0, none⟩) n n)) w') :
    wpList Try.prog ops Q (o :: rest) a W := by
  obtain ⟨i0, hi, hz0, hz1, hz2⟩ := info_parts infoP
  refine wpList_make_full W hgd x y 23 ho base 147 i0 _ 2 Try.underlying23 hi hz0 hz1 .i64 .i64 L C n hx hy hL hC (by rw [hz2]; omega) (by unfold maxLen; omega) hbase ?_
  intro w' hown hgrow
  refine h w' ?_ ((Below.refl base W).grown hgrow hbase (fun k hk => by cases hk)) ?_
  · unfold Op
    have e1 : (madeCells (Value.agg #[.int .i64 0, .int .i64 0]).cells (n * 2)).toList = pvVs (List.replicate n (0, 0)) := by
      rw [pvVs_zeros]
      simp [madeCells, Value.cells]
      rw [List.eq_replicate_iff]
      refine ⟨by simp, fun b hb => ?_⟩
      simp at hb
      obtain ⟨i, hi, rfl⟩ := hb
      have : i % 2 = 0 ∨ i % 2 = 1 := by omega
      rcases this with h | h <;> simp [h]
    rw [← e1, List.length_replicate]
    exact hown
  · exact (World.ownsRow.lt hown W.heap.size (by simp [Value.ownBlock])).2

set_option maxHeartbeats 1000000 in
theorem toPivotS_own (v : Value) (ps : List Pv) (w : World) (B : Nat) (hv : Pvs w B v ps) (hB : B ≤ w.heap.size) (hl : ps.length ≤ 1048576) :
    Calls Try.prog 101 #[v] w (RetPs w ps) := by
  obtain ⟨a, cap, rfl, hlen, hwf, hcell⟩ := hv
  have HC := hide hcell
  clear hcell hwf
  go_enter Try.func101, Try.ntmps101
  go_wp2_with (first | (at_make; refine op_make _ rfl _ _ rfl w.heap.size ps.length _ _ rfl rfl rfl rfl (by omega) (Nat.le_refl _) ?_; intro w1 hown1 hb1 hs1))
  go_loopw [4] (fun i wr => ∃ (k : Nat) (m : List Pv), k ≤ ps.length ∧ i = .int .i64 k ∧ Hid (m = ps.take k ++ List.replicate (ps.length - k) (0, 0)) ∧ Hid (Op wr w.heap.size (.slice (some ⟨w.heap.size, 0, none⟩) ps.length ps.length) m) ∧ Below w.heap.size w wr) (fun i _ => ps.length - (intOf i).toNat)
  case atStart => exact ⟨0, _, by omega, rfl, by simp [Hid], hown1, hb1⟩
  case round =>
    clear hown1 hb1
    obtain ⟨k, m, hk, rfl, hm, hown, hb⟩ := hrel
    have HML := hide (show m.length = ps.length by rw [hm.out]; simp; omega)
    by_cases hlt : k < ps.length
    · obtain ⟨b, o, rfl, hbB, hc, hc2⟩ := HC.out k hlt
      obtain ⟨p, hp⟩ : ∃ p, p = ps[k] := ⟨_, rfl⟩
      rw [← hp] at hc hc2
      obtain ⟨x, y⟩ := p
      simp only at hc hc2
      have HP := hide hp
      have d1 : wr.cell? ⟨b, o + k * 2, none⟩ = some (.int .i64 x) := by rw [hb.cell (p := ⟨b, o + k * 2, none⟩) (Nat.lt_of_lt_of_le hbB hB)]; exact hc
      have d2 : wr.cell? ⟨b, o + k * 2 + 1, none⟩ = some (.int .i64 y) := by rw [hb.cell (p := ⟨b, o + k * 2 + 1, none⟩) (Nat.lt_of_lt_of_le hbB hB)]; exact hc2
      clear hc hc2 hp
      go_wp2_with fail
      go_at_call 152
      refine (toPivot_any x y _).mono ?_
      rintro e wa ⟨rfl, hba⟩
      have hown2 := hide (hown.out.below hba)
      obtain ⟨c0, c1, f0, f1, -, hg⟩ := Op.cell hown2.out k (by rw [HML.out]; exact hlt)
      have hbb := hide (hb.trans (hba.mono hb.size))
      clear hba d1 d2
      go_wp2_with fail
      go_roundw
      case rel =>
        refine ⟨k + 1, m.set k (x, y), by omega, by go_num, ?_, Op.put hown2.out k x y (by rw [HML.out]; exact hlt), (hbb.out.setCell (p := ⟨w.heap.size, k * 2, none⟩) (Nat.le_refl _) _).setCell (p := ⟨w.heap.size, k * 2 + 1, none⟩) (Nat.le_refl _) _⟩
        show _ = _
        rw [HP.out]
        exact take_setP ps m k hlt hm.out
      case measure => simp [intOf]; omega
    · have hke : k = ps.length := by omega
      subst hke
      have hml2 : m = ps := by rw [hm.out]; simp
      subst hml2
      go_wp2
      go_ret
      exact ⟨_, rfl, hown.out, hb⟩

/-- Pivots of two slices that read alike. -/
theorem eqPivotS_same (v u : Value) (ps : List Pv) (w : World) (B : Nat) (hv : Pvs w B v ps) (hu : Pvs w B u ps) (hB : B ≤ w.heap.size) :
    Calls Try.prog 109 #[v, u] w (RetB1 w true) := by
  obtain ⟨a, cap, rfl, hlen, -, hcell⟩ := hv
  obtain ⟨c, cap2, rfl, -, -, hcell2⟩ := hu
  have HC := hide hcell
  have HC2 := hide hcell2
  clear hcell hcell2
  have hd : ((ps.length : Int) != (ps.length : Int)) = false := by simp
  go_enter Try.func109, Try.ntmps109
  go_wp2
  go_loopw [5] (fun i wr => ∃ (k : Nat), k ≤ ps.length ∧ i = .int .i64 k ∧ Below w.heap.size w wr) (fun i _ => ps.length - (intOf i).toNat)
  case atStart => exact ⟨0, by omega, rfl, Below.refl _ _⟩
  case round =>
    obtain ⟨k, hk, rfl, hb⟩ := hrel
    by_cases hlt : k < ps.length
    · obtain ⟨b, o, rfl, hbB, hc, hc'⟩ := HC.out k hlt
      obtain ⟨b2, o2, rfl, hbB2, hc2, hc2'⟩ := HC2.out k hlt
      obtain ⟨p, hp⟩ : ∃ p, p = ps[k] := ⟨_, rfl⟩
      rw [← hp] at hc hc' hc2 hc2'
      obtain ⟨x, y⟩ := p
      simp only at hc hc' hc2 hc2'
      have d1 : wr.cell? ⟨b, o + k * 2, none⟩ = some (.int .i64 x) := by rw [hb.cell (p := ⟨b, o + k * 2, none⟩) (Nat.lt_of_lt_of_le hbB hB)]; exact hc
      have d2 : wr.cell? ⟨b, o + k * 2 + 1, none⟩ = some (.int .i64 y) := by rw [hb.cell (p := ⟨b, o + k * 2 + 1, none⟩) (Nat.lt_of_lt_of_le hbB hB)]; exact hc'
      have d3 : wr.cell? ⟨b2, o2 + k * 2, none⟩ = some (.int .i64 x) := by rw [hb.cell (p := ⟨b2, o2 + k * 2, none⟩) (Nat.lt_of_lt_of_le hbB2 hB)]; exact hc2
      have d4 : wr.cell? ⟨b2, o2 + k * 2 + 1, none⟩ = some (.int .i64 y) := by rw [hb.cell (p := ⟨b2, o2 + k * 2 + 1, none⟩) (Nat.lt_of_lt_of_le hbB2 hB)]; exact hc2'
      have HBB := hide hb
      clear hc hc' hc2 hc2' hp hb
      go_wp2_with fail
      go_region_with (go_at_call 160; refine (eqPivot_same x y _).mono ?_; rintro e wa ⟨rfl, hba⟩)
      all_goals go_wp2_with fail
      all_goals go_roundw
      all_goals first
        | exact ⟨k + 1, by omega, by go_num, (HBB.out.drew).trans (hba.mono HBB.out.drew.size)⟩
        | (simp [intOf]; omega)
    · have hke : k = ps.length := by omega
      subst hke
      go_wp2
      go_ret
      exact ⟨rfl, hb⟩

theorem pvs_in {H : Type} {enc : TypeId × Value → H} {W : World} {fuel : Nat} {v : Value} {x : DataW H × List MemPlace} (hf : DataW.trod enc Try.prog W 0 (fun _ => true) true fuel 34 [v] = some x) : ∃ ps, Pvs W W.heap.size v ps ∧ ∃ a n c, v = .slice a n c ∧ n ≤ c ∧ (a = none → c = 0) := by
  rcases Go.Deep.open_slice_pairs Try.underlying34 Try.underlying169 (by kernel_rfl) rfl rfl (by kernel_rfl) (by kernel_rfl) hf with ⟨hcs, _⟩ | ⟨a, len, cap, m, n, V0, V1, D0, D1, P0, P1, hcs, _, hl, hm, hmm, _, hall⟩
  · simp at hcs
    subst hcs
    exact ⟨[], ⟨_, _, rfl, by simp, by simp, fun j hj => by simp at hj⟩, _, _, _, rfl, Nat.le_refl _, fun _ => rfl⟩
  · simp at hcs
    subst hcs
    have hmc : m = cap := by simpa using hmm
    have each : ∀ i, ∃ c : Pv, i < len → V0 i = .int .i64 c.1 ∧ V1 i = .int .i64 c.2 ∧ I64 c.1 ∧ I64 c.2 := by
      intro i
      by_cases hi : i < len
      · obtain ⟨_, _, t0, t1⟩ := hall i (by omega)
        obtain ⟨f, hf, _, wf⟩ := DataW.trod_int Try.underlying3 t0
        obtain ⟨t, ht, _, wt⟩ := DataW.trod_int Try.underlying3 t1
        simp at hf ht
        have b0 := bounds_i64 wf
        have b1 := bounds_i64 wt
        exact ⟨(f, t), fun _ => ⟨hf, ht, ⟨by omega, by omega⟩, ⟨by omega, by omega⟩⟩⟩
      · exact ⟨(0, 0), fun h => absurd h hi⟩
    obtain ⟨f, hfc⟩ := Classical.axiomOfChoice each
    have hlen : ((List.range len).map f).length = len := by simp
    refine ⟨(List.range len).map f, ⟨some a, cap, by rw [hlen], by unfold maxLen at hm; omega, ?_, ?_⟩, _, _, _, rfl, hl, fun h => by cases h⟩
    · intro p hp
      obtain ⟨i, hi, rfl⟩ := List.mem_map.1 hp
      exact ⟨(hfc i (List.mem_range.1 hi)).2.2.1, (hfc i (List.mem_range.1 hi)).2.2.2⟩
    intro j hj
    have hj2 : j < len := by omega
    obtain ⟨q1, q2, q3, q4⟩ := hfc j hj2
    obtain ⟨b, off, spot⟩ := a
    obtain ⟨k0, k1, _, _⟩ := hall j (by omega)
    have hspot : spot = none := by simpa [Addr.add] using World.cell?_spot (hall 0 (by omega)).1
    subst hspot
    rw [Addr.add_lit] at k0 k1
    have hb := World.block_lt_of_cell? _ _ k0
    rw [q1] at k0
    rw [q2] at k1
    refine ⟨b, off, rfl, hb, ?_, ?_⟩
    · rw [k0]; simp
    · rw [Nat.add_assoc]; rw [k1]; simp

end Go.Proofs.Ytepkkeclkdlheaa
