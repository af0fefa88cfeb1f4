/- Slices of integers: read only (Ints: all in blocks below B), owned by the call (Is); the laws' toIntS, eqIntS, szIntS. -/
import Derived.Test.YtepkkeclkdlheaaKit
import Derived.ProofKit
import Derived.OpenShut
import Derived.Deep.QuietTactic
import Derived.BigQuiet
namespace Go.Proofs.Ytepkkeclkdlheaa
open Go.RowKit Go.ChangeShapes
set_option linter.unusedSimpArgs false
set_option linter.unusedVariables false
set_option maxRecDepth 100000

theorem infoI : (Try.prog.info? 3).map (fun i => (i.zero, i.size, i.bytes)) = some (some (.int .i64 0), 1, 8) := by kernel_rfl

/-- An int of Go. -/
def I64 (x : Int) : Prop := -9223372036854775808 ≤ x ∧ x ≤ 9223372036854775807

/-- v is a slice that reads as l; its cells lie below block B. -/
def Ints (w : World) (B : Nat) (v : Value) (l : List Int) : Prop :=
  ∃ a cap, v = .slice a l.length cap ∧ l.length ≤ 9223372036854775807 ∧ (∀ x ∈ l, I64 x) ∧ ∀ j (h : j < l.length), ∃ b o, a = some ⟨b, o, none⟩ ∧ b < B ∧ w.cell? ⟨b, o + j, none⟩ = some (.int .i64 l[j])

theorem Ints.below {w w' : World} {B C : Nat} {v : Value} {l : List Int} (h : Ints w B v l) (hb : Below C w w') (hC : B ≤ C) : Ints w' B v l := by
  obtain ⟨a, cap, e, h1, h2, h3⟩ := h
  refine ⟨a, cap, e, h1, h2, fun j hj => ?_⟩
  obtain ⟨b, o, e2, hB, hc⟩ := h3 j hj
  exact ⟨b, o, e2, hB, by rw [hb.cell (p := ⟨b, o + j, none⟩) (Nat.lt_of_lt_of_le hB hC)]; exact hc⟩

theorem Ints.mono {w : World} {B C : Nat} {v : Value} {l : List Int} (h : Ints w B v l) (hC : B ≤ C) : Ints w C v l := by
  obtain ⟨a, cap, e, h1, h2, h3⟩ := h
  refine ⟨a, cap, e, h1, h2, fun j hj => ?_⟩
  obtain ⟨b, o, e2, hB, hc⟩ := h3 j hj
  exact ⟨b, o, e2, Nat.lt_of_lt_of_le hB hC, hc⟩

theorem Ints.up {w w' : World} {v : Value} {l : List Int} (h : Ints w w.heap.size v l) (hb : Below w.heap.size w w') : Ints w' w'.heap.size v l := (h.below hb (Nat.le_refl _)).mono hb.size

def intVs (l : List Int) : List Value := l.map (Value.int .i64)
/-- v owns the integers l in a block of the call's own. -/
def Is (w : World) (base : Nat) (e : TypeId) (v : Value) (l : List Int) : Prop := w.ownsRow base e 1 v l.length (intVs l)

theorem Is.ints {w : World} {base B : Nat} {e : TypeId} {v : Value} {l : List Int} (h : Is w base e v l) (hB : w.heap.size ≤ B) (hl : l.length ≤ 9223372036854775807) (hw : ∀ x ∈ l, I64 x) : Ints w B v l := by
  rcases h.2 with ⟨hv, hn⟩ | ⟨g, cap, cur, hv, hb, hg, hnc, hcm, hcs, htake⟩
  · have : l = [] := List.eq_nil_of_length_eq_zero hn
    subst this; subst hv
    exact ⟨_, _, rfl, by simp, hw, fun j hj => by simp at hj⟩
  · subst hv
    refine ⟨_, _, rfl, hl, hw, fun j hj => ⟨g, 0, rfl, Nat.lt_of_lt_of_le (Array.getElem?_eq_some_iff.1 hg).1 hB, ?_⟩⟩
    rw [Nat.zero_add, cell_of_row w g j cur e (0, 0) hg]
    have h2 : (cur.toList.take (l.length * 1))[j]? = (intVs l)[j]? := by rw [htake]
    rw [List.getElem?_take, if_pos (by omega)] at h2
    simp only [Array.getElem?_toList] at h2
    rw [h2]
    simp [intVs, hj]

theorem Is.below {w w' : World} {base : Nat} {e : TypeId} {v : Value} {l : List Int} (h : Is w base e v l) (hb : Below w.heap.size w w') : Is w' base e v l := by
  refine ⟨h.1, ?_⟩
  rcases h.2 with h2 | ⟨g, cap, cur, hv, hg, hh, r⟩
  · exact .inl h2
  · exact .inr ⟨g, cap, cur, hv, hg, by rw [hb.block g (Array.getElem?_eq_some_iff.1 hh).1]; exact hh, r⟩

/-- make([]int, n). -/
theorem is_make {P : Program} (W : World) {ops : Array Oper} {rest : List Oper} {o : Oper} {a : Act} {Q : Exit → Act → World → Prop} (hgd : o.guard = none) (x y : Operand) (t : TypeId)
    (ho : o.op = Op.makeSlice t x y) (base : Nat) (e : TypeId) (ht : P.underlying t = some (.slice e)) (hinf : (P.info? e).map (fun i => (i.zero, i.size, i.bytes)) = some (some (.int .i64 0), 1, 8))
    (n : Nat) (L C : Int) (hx : a.eval x = .int .i64 L) (hy : a.eval y = .int .i64 C) (hL : L = (n : Int)) (hC : C = (n : Int)) (hn : n ≤ 1099511627776) (hbase : base ≤ W.heap.size)
    (h : ∀ w', Is w' base e (.slice (some ⟨W.heap.size, 0, none⟩) n n) (List.replicate n 0) → Below base W w' → W.heap.size < w'.heap.size → wpList P ops Q rest (a.put o.dst (.slice (some ⟨W.heap.size, 0, none⟩) n n)) w') :
    wpList P ops Q (o :: rest) a W := by
  obtain ⟨i0, hi, hz0, hz1, hz2⟩ := info_parts hinf
  refine wpList_make_full W hgd x y t ho base e i0 (.int .i64 0) 1 ht hi hz0 hz1 .i64 .i64 L C n hx hy hL hC (by rw [hz2]; omega) (by unfold maxLen; omega) hbase ?_
  intro w' hown hgrow
  refine h w' ?_ ((Below.refl base W).grown hgrow hbase (fun k hk => by cases hk)) ?_
  · unfold Is
    have e1 : (madeCells (Value.int .i64 0).cells (n * 1)).toList = intVs (List.replicate n 0) := by
      simp [madeCells, intVs, Value.cells]
      rw [List.eq_replicate_iff]
      simp [Nat.mod_one]
    rw [← e1, List.length_replicate]
    exact hown
  · exact (World.ownsRow.lt hown W.heap.size (by simp [Value.ownBlock])).2

theorem Is.cell {w : World} {base : Nat} {e : TypeId} {g n cap : Nat} {l : List Int} (h : Is w base e (.slice (some ⟨g, 0, none⟩) n cap) l) (j : Nat) (hj : j < l.length) :
    w.cell? ⟨g, j, none⟩ = some (.int .i64 l[j]) ∧ w.frozen? ⟨g, j, none⟩ = false ∧ base ≤ g ∧ g < w.heap.size ∧ n = l.length := by
  rcases h.2 with ⟨h', _⟩ | ⟨g', cap', cur, h', hb, hg, _, _, _, htake⟩
  · simp at h'
  · have h'' := h'
    simp only [Value.slice.injEq, Option.some.injEq, Addr.mk.injEq, and_true, true_and] at h''
    obtain ⟨rfl, rfl, rfl⟩ := h''
    have h3 : w.ownsRow base e 1 (.slice (some ⟨g, 0, none⟩) l.length cap) l.length (intVs l) := h
    refine ⟨?_, World.ownsRow.frozenAt h3 j, hb, (Array.getElem?_eq_some_iff.1 hg).1, rfl⟩
    rw [World.ownsRow.cellAt h3 j (by omega)]
    simp [intVs, hj]

theorem Is.store {w : World} {base : Nat} {e : TypeId} {g n cap : Nat} {l : List Int} (h : Is w base e (.slice (some ⟨g, 0, none⟩) n cap) l) (hl : n = l.length) (j : Nat) (x : Int) :
    Is (w.setCell ⟨g, j, none⟩ (.int .i64 x)) base e (.slice (some ⟨g, 0, none⟩) n cap) (l.set j x) := by
  subst hl
  have h3 : w.ownsRow base e 1 (.slice (some ⟨g, 0, none⟩) l.length cap) l.length (intVs l) := h
  have h4 := (World.ownsRow.stored h3 j (.int .i64 x)).1
  have e1 : (intVs l).set j (.int .i64 x) = intVs (l.set j x) := by simp [intVs, List.map_set]
  rw [e1] at h4
  unfold Is
  rw [List.length_set]
  exact h4

/-- A new slice that reads as l is returned; nothing that was there has turned. -/
def RetInts (w : World) (l : List Int) (e : Ending) (w' : World) : Prop := ∃ v, e = .returned v ∧ Ints w' w'.heap.size v l ∧ Below w.heap.size w w'

/-- A new slice of the call's own that reads as l is returned; nothing that was there has turned. -/
def RetIs (t : TypeId) (w : World) (l : List Int) (e : Ending) (w' : World) : Prop := ∃ v, e = .returned v ∧ Is w' w.heap.size t v l ∧ Below w.heap.size w w'

theorem Is.lower {w : World} {base B : Nat} {e : TypeId} {v : Value} {l : List Int} (h : Is w base e v l) (hb : B ≤ base) : Is w B e v l := by
  refine ⟨h.1, ?_⟩
  rcases h.2 with h2 | ⟨g, cap, cur, hv, hg, r⟩
  · exact .inl h2
  · exact .inr ⟨g, cap, cur, hv, Nat.le_trans hb hg, r⟩

theorem take_set (l m : List Int) (k : Nat) (hk : k < l.length) (hm : m = l.take k ++ List.replicate (l.length - k) 0) : m.set k l[k] = l.take (k + 1) ++ List.replicate (l.length - (k + 1)) 0 := by
  subst hm
  rw [List.set_append_right _ _ (by simp; omega)]
  have e : (List.replicate (l.length - k) (0 : Int)).set (k - (l.take k).length) l[k] = l[k] :: List.replicate (l.length - (k + 1)) 0 := by
    rw [show k - (l.take k).length = 0 by simp; omega, show l.length - k = (l.length - (k + 1)) + 1 by omega, List.replicate_succ]
    rfl
  rw [e, List.take_succ_eq_append_getElem hk, List.append_assoc, List.singleton_append]

set_option maxHeartbeats 1000000 in
theorem toIntS_own (v : Value) (l : List Int) (w : World) (B : Nat) (hv : Ints w B v l) (hB : B ≤ w.heap.size) (hl : l.length ≤ 1048576) :
    Calls Try.prog 16 #[v] w (RetIs 3 w l) := by
  obtain ⟨a, cap, rfl, hlen, hwf, hcell⟩ := hv
  have HC := hide hcell
  have HW := hide hwf
  clear hcell hwf
  go_enter Try.func16, Try.ntmps16
  go_wp2_with (first | (at_make; refine is_make _ rfl _ _ 22 rfl w.heap.size 3 Try.underlying22 infoI l.length _ _ rfl rfl rfl rfl (by omega) (Nat.le_refl _) ?_; intro w1 hown1 hb1 hs1))
  go_loopw [4] (fun i wr => ∃ (k : Nat) (m : List Int), k ≤ l.length ∧ i = .int .i64 k ∧ Hid (m = l.take k ++ List.replicate (l.length - k) 0) ∧ Is wr w.heap.size 3 (.slice (some ⟨w.heap.size, 0, none⟩) l.length l.length) m ∧ Below w.heap.size w wr) (fun i _ => l.length - (intOf i).toNat)
  case atStart => exact ⟨0, _, by omega, rfl, by simp [Hid], hown1, hb1⟩
  case round =>
    clear hown1 hb1
    obtain ⟨k, m, hk, rfl, hm, hown, hb⟩ := hrel
    have hml : m.length = l.length := by rw [hm.out]; simp; omega
    have HML := hide hml
    clear hml
    by_cases hlt : k < l.length
    · obtain ⟨b, o, rfl, hbB, hc⟩ := HC.out k hlt
      obtain ⟨x, hx⟩ : ∃ x, x = l[k] := ⟨_, rfl⟩
      rw [← hx] at hc
      have HX := hide hx
      clear hx
      have hc2 : wr.cell? ⟨b, o + k, none⟩ = some (.int .i64 x) := by rw [hb.cell (p := ⟨b, o + k, none⟩) (Nat.lt_of_lt_of_le hbB hB)]; exact hc
      obtain ⟨hc0, hf, hg1, hg2, -⟩ := hown.cell k (by rw [HML.out]; exact hlt)
      clear hc
      go_wp2
      go_roundw
      case rel =>
        refine ⟨k + 1, m.set k x, by omega, by go_num, ?_, hown.store HML.out.symm k x, hb.setCell (Nat.le_refl _) _⟩
        show _ = _
        rw [HX.out]
        exact take_set l m k hlt hm.out
      case measure => simp [intOf]; omega
    · have hke : k = l.length := by omega
      subst hke
      have hml2 : m = l := by rw [hm.out]; simp
      subst hml2
      go_wp2
      go_ret
      exact ⟨_, rfl, hown, hb⟩

theorem toIntS_any (v : Value) (l : List Int) (w : World) (B : Nat) (hv : Ints w B v l) (hB : B ≤ w.heap.size) (hl : l.length ≤ 1048576) :
    Calls Try.prog 16 #[v] w (RetInts w l) := by
  refine (toIntS_own v l w B hv hB hl).mono ?_
  rintro e w' ⟨x, rfl, hown, hb⟩
  obtain ⟨a, cap, rfl, hlen, hwf, hcell⟩ := hv
  exact ⟨_, rfl, hown.ints (Nat.le_refl _) hlen hwf, hb⟩

/-- A truth is returned; nothing that was there has turned. -/
def RetB1 (w : World) (b : Bool) (e : Ending) (w' : World) : Prop := e = .returned (.bool b) ∧ Below w.heap.size w w'

/-- A law of two slices: do they read alike? -/
theorem take_eq_step {l m : List Int} {k : Nat} (h : l.take k = m.take k) (hl : k < l.length) (hm : k < m.length) (he : l[k] = m[k]) : l.take (k + 1) = m.take (k + 1) := by
  rw [List.take_succ_eq_append_getElem hl, List.take_succ_eq_append_getElem hm, h, he]

set_option maxHeartbeats 1000000 in
theorem eqIntS_any (v u : Value) (l m : List Int) (w : World) (B : Nat) (hv : Ints w B v l) (hu : Ints w B u m) :
    Calls Try.prog 19 #[v, u] w (RetB1 w (decide (l = m))) := by
  obtain ⟨a, cap, rfl, hlen, hwf, hcell⟩ := hv
  obtain ⟨c, cap2, rfl, hlen2, hwf2, hcell2⟩ := hu
  have HC := hide hcell
  have HC2 := hide hcell2
  clear hcell hcell2 hwf hwf2
  by_cases hne : l.length = m.length
  · have hd : ((l.length : Int) != (m.length : Int)) = false := by rw [bne_eq_false_iff_eq]; omega
    obtain ⟨b0, hb0⟩ : ∃ b0, b0 = decide (l = m) := ⟨_, rfl⟩
    have HN := hide hne
    have HB := hide hb0
    rw [← hb0]
    clear hne hb0
    go_enter Try.func19, Try.ntmps19
    go_wp2
    go_loopw [5] (fun i wr => ∃ (k q : Nat), k ≤ l.length ∧ i = .int .i64 k ∧ Hid (l.take k = m.take k) ∧ wr = w.drewN q) (fun i _ => l.length - (intOf i).toNat)
    case atStart => exact ⟨0, 0, by omega, rfl, rfl, rfl⟩
    case round =>
      obtain ⟨k, q, hk, rfl, hpre, rfl⟩ := hrel
      by_cases hlt : k < l.length
      · have hlt2 : k < m.length := by have := HN.out; omega
        obtain ⟨b, o, rfl, hbB, hc⟩ := HC.out k hlt
        obtain ⟨b2, o2, rfl, hbB2, hc2⟩ := HC2.out k hlt2
        obtain ⟨x, hx⟩ : ∃ x, x = l[k] := ⟨_, rfl⟩
        obtain ⟨y, hy⟩ : ∃ y, y = m[k] := ⟨_, rfl⟩
        rw [← hx] at hc
        rw [← hy] at hc2
        have HX := hide hx
        have HY := hide hy
        clear hx hy
        by_cases hxy : x = y
        · have ht : (x != y) = false := by rw [bne_eq_false_iff_eq]; exact hxy
          have HE := hide hxy
          clear hxy
          go_wp2
          go_quiet (fail)
          go_wp2
          go_roundw
          case rel => exact ⟨k + 1, q + nq, by omega, by go_num, take_eq_step hpre.out hlt hlt2 (by rw [← HX.out, ← HY.out]; exact HE.out), rfl⟩
          case measure => simp [intOf]; omega
        · have ht : (x != y) = true := by rw [bne_iff_ne]; exact hxy
          have HE := hide hxy
          clear hxy
          go_wp2
          go_quiet (fail)
          go_wp2
          go_ret
          refine ⟨?_, below_drewN (below_drewN (Below.refl _ _) _) _⟩
          rw [HB.out, decide_eq_false (fun hh => HE.out (by rw [HX.out, HY.out]; subst hh; rfl))]
          rfl
      · have hke : k = l.length := by omega
        subst hke
        have hlm : b0 = true := by
          rw [HB.out]
          have h1 := hpre.out
          rw [List.take_of_length_le (Nat.le_refl _), List.take_of_length_le (by have := HN.out; omega)] at h1
          simp [h1]
        have HLM := hide hlm
        clear hlm
        go_wp2
        go_ret
        exact ⟨by rw [HLM.out]; rfl, below_drewN (Below.refl _ _) _⟩
  · have hd : ((l.length : Int) != (m.length : Int)) = true := by rw [bne_iff_ne]; omega
    have hb0 := hide (show decide (l = m) = false from decide_eq_false (fun hh => hne (by rw [hh])))
    clear hne
    go_enter Try.func19, Try.ntmps19
    go_wp2
    go_ret
    exact ⟨by rw [hb0.out]; rfl, Below.refl _ _⟩

/-- A number is returned; nothing that was there has turned. -/
def RetI1 (w : World) (x : Int) (e : Ending) (w' : World) : Prop := e = .returned (.int .i64 x) ∧ Below w.heap.size w w'

/-- How much is left. -/
def szI (l : List Int) (left : Int) : Int := if left - l.length < 0 then -1 else left - l.length

theorem szIntS_any (v : Value) (l : List Int) (left : Int) (w : World) (B : Nat) (hv : Ints w B v l) (h1 : -1 ≤ left) (h2 : left ≤ 1048576) :
    Calls Try.prog 79 #[v, .int .i64 left] w fun e w' => e = .returned (.int .i64 (szI l left)) ∧ w = w' := by
  obtain ⟨a, cap, rfl, hlen, hwf, hcell⟩ := hv
  clear hcell hwf
  by_cases h : left - l.length < 0
  · have hv := hide (show szI l left = -1 by unfold szI; rw [if_pos h])
    go_enter Try.func79, Try.ntmps79
    go_wp2
    go_ret
    exact ⟨by rw [hv.out]; rfl, rfl⟩
  · have hv := hide (show szI l left = left - l.length by unfold szI; rw [if_neg h])
    go_enter Try.func79, Try.ntmps79
    go_wp2
    go_ret
    exact ⟨by rw [hv.out]; rfl, rfl⟩

/-- AreValues. -/
def areVals (l : List Int) : Bool := decide (l.length ≤ 64) && l.all fun x => decide (-999 ≤ x) && decide (x ≤ 999)

theorem open_intS {H : Type} {enc : TypeId × Value → H} {W : World} {base : Nat} {v : Value} {d : DataW H} {p : List MemPlace} (hv : Value.okWide Try.prog W .any base 22 v) (h : DataW.Trod enc Try.prog W 0 (fun _ => true) true 22 v d p) : ∃ l, Ints W W.heap.size v l := by
  obtain ⟨a, len, cap, rfl⟩ := WideShapes.okWide_slice Try.underlying22 hv
  obtain ⟨fuel, hf⟩ := h
  rcases open_ints Try.underlying22 Try.underlying3 (by kernel_rfl) hf with ⟨hcs, _⟩ | ⟨x, l, c, zs, hcs, _, hl, hm, hz, _, hcell, hwz⟩
  · simp [Value.cells] at hcs
    obtain ⟨rfl, rfl, rfl⟩ := hcs
    exact ⟨[], _, _, rfl, by simp, by simp, fun j hj => by simp at hj⟩
  · simp [Value.cells] at hcs
    obtain ⟨rfl, rfl, rfl⟩ := hcs
    have hz' : zs.length = cap := by simpa using hz
    have htl : (zs.take len).length = len := by simp; omega
    refine ⟨zs.take len, some x, cap, by rw [htl], by unfold maxLen at hm; omega, ?_, ?_⟩
    · intro y hy
      have := bounds_i64 (hwz y (List.mem_of_mem_take hy))
      exact ⟨by omega, by omega⟩
    · intro j hj
      have hj2 : j < len := by omega
      obtain ⟨b, off, spot⟩ := x
      have hspot : spot = none := by simpa [Addr.add] using World.cell?_spot (hcell 0 (by omega))
      subst hspot
      have hc := hcell j (by omega)
      rw [Addr.add_lit] at hc
      refine ⟨b, off, rfl, World.block_lt_of_cell? _ _ hc, ?_⟩
      rw [hc, List.getElem_take, List.getD_eq_getElem?_getD, List.getElem?_eq_getElem (by omega)]
      rfl

end Go.Proofs.Ytepkkeclkdlheaa
