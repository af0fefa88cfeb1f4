/- What FormatTable of the program returns (promise 2). -/
import Derived.Test.YtgeegbbcjdlkbaaGreatDoorFmtS
import Derived.Test.YtgeegbbcjdlkbaaGreatDoorTblI
import Derived.Test.YtgeegbbcjdlkbaaGreatDoorBld
import Derived.Outline
namespace Go.Proofs.YtgeegbbcjdlkbaaGreatDoor
open Go.RowKit Go.ChangeShapes
set_option linter.unusedSimpArgs false
set_option linter.unusedVariables false
set_option maxRecDepth 100000

theorem infoStr : (Tryz.prog.info? 9).map (fun i => (i.zero, i.size, i.bytes)) = some (some (.string ⟨#[]⟩), 1, 16) := by kernel_rfl

/-- v owns the strings ls in a row of the call's own. -/
def Ss (w : World) (base : Nat) (e : TypeId) (v : Value) (ls : List ByteArray) : Prop := w.ownsRow base e 1 v ls.length (ls.map Value.string)

theorem Ss.below {w w' : World} {base : Nat} {e : TypeId} {v : Value} {ls : List ByteArray} (h : Ss w base e v ls) (hb : Below w.heap.size w w') : Ss w' base e v ls := owns_below h hb

theorem Ss.cell {w : World} {base : Nat} {e : TypeId} {g n cap : Nat} {l : List ByteArray} (h : Ss w base e (.slice (some ⟨g, 0, none⟩) n cap) l) (j : Nat) (hj : j < l.length) :
    w.cell? ⟨g, j, none⟩ = some (.string l[j]) ∧ w.frozen? ⟨g, j, none⟩ = false ∧ base ≤ g ∧ g < w.heap.size ∧ n = l.length ∧ n ≤ cap := by
  rcases h.2 with ⟨h', _⟩ | ⟨g', cap', cur, h', hb, hg, hnc, _, _, htake⟩
  · simp at h'
  · have h'' := h'
    simp only [Value.slice.injEq, Option.some.injEq, Addr.mk.injEq, and_true, true_and] at h''
    obtain ⟨rfl, rfl, rfl⟩ := h''
    have h3 : w.ownsRow base e 1 (.slice (some ⟨g, 0, none⟩) l.length cap) l.length (l.map Value.string) := h
    refine ⟨?_, World.ownsRow.frozenAt h3 j, hb, (Array.getElem?_eq_some_iff.1 hg).1, rfl, hnc⟩
    rw [World.ownsRow.cellAt h3 j (by omega)]
    simp [hj]

theorem Ss.store {w : World} {base : Nat} {e : TypeId} {g n cap : Nat} {l : List ByteArray} (h : Ss w base e (.slice (some ⟨g, 0, none⟩) n cap) l) (hl : n = l.length) (j : Nat) (x : ByteArray) :
    Ss (w.setCell ⟨g, j, none⟩ (.string x)) base e (.slice (some ⟨g, 0, none⟩) n cap) (l.set j x) := by
  subst hl
  have h3 : w.ownsRow base e 1 (.slice (some ⟨g, 0, none⟩) l.length cap) l.length (l.map Value.string) := h
  have h4 := (World.ownsRow.stored h3 j (.string x)).1
  rw [← List.map_set] at h4
  unfold Ss
  rw [List.length_set]
  exact h4

/-- make([]string, n). -/
theorem ss_make {P : Program} (W : World) {ops : Array Oper} {rest : List Oper} {o : Oper} {a : Act} {Q : Exit → Act → World → Prop} (hgd : o.guard = none) (x y : Operand) (t : TypeId)
    (ho : o.op = Op.makeSlice t x y) (base : Nat) (e : TypeId) (ht : P.underlying t = some (.slice e)) (hinf : (P.info? e).map (fun i => (i.zero, i.size, i.bytes)) = some (some (.string ⟨#[]⟩), 1, 16))
    (n : Nat) (L C : Int) (hx : a.eval x = .int .i64 L) (hy : a.eval y = .int .i64 C) (hL : L = (n : Int)) (hC : C = (n : Int)) (hn : n ≤ 1099511627776) (hbase : base ≤ W.heap.size)
    (h : ∀ w', Ss w' base e (.slice (some ⟨W.heap.size, 0, none⟩) n n) (List.replicate n ⟨#[]⟩) → Below W.heap.size W w' → W.heap.size < w'.heap.size → wpList P ops Q rest (a.put o.dst (.slice (some ⟨W.heap.size, 0, none⟩) n n)) w') :
    wpList P ops Q (o :: rest) a W := by
  obtain ⟨i0, hi, hz0, hz1, hz2⟩ := info_parts hinf
  refine wpList_make_full W hgd x y t ho base e i0 (.string ⟨#[]⟩) 1 ht hi hz0 hz1 .i64 .i64 L C n hx hy hL hC (by rw [hz2]; omega) (by unfold maxLen; omega) hbase ?_
  intro w' hown hgrow
  refine h w' ?_ ((Below.refl _ W).grown hgrow (Nat.le_refl _) (fun k hk => by cases hk)) ?_
  · unfold Ss
    have e1 : (madeCells (Value.string ⟨#[]⟩).cells (n * 1)).toList = (List.replicate n (⟨#[]⟩ : ByteArray)).map Value.string := by
      simp [madeCells, Value.cells]
      rw [List.eq_replicate_iff]
      simp [Nat.mod_one]
    rw [← e1, List.length_replicate]
    exact hown
  · exact (World.ownsRow.lt hown W.heap.size (by simp [Value.ownBlock])).2

theorem take_setG {α : Type} (z : α) (l m : List α) (k : Nat) (hk : k < l.length) (hm : m = l.take k ++ List.replicate (l.length - k) z) : m.set k l[k] = l.take (k + 1) ++ List.replicate (l.length - (k + 1)) z := by
  subst hm
  rw [List.set_append_right _ _ (by simp; omega)]
  have e : (List.replicate (l.length - k) z).set (k - (l.take k).length) l[k] = l[k] :: List.replicate (l.length - (k + 1)) z := by
    rw [show k - (l.take k).length = 0 by simp; omega, show l.length - k = (l.length - (k + 1)) + 1 by omega, List.replicate_succ]
    rfl
  rw [e, List.take_succ_eq_append_getElem hk, List.append_assoc, List.singleton_append]

/-- Words as strings. -/
def wB (ws : List (List UInt8)) : List ByteArray := ws.map fun l => ⟨l.toArray⟩

theorem wB_length (ws : List (List UInt8)) : (wB ws).length = ws.length := by simp [wB]

theorem wB_get (ws : List (List UInt8)) (j : Nat) (h : j < ws.length) : (wB ws)[j]'(by rw [wB_length]; exact h) = ⟨ws[j].toArray⟩ := by simp [wB]

theorem wB_data (ws : List (List UInt8)) : (wB ws).map (·.data.toList) = ws := by simp [wB, List.map_map, Function.comp_def]

set_option maxHeartbeats 1000000 in
theorem formatLine_any (v : Value) (ws : List (List UInt8)) (base : Nat) (w : World) (h : Ss w base 9 v (wB ws)) (h0 : 0 < ws.length) (h1 : ws.length ≤ 4) (hw : ∀ x ∈ ws, x.length ≤ 21) :
    Calls Tryz.prog 32 #[v] w (RetS w (lineW ws)) := by
  have hjl := join_take_len ws hw ws.length (Nat.le_refl _)
  rw [List.take_of_length_le (Nat.le_refl _)] at hjl
  obtain ⟨g, cap, rfl⟩ : ∃ g cap, v = .slice (some ⟨g, 0, none⟩) (wB ws).length cap := by
    rcases h.2 with ⟨_, hn⟩ | ⟨g, cap, cur, hv, _⟩
    · rw [wB_length] at hn; omega
    · exact ⟨g, cap, hv⟩
  have hc0 := h.cell 0 (by rw [wB_length]; exact h0)
  have hJ := Tryz.strings_Join g 0 cap (wB ws) ⟨#[32]⟩ w (by
      intro j x hx
      obtain ⟨hj, rfl⟩ := List.getElem?_eq_some_iff.1 hx
      rw [Nat.zero_add]
      exact (h.cell j hj).1) hc0.2.2.2.1 (by rw [wB_length]; omega) hc0.2.2.2.2.2 (by rw [wB_data]; show (Lib.join ws [32]).length ≤ _; omega)
  rw [wB_data] at hJ
  have HJ := hide hJ
  have hlen : (Lib.join ws [32]).length ≤ 88 := by omega
  have hjoin : (Lib.join ws (ByteArray.mk #[32]).data.toList) = Lib.join ws [32] := rfl
  rw [hjoin] at HJ
  obtain ⟨jl, hjl2⟩ : ∃ jl, jl = Lib.join ws [32] := ⟨_, rfl⟩
  rw [← hjl2] at HJ hlen
  have HL := hide (show lineW ws = jl ++ [10] by unfold lineW; rw [← hjl2])
  clear hJ hc0 h hjoin hjl2 hjl hw
  go_enter Tryz.func32, Tryz.ntmps32
  go_wp2_with fail
  go_at_call 56
  refine HJ.out.mono ?_
  rintro e w2 ⟨rfl, hb2⟩
  go_wp2_with fail
  go_ret
  refine ⟨?_, hb2⟩
  rw [HL.out]
  exact congrArg (fun x => Ending.returned (.string x)) (str_app jl [10])

/-- A slice of strings of the call's own is returned; nothing that was there has turned. -/
def RetSs (w : World) (ls : List ByteArray) (e : Ending) (w' : World) : Prop := ∃ v, e = .returned v ∧ Ss w' w.heap.size 9 v ls ∧ Below w.heap.size w w'

theorem cellAt_up {W W' : World} {p : Addr} {x : Value} (h : W.cell? p = some x) (hp : p.block < W.heap.size) (hb : Below W.heap.size W W') : W'.cell? p = some x := by rw [hb.cell hp]; exact h

set_option maxHeartbeats 4000000 in
theorem words_any (a : Option Addr) (cap : Nat) (cs : List Col) (q : Nat) (w : World) (B : Nat) (hv : Tbl w B (.agg #[.slice a cs.length cap]) cs) (hB : B ≤ w.heap.size) (ht : isT cs = true) (hq : q < rowsN cs) (hT : Tab w) :
    Calls Tryz.prog 33 #[.agg #[.slice a cs.length cap, .int .i64 q]] w (RetSs w (wB (fmtW cs (q + 1)))) := by
  obtain ⟨hc1, hc4⟩ := isT_len ht
  obtain ⟨hr64, hrows0⟩ := isT_rows ht
  have HROWS := hide hrows0
  have hv2 := hv
  obtain ⟨u, he, hu⟩ := hv2
  obtain ⟨rfl⟩ : Value.slice a cs.length cap = u := by simpa using he
  obtain ⟨a', cap', he', hlen, hcell⟩ := hu
  obtain ⟨rfl, rfl⟩ : a = a' ∧ cap = cap' := by simpa using he'
  have HC := hide hcell
  have HTab := hide hT
  obtain ⟨R, hR⟩ : ∃ R, R = rowsN cs := ⟨_, rfl⟩
  rw [← hR] at hr64 HROWS hq
  clear hcell he he' hv ht hrows0 hT hR
  have hb1 := (Below.refl w.heap.size w).alloc (Nat.le_refl _) (.cells #[.slice a cs.length cap, .int .i64 q] 68)
  have HB1 := hide hb1
  have X0 := hide (show (w.alloc (.cells #[.slice a cs.length cap, .int .i64 q] 68)).cell? ⟨w.heap.size, 0, none⟩ = some (.slice a cs.length cap) from cell_new w _ _ 0)
  have X1 := hide (show (w.alloc (.cells #[.slice a cs.length cap, .int .i64 q] 68)).cell? ⟨w.heap.size, 1, none⟩ = some (.int .i64 q) from cell_new w _ _ 1)
  have hsz1 := alloc_size w (.cells #[.slice a cs.length cap, .int .i64 q] 68)
  have HSZ1 := hide hsz1
  clear hb1 hsz1
  go_enter Tryz.func33, Tryz.ntmps33
  go_wp2_with (first | (at_make; refine ss_make _ rfl _ _ 56 rfl (w.heap.size + 1) 9 Tryz.underlying56 infoStr cs.length _ _ rfl rfl rfl rfl (by omega) (by simp) ?_; intro w2 hown2 hb2 hs2; have t2 := cellAt_up X0.out (show w.heap.size < _ by rw [HSZ1.out]; omega) hb2))
  obtain ⟨w1, hw1⟩ : ∃ w1, w1 = w.alloc (.cells #[.slice a cs.length cap, .int .i64 q] 68) := ⟨_, rfl⟩
  rw [← hw1] at HB1 X0 X1 HSZ1 hb2 hs2 hown2
  obtain ⟨g, hg⟩ : ∃ g, g = w.heap.size + 1 := ⟨_, rfl⟩
  rw [HSZ1.out, ← hg] at hown2 hs2
  try rw [← hg]
  have HG := hide hg
  clear hw1 t2 hg
  go_loopw [15] (fun i wr => ∃ (k : Nat) (m : List ByteArray), k ≤ cs.length ∧ i = .int .i64 k ∧ Hid (m = (wB (fmtW cs (q + 1))).take k ++ List.replicate (cs.length - k) ⟨#[]⟩) ∧ Hid (Ss wr g 9 (.slice (some ⟨g, 0, none⟩) cs.length cs.length) m) ∧ Hid (Below w1.heap.size w1 wr) ∧ Hid (g < wr.heap.size)) (fun i _ => cs.length - (intOf i).toNat)
  case atStart => exact ⟨0, _, by omega, rfl, by show _ = _; simp, hown2, hb2, hs2⟩
  case round =>
    clear hown2 hb2 hs2
    obtain ⟨k, m, hk, rfl, hm, hown, hb, hgs⟩ := hrel
    have hml : m.length = cs.length := by rw [hm.out]; simp [wB_length, fmtW_length]; omega
    by_cases hlt : k < cs.length
    · obtain ⟨b, o, u, rfl, hbB, hc, hc2, hn, hint⟩ := HC.out k hlt
      obtain ⟨p, hp⟩ : ∃ p, p = cs[k] := ⟨_, rfl⟩
      have hrow := HROWS.out k hlt
      rw [← hp] at hc hn hint hrow
      obtain ⟨n, ls⟩ := p
      simp only at hc hn hint hrow
      have hbw := HB1.out.trans (hb.out.mono (by rw [HSZ1.out]; omega))
      have d1 : wr.cell? ⟨b, o + k * 2, none⟩ = some (.string n) := by rw [hbw.cell (p := ⟨b, o + k * 2, none⟩) (Nat.lt_of_lt_of_le hbB hB)]; exact hc
      have d2 : wr.cell? ⟨b, o + k * 2 + 1, none⟩ = some u := by rw [hbw.cell (p := ⟨b, o + k * 2 + 1, none⟩) (Nat.lt_of_lt_of_le hbB hB)]; exact hc2
      have e1 := hint.below hbw hB
      have hqr : q < ls.length := by omega
      obtain ⟨a3, c3, rfl, hl3, hwf3, hcell3⟩ := e1
      obtain ⟨b3, o3, rfl, hb3, hc3⟩ := hcell3 q hqr
      obtain ⟨x, hx⟩ : ∃ x, x = ls[q] := ⟨_, rfl⟩
      have hwfx := hwf3 _ (List.getElem_mem hqr)
      rw [← hx] at hwfx hc3
      obtain ⟨hx1, hx2⟩ := hwfx
      have HX := hide hx
      have HP := hide hp
      have x0 : wr.cell? ⟨w.heap.size, 1, none⟩ = some (.int .i64 q) := by rw [hb.out.cell (p := ⟨w.heap.size, 1, none⟩) (by show w.heap.size < _; rw [HSZ1.out]; omega)]; exact X1.out
      have HTW := hide (HTab.out.stays hbw (Nat.le_refl _))
      -- the cells in the world in which the column is boxed
      have hbx := (Below.refl wr.heap.size wr).alloc (Nat.le_refl _) (.cells #[.string n, .slice (some ⟨b3, o3, none⟩) ls.length c3] 58)
      have HBX := hide hbx
      have HTX := hide (HTW.out.stays hbx (Nat.le_refl _))
      have y0 := cellAt_up x0 (show w.heap.size < _ by have := hgs.out; have := HG.out; omega) hbx
      have y1 := cellAt_up hc3 (show b3 < _ from Nat.lt_of_lt_of_le hb3 (Nat.le_trans hB hbw.size)) hbx
      obtain ⟨hcg, hfg, -, -, -, -⟩ := hown.out.cell k (by omega)
      have hqR : (q : Int) < (ls.length : Int) := by omega
      have HML := hide hml
      clear hml hc hc2 hint hcell3 hwf3 hrow hx hp hbx hbw hcg hfg
      go_wp2_with fail
      go_at_call 42
      refine (iFI_any x _ hx1 hx2 HTX.out).mono ?_
      rintro e w5 ⟨rfl, hb5⟩
      have O5 := hide ((hown.out.below HBX.out).below hb5)
      obtain ⟨hcg, hfg, -, hgs5, -, -⟩ := O5.out.cell k (by have := HML.out; omega)
      have B5 := hide ((hb.out.trans (HBX.out.mono hb.out.size)).trans (hb5.mono (Nat.le_trans hb.out.size HBX.out.size)))
      clear hb5 y0 y1 d1 d2 x0 hc3
      go_wp2_with fail
      go_roundw
      case rel =>
        refine ⟨k + 1, m.set k ⟨(Lib.itoa x).toArray⟩, by omega, by go_num, ?_, O5.out.store HML.out.symm k _, B5.out.setCell (p := ⟨g, k, none⟩) (show w1.heap.size ≤ g by rw [HSZ1.out, HG.out]; exact Nat.le_refl _) _, ?_⟩
        · show _ = _
          have hlw : (wB (fmtW cs (q + 1))).length = cs.length := by rw [wB_length, fmtW_length]
          have hkw : k < (wB (fmtW cs (q + 1))).length := by omega
          have hlen2 : q < cs[k].2.length := by rw [← HP.out]; omega
          have ex : (wB (fmtW cs (q + 1)))[k] = ⟨(Lib.itoa x).toArray⟩ := by
            rw [wB_get _ k (by rw [fmtW_length]; exact hlt), fmtW_row cs q k hlt hlen2]
            have hxx : cs[k].2[q] = x := by rw [HX.out]; simp only [← HP.out]
            rw [hxx]
          have := take_setG (⟨#[]⟩ : ByteArray) (wB (fmtW cs (q + 1))) m k hkw (by rw [hm.out, hlw])
          rw [ex, hlw] at this
          exact this
        · show g < _
          simpa [World.setCell] using hgs5
      case measure => simp [intOf]; omega
    · have hke : k = cs.length := by omega
      subst hke
      have hmf : m = wB (fmtW cs (q + 1)) := by
        rw [hm.out, List.take_of_length_le (by rw [wB_length, fmtW_length]; exact Nat.le_refl _)]
        simp
      have hbw := hide (HB1.out.trans (hb.out.mono (by rw [HSZ1.out]; omega)))
      have HO := hown
      rw [hmf] at HO
      have hlw : cs.length = (wB (fmtW cs (q + 1))).length := by rw [wB_length, fmtW_length]
      have HO2 : Hid (Ss wr w.heap.size 9 (.slice (some ⟨g, 0, none⟩) cs.length cs.length) (wB (fmtW cs (q + 1)))) := by
        have h := HO.out
        refine ⟨h.1, ?_⟩
        rcases h.2 with h2 | ⟨g', cap', cur, hv', hg', r⟩
        · exact .inl h2
        · exact .inr ⟨g', cap', cur, hv', by have := HG.out; omega, r⟩
      clear hml hmf hlw
      go_wp2_with fail
      go_ret
      exact ⟨_, rfl, HO2.out, hbw.out⟩

/-- Nothing that the builder holds has turned. -/
theorem Bld.up {B b : Nat} {l : List UInt8} {w w' : World} (h : Bld B b l w) (hb : Below w.heap.size w w') : Bld B b l w' := by
  have key : ∀ p, Lib.BuilderAt 61 5 B b p (Lib.byteCells l) w → Lib.BuilderAt 61 5 B b p (Lib.byteCells l) w' := by
    rintro p ⟨hB, v, hbk, hown, hne⟩
    have hlt : b < w.heap.size := (Array.getElem?_eq_some_iff.1 hbk).1
    exact ⟨hB, v, by rw [hb.block b hlt]; exact hbk, owns_below hown hb, hne⟩
  exact h.elim (fun h => .inl (key _ h)) (fun h => .inr (key _ h))

theorem Bld.new (w : World) : Bld w.heap.size w.heap.size [] (w.alloc (.cells #[.pointer none, .slice none 0 0] 61)) :=
  .inl ⟨Nat.le_refl _, .slice none 0 0, heap_alloc_new w _, World.ownsRow_nil _ _ _ _, by simp [Value.ownBlock]⟩

theorem Bld.lt {B b : Nat} {l : List UInt8} {w : World} (h : Bld B b l w) : b < w.heap.size := h.elim Lib.BuilderAt.lt Lib.BuilderAt.lt

end Go.Proofs.YtgeegbbcjdlkbaaGreatDoor
