/- What NewCracker returns: of the reference and of the program (promise 3). -/
import Derived.Test.YtepkkeclkdlheaaCkO
import Derived.Test.YtepkkeclkdlheaaNameI
import Derived.Lib.SliceRun
import Derived.Laws.AppendOwnNone
namespace Go.Proofs.Ytepkkeclkdlheaa
open Go.RowKit Go.ChangeShapes
set_option linter.unusedSimpArgs false
set_option linter.unusedVariables false
set_option maxRecDepth 100000

theorem oi_news {w : World} {e : TypeId} {g n cap : Nat} {l : List Int} {F : List Nat} (h : OI w e (.slice (some ⟨g, 0, none⟩) n cap) l F) : ∀ j u, (intVs l)[j]? = some u → w.cell? ((⟨g, 0, none⟩ : Addr).add j) = some u :=
  World.ownsRow.cells h.1 rfl

theorem intVs_cell (l : List Int) : ∀ u ∈ intVs l, u.oneCell' = true := by
  intro u hu
  simp [intVs] at hu
  obtain ⟨x, _, rfl⟩ := hu
  rfl

/-- append([]int{}, v...) of owned integers. -/
theorem is_append0c {P : Program} (W : World) {ops : Array Oper} {rest : List Oper} {o : Oper} {a : Act} {Q : Exit → Act → World → Prop} (hgd : o.guard = none) (s x : Operand) (t : TypeId)
    (ho : o.op = .call { callee := .builtin .append, args := #[s, x], argTypes := #[t, t] }) (e : TypeId) (ht : P.underlying t = some (.slice e)) (hinf : (P.info? e).map (fun i => (i.zero, i.size, i.bytes)) = some (some (.int .i64 0), 1, 8))
    (w : World) (hW : W = w.alloc (.cells #[] e)) (g0 : Nat) (hs : a.eval s = .slice (some ⟨g0, 0, none⟩) 0 0) (hg0 : g0 = w.heap.size) (v : Value) (l : List Int) (F : List Nat) (h : OI w e v l F) (hx : a.eval x = v) (hl : l.length ≤ 1048576)
    (hk : ∀ v' w', Is w' w.heap.size e v' l → Below w.heap.size w w' → wpList P ops Q rest (a.put o.dst v') w') :
    wpList P ops Q (o :: rest) a W := by
  subst hW hg0
  obtain ⟨i0, hi, hz0, hz1, hz2⟩ := info_parts hinf
  have hb1 := (Below.refl w.heap.size w).alloc (Nat.le_refl _) (.cells #[] e)
  have hm0 := World.ownsRow_made (base := w.heap.size) (size := 1) (e := e) w #[] 0 (Nat.le_refl _) (by unfold maxLen; omega) rfl
  have h2 := h.below hb1
  rcases h.1.2 with ⟨rfl, hn⟩ | ⟨g, cap, cur, rfl, -⟩
  · have hl0 : l = [] := List.eq_nil_of_length_eq_zero hn
    subst hl0
    refine wpList_append_own_none hgd s x t ho w.heap.size e i0 1 ht hi _ 0 [] hs hm0 hx ?_
    exact hk _ _ hm0 hb1
  · refine wpList_append_own _ hgd s x t ho w.heap.size e i0 (.int .i64 0) 1 8 ht hi hz0 hz1 hz2 rfl (by decide) _ 0 [] hs hm0 ⟨g, 0, none⟩ l.length cap (intVs l) hx (by simp [intVs]) (oi_news h2) (intVs_cell l) (by unfold maxLen; omega) (by omega) (by simp) ?_
    intro v' w' hown hgrow _
    rw [Nat.zero_add, List.nil_append] at hown
    exact hk v' w' hown (hb1.grown hgrow (by simp) (by intro k hk; simp [Value.ownBlock] at hk; omega))

set_option maxHeartbeats 1000000 in
theorem clone_ow (v : Value) (l : List Int) (F : List Nat) (w : World) (h : OI w 3 v l F) (hl : l.length ≤ 1048576) :
    Calls Try.prog 78 #[v] w (RetIs 3 w l) := by
  have H := hide h
  have q := fun (w : World) (a : Option Addr) (n c n' c' : Nat) => Lib.run_eql_slice_nil w _ _ a n c n' c' Try.underlying22
  rcases h.1.2 with ⟨rfl, hn⟩ | ⟨g, cap, cur, rfl, -⟩
  · have hl0 : l = [] := List.eq_nil_of_length_eq_zero hn
    subst hl0
    clear h
    go_enter Try.func78, Try.ntmps78
    go_wp2
    go_ret
    exact ⟨_, rfl, World.ownsRow_nil _ _ _ _, Below.refl _ _⟩
  · clear h
    go_enter Try.func78, Try.ntmps78
    go_wp2_with (first | (at_builtin; refine is_append0c _ rfl _ _ 22 rfl 3 Try.underlying22 infoI w rfl _ rfl rfl _ l F H.out rfl hl ?_; intro v' w' hown hb))
    go_ret
    exact ⟨_, rfl, hown, hb⟩

/-- The rows 0, 1, 2 and so on. -/
def rowsN (n : Nat) : List Int := (List.range n).map fun (j : Nat) => (j : Int)

theorem rowsN_length (n : Nat) : (rowsN n).length = n := by simp [rowsN]
theorem rowsN_succ (n : Nat) : rowsN (n + 1) = rowsN n ++ [(n : Int)] := by simp [rowsN, List.range_succ]
theorem rowsN_get (n j : Nat) (h : j < n) : (rowsN n)[j]'(by rw [rowsN_length]; exact h) = (j : Int) := by simp [rowsN]
theorem rowsN_wf (n : Nat) (h : n ≤ 1048576) : ∀ x ∈ rowsN n, I64 x := by
  intro x hx
  obtain ⟨j, hj, rfl⟩ := List.mem_map.1 hx
  have := List.mem_range.1 hj
  exact ⟨by omega, by omega⟩

/-- The values and the rows of a new column. -/
def newL (l : List Int) : List Int := if areVals l = true then l else []
def newR (l : List Int) : List Int := if areVals l = true then rowsN l.length else []

/-- A new column of the call's own is returned; nothing that was there has turned. -/
def RetOC (w : World) (l r : List Int) (ps : List Pv) (e : Ending) (w' : World) : Prop := ∃ x y z lo hi n1 h1 n2 h2 n3 h3, e = .returned (.agg #[x, y, z]) ∧ w.heap.size ≤ lo ∧ hi ≤ w'.heap.size ∧ OC w' x y z l r ps lo hi n1 h1 n2 h2 n3 h3 ∧ Below w.heap.size w w'

theorem Ow.nil {w : World} {n : Nat} (h : n ≤ w.heap.size) : Ow w (.slice none 0 0) [] n n := ⟨⟨[], ⟨World.ownsRow_nil _ _ _ _, rfl⟩, fun b hb => by simp at hb⟩, Nat.le_refl _, h⟩
theorem Owp.nil {w : World} {n : Nat} (h : n ≤ w.heap.size) : Owp w (.slice none 0 0) [] n n := ⟨World.ownsRow_nil _ _ _ _, fun g hg => by simp [Value.ownBlock] at hg, Nat.le_refl _, h⟩
theorem OC.nil {w : World} {n : Nat} (h : n ≤ w.heap.size) : OC w (.slice none 0 0) (.slice none 0 0) (.slice none 0 0) [] [] [] n n n n n n n n :=
  ⟨Ow.nil h, Ow.nil h, Owp.nil h, ⟨Nat.le_refl _, Nat.le_refl _, Nat.le_refl _⟩, ⟨Nat.le_refl _, Nat.le_refl _, Nat.le_refl _⟩, ⟨.inl (Nat.le_refl _), .inl (Nat.le_refl _), .inl (Nat.le_refl _)⟩, Nat.le_refl _, h⟩

theorem Seg.of_low {lo : Nat} {w w' : World} (h : Below lo w w') : Seg lo w'.heap.size w w' := ⟨h, fun x hx hl => by have := h.size; omega⟩

set_option maxHeartbeats 2000000 in
theorem iNew_any (v : Value) (l : List Int) (F : List Nat) (w : World) (h : OI w 3 v l F) (hw : ∀ x ∈ l, I64 x) :
    Calls Try.prog 77 #[v] w (RetOC w (newL l) (newR l) []) := by
  obtain ⟨a, cap, rfl, hlen⟩ := h.form
  have hv := h.1.ints (Nat.le_refl _) hlen hw
  have X := hide (Kn.one w #[.slice none 0 0, .slice none 0 0, .slice none 0 0] 25)
  obtain ⟨w1, hw1⟩ : ∃ w1, w1 = w.alloc (.cells #[.slice none 0 0, .slice none 0 0, .slice none 0 0] 25) := ⟨_, rfl⟩
  have hz := hide (show w1.heap.size = w.heap.size + 1 by rw [hw1]; simp)
  rw [← hw1] at X
  have HO := hide (h.below X.out.below)
  have HV := hide (hv.below X.out.below (Nat.le_refl _))
  clear h hv
  obtain ⟨t, ht⟩ : ∃ t, t = areVals l := ⟨_, rfl⟩
  have HL := hide (show newL l = if t = true then l else [] by unfold newL; rw [← ht])
  have HR := hide (show newR l = if t = true then rowsN l.length else [] by unfold newR; rw [← ht])
  have HT := hide ht
  clear ht
  go_enter Try.func77, Try.ntmps77
  go_wp2_with fail
  rw [← hw1]
  clear hw1
  go_at_call 76
  refine (iVals_same _ l _ _ HV.out).mono ?_
  rintro e wa ⟨rfl, rfl⟩
  rw [← HT.out]
  have f0 := X.out.free 0 0 rfl
  have f1 := X.out.free 0 1 rfl
  have f2 := X.out.free 0 2 rfl
  have c0 := X.out.cell 0 0 rfl rfl
  have c1 := X.out.cell 0 1 rfl rfl
  have c2 := X.out.cell 0 2 rfl rfl
  cases t
  · have hl := hide (show newL l = [] by rw [HL.out]; rfl)
    have hr := hide (show newR l = [] by rw [HR.out]; rfl)
    have Z := ((X.out.set 0 0 rfl (.slice none 0 0)).set 0 1 rfl (.slice none 0 0)).set 0 2 rfl (.slice none 0 0)
    have z0 := Z.cell 0 0 rfl rfl
    have z1 := Z.cell 0 1 rfl rfl
    have z2 := Z.cell 0 2 rfl rfl
    go_wp2_with fail
    rw [hl.out, hr.out]
    exact bodyPost_ret (v := .agg #[.slice none 0 0, .slice none 0 0, .slice none 0 0]) (by simp [results, Try.results77, go_sem, z0, z1, z2]) rfl ⟨_, _, _, w.heap.size, w.heap.size, _, _, _, _, _, _, rfl, Nat.le_refl _, Z.below.size, OC.nil Z.below.size, Z.below⟩
  · have hl := hide (show newL l = l by rw [HL.out]; rfl)
    have hr := hide (show newR l = rowsN l.length by rw [HR.out]; rfl)
    have hll := areVals_len HT.out.symm
    go_wp2_with (first | (at_make; refine is_make _ rfl _ _ 22 rfl w1.heap.size 3 Try.underlying22 infoI l.length _ _ rfl rfl rfl rfl (by omega) (Nat.le_refl _) ?_; intro w2 hown2 hb2 hs2))
    have B2 := hide hb2
    have S2 := hide hs2
    have O2 := hide hown2
    clear hb2 hs2 hown2 f0 f1 f2 c0 c1 c2
    obtain ⟨g, hg⟩ : ∃ g, g = w1.heap.size := ⟨_, rfl⟩
    rw [← hg] at B2 S2 O2 hz
    try rw [← hg]
    have HG := hide hg
    clear hg
    go_loopw [14] (fun i wr => ∃ (k : Nat) (m : List Int), k ≤ l.length ∧ i = .int .i64 k ∧ Hid (m = (rowsN l.length).take k ++ List.replicate (l.length - k) 0) ∧ Hid (Is wr g 3 (.slice (some ⟨g, 0, none⟩) l.length l.length) m) ∧ Hid (Below g w1 wr)) (fun i _ => l.length - (intOf i).toNat)
    case atStart => exact ⟨0, _, by omega, rfl, by simp [Hid], O2.out, B2.out⟩
    case round =>
      clear O2 B2
      obtain ⟨k, m, hk, rfl, hm, O, hb⟩ := hrel
      have HML := hide (show m.length = l.length by rw [hm.out]; simp [rowsN_length]; omega)
      by_cases hlt : k < l.length
      · obtain ⟨hc0, hf, hg1, hg2, -⟩ := O.out.cell k (by rw [HML.out]; exact hlt)
        go_wp2_with fail
        go_roundw
        case rel =>
          refine ⟨k + 1, m.set k k, by omega, by go_num, ?_, O.out.store HML.out.symm k k, hb.out.setCell (Nat.le_refl _) _⟩
          show _ = _
          have := take_set (rowsN l.length) m k (by rw [rowsN_length]; exact hlt) (by rw [hm.out, rowsN_length])
          rwa [rowsN_get l.length k hlt, rowsN_length] at this
        case measure => simp [intOf]; omega
      · have hke : k = l.length := by omega
        subst hke
        have hmf : m = rowsN l.length := by rw [hm.out, List.take_of_length_le (by rw [rowsN_length]; exact Nat.le_refl _)]; simp
        rw [hmf] at O
        have hb' := hide (show Below w1.heap.size w1 wr by rw [← HG.out]; exact hb.out)
        have X2 := hide (X.out.up hb'.out)
        have OV := hide (HO.out.below hb'.out)
        have OR := hide (Ow.of O.out (by have := hb'.out.size; have := HG.out; omega))
        have hgw := hide (show g ≤ wr.heap.size by have := hb'.out.size; have := HG.out; omega)
        clear hm HML hmf
        go_wp2_with fail
        go_at_call 78
        refine (clone_ow _ l F _ OV.out (by omega)).mono ?_
        rintro e w3 ⟨v3, rfl, O3, hb3⟩
        obtain ⟨g3, k3, rfl⟩ := O3.form
        have O3 := hide (Ow.of O3 hb3.size)
        have OR := hide (OR.out.below hb3)
        have X3 := hide (X2.out.up hb3)
        have hs3 := hide hb3.size
        clear hb3
        have f0 := X3.out.free 0 0 rfl
        have f1 := X3.out.free 0 1 rfl
        have f2 := X3.out.free 0 2 rfl
        have c0 : w3.cell? ⟨w.heap.size, 0, none⟩ = some (.slice none 0 0) := X3.out.cell 0 0 rfl rfl
        have c1 : w3.cell? ⟨w.heap.size, 1, none⟩ = some (.slice none 0 0) := X3.out.cell 0 1 rfl rfl
        have c2 : w3.cell? ⟨w.heap.size, 2, none⟩ = some (.slice none 0 0) := X3.out.cell 0 2 rfl rfl
        have Z := ((X3.out.set 0 0 rfl (.slice g3 l.length k3)).set 0 1 rfl (.slice (some ⟨g, 0, none⟩) l.length l.length)).set 0 2 rfl (.slice none 0 0)
        have z0 := Z.cell 0 0 rfl rfl
        have z1 := Z.cell 0 1 rfl rfl
        have z2 := Z.cell 0 2 rfl rfl
        go_wp2_with fail
        rw [hl.out, hr.out]
        have sg : Seg w.heap.size (w.heap.size + 1) w3 (((w3.setCell ⟨w.heap.size, 0, none⟩ (.slice g3 l.length k3)).setCell ⟨w.heap.size, 1, none⟩ (.slice (some ⟨g, 0, none⟩) l.length l.length)).setCell ⟨w.heap.size, 2, none⟩ (.slice none 0 0)) :=
          ((Seg.setCell w3 w.heap.size 0 _).trans (Seg.setCell _ w.heap.size 1 _)).trans (Seg.setCell _ w.heap.size 2 _)
        have q1 := hz.out
        have q2 := hgw.out
        have q3 := hs3.out
        have OV := O3.out.seg sg (.inr (by omega))
        have OR := OR.out.seg sg (.inr (by omega))
        have hs := sg.below.size
        exact bodyPost_ret (v := .agg #[.slice g3 l.length k3, .slice (some ⟨g, 0, none⟩) l.length l.length, .slice none 0 0]) (by simp [results, Try.results77, go_sem, z0, z1, z2]) rfl
          ⟨_, _, _, g, w3.heap.size, _, _, _, _, w3.heap.size, _, rfl, by omega, hs, ⟨OV, OR, Owp.nil hs, ⟨q2, Nat.le_refl _, by omega⟩, ⟨Nat.le_refl _, q3, Nat.le_refl _⟩, ⟨.inr (Nat.le_refl _), .inl (Nat.le_refl _), .inl q3⟩, by omega, hs⟩, Z.below⟩

set_option maxHeartbeats 2000000 in
theorem sNew_any (v : Value) (l : List Int) (F : List Nat) (w : World) (h : OI w 3 v l F) (hw : ∀ x ∈ l, I64 x) :
    Calls Try.prog 75 #[v] w (RetOC w (newL l) (newR l) []) := by
  obtain ⟨a, cap, rfl, hlen⟩ := h.form
  have hv := h.1.ints (Nat.le_refl _) hlen hw
  have X := hide (Kn.one w #[.slice none 0 0, .slice none 0 0, .slice none 0 0] 25)
  obtain ⟨w1, hw1⟩ : ∃ w1, w1 = w.alloc (.cells #[.slice none 0 0, .slice none 0 0, .slice none 0 0] 25) := ⟨_, rfl⟩
  have hz := hide (show w1.heap.size = w.heap.size + 1 by rw [hw1]; simp)
  rw [← hw1] at X
  have HO := hide (h.below X.out.below)
  have HV := hide (hv.below X.out.below (Nat.le_refl _))
  clear h hv
  obtain ⟨t, ht⟩ : ∃ t, t = areVals l := ⟨_, rfl⟩
  have HL := hide (show newL l = if t = true then l else [] by unfold newL; rw [← ht])
  have HR := hide (show newR l = if t = true then rowsN l.length else [] by unfold newR; rw [← ht])
  have HT := hide ht
  clear ht
  go_enter Try.func75, Try.ntmps75
  go_wp2_with fail
  rw [← hw1]
  clear hw1
  go_at_call 74
  refine (sVals_any _ l _ _ HV.out).mono ?_
  rintro e w2 ⟨rfl, hb⟩
  rw [← HT.out]
  have X := hide (X.out.up hb)
  have HO := hide (HO.out.below hb)
  have hz2 := hide hb.size
  clear hb
  have f0 := X.out.free 0 0 rfl
  have f1 := X.out.free 0 1 rfl
  have f2 := X.out.free 0 2 rfl
  have c0 : w2.cell? ⟨w.heap.size, 0, none⟩ = some (.slice none 0 0) := X.out.cell 0 0 rfl rfl
  have c1 : w2.cell? ⟨w.heap.size, 1, none⟩ = some (.slice none 0 0) := X.out.cell 0 1 rfl rfl
  have c2 : w2.cell? ⟨w.heap.size, 2, none⟩ = some (.slice none 0 0) := X.out.cell 0 2 rfl rfl
  cases t
  · have hl := hide (show newL l = [] by rw [HL.out]; rfl)
    have hr := hide (show newR l = [] by rw [HR.out]; rfl)
    have Z := ((X.out.set 0 0 rfl (.slice none 0 0)).set 0 1 rfl (.slice none 0 0)).set 0 2 rfl (.slice none 0 0)
    have z0 := Z.cell 0 0 rfl rfl
    have z1 := Z.cell 0 1 rfl rfl
    have z2 := Z.cell 0 2 rfl rfl
    go_wp2_with fail
    rw [hl.out, hr.out]
    exact bodyPost_ret (v := .agg #[.slice none 0 0, .slice none 0 0, .slice none 0 0]) (by simp [results, Try.results75, go_sem, z0, z1, z2]) rfl ⟨_, _, _, w.heap.size, w.heap.size, _, _, _, _, _, _, rfl, Nat.le_refl _, Z.below.size, OC.nil Z.below.size, Z.below⟩
  · have hl := hide (show newL l = l by rw [HL.out]; rfl)
    have hr := hide (show newR l = rowsN l.length by rw [HR.out]; rfl)
    have hll := areVals_len HT.out.symm
    clear f0 f1 f2 c0 c1 c2
    go_wp2_with (first | (at_builtin; refine is_append0c _ rfl _ _ 22 rfl 3 Try.underlying22 infoI w2 rfl _ rfl rfl _ l F HO.out rfl (by omega) ?_; intro v3 w3 hown3 hb3; obtain ⟨g3, k3, rfl⟩ := hown3.form))
    have X3 := hide (X.out.up hb3)
    have O3 := hide (Ow.of hown3 hb3.size)
    have hs3 := hide hb3.size
    have X := hide (X3.out.alloc #[.slice g3 l.length k3, .slice none 0 0, .slice none 0 0] 25)
    have O3 := hide (O3.out.below (below1 w3 (.cells #[.slice g3 l.length k3, .slice none 0 0, .slice none 0 0] 25)))
    obtain ⟨w4, hw4⟩ : ∃ w4, w4 = w3.alloc (.cells #[.slice g3 l.length k3, .slice none 0 0, .slice none 0 0] 25) := ⟨_, rfl⟩
    obtain ⟨m0, hm0⟩ : ∃ m, m = w3.heap.size := ⟨_, rfl⟩
    have hz4 := hide (show w4.heap.size = m0 + 1 by rw [hw4, hm0]; simp)
    rw [← hw4] at X O3
    rw [← hm0] at X O3
    simp only [List.nil_append, List.cons_append] at X
    have HM := hide hm0
    rw [← hw4]
    try rw [← hm0]
    clear hw4 hm0 hown3 hb3 X3
    go_loopw [4] (fun i wr => ∃ (k : Nat) (u : Value), k ≤ l.length ∧ i = .int .i64 k ∧ Hid (Is wr (m0 + 1) 3 u (rowsN k)) ∧ Hid (Kn w wr [(w.heap.size, #[.slice none 0 0, .slice none 0 0, .slice none 0 0], 25), (m0, #[.slice g3 l.length k3, u, .slice none 0 0], 25)]) ∧ Hid (Ow wr (.slice g3 l.length k3) l w2.heap.size m0) ∧ Hid (m0 + 1 ≤ wr.heap.size)) (fun i _ => l.length - (intOf i).toNat)
    case atStart => exact ⟨0, .slice none 0 0, by omega, rfl, Is.nil _ _ _, X.out, O3.out, Nat.le_of_eq hz4.out.symm⟩
    case round =>
      clear X O3
      obtain ⟨k, u, hk, rfl, O, X, OV, hsz⟩ := hrel
      obtain ⟨gu, ku, rfl⟩ := O.out.form
      rw [rowsN_length] at O X
      by_cases hlt : k < l.length
      · have d1 : wr.cell? ⟨m0, 1, none⟩ = some (.slice gu k ku) := X.out.cell 1 1 rfl rfl
        go_wp2_with (first | (at_builtin; refine is_append1 wr rfl _ _ 22 rfl (m0 + 1) 3 Try.underlying22 infoI _ _ O.out rfl _ _ rfl (by rw [rowsN_length]; omega) hsz.out ?_; intro v5 w5 hown5 hb5; obtain ⟨g5, k5, rfl⟩ := hown5.form; have X5 := hide (X.out.at' hb5 (by have := hz2.out; have := hz.out; have := hs3.out; have := HM.out; omega) (by have := hz2.out; have := hz.out; have := hs3.out; have := HM.out; simp; omega)); have y1 : w5.cell? ⟨m0, 1, none⟩ = some (.slice gu k ku) := X5.out.cell 1 1 rfl rfl; have y2 := X5.out.free 1 1 rfl) | fail)
        have OV2 := OV.out.seg (Seg.of_low hb5) (.inl (Nat.le_succ _))
        have hsz2 := hide (Nat.le_trans hsz.out hb5.size)
        have O5 := hide (show Is w5 (m0 + 1) 3 (.slice g5 ((rowsN k).length + 1) k5) (rowsN (k + 1)) by rw [rowsN_succ]; simpa using hown5)
        go_roundw
        case rel =>
          exact ⟨k + 1, .slice g5 ((rowsN k).length + 1) k5, by omega, by go_num, ownsRow_setCell_below O5.out (a := ⟨m0, 1, none⟩) (Nat.lt_succ_self _) _, X5.out.set 1 1 rfl _, OV2.seg (Seg.setCell w5 m0 1 _) (.inl (Nat.le_refl _)), by simpa [Hid] using hsz2.out⟩
        case measure => simp [intOf]; omega
      · have hke : k = l.length := by omega
        subst hke
        have d0 : wr.cell? ⟨m0, 0, none⟩ = some (.slice g3 l.length k3) := X.out.cell 1 0 rfl rfl
        have d1 : wr.cell? ⟨m0, 1, none⟩ = some (.slice gu l.length ku) := X.out.cell 1 1 rfl rfl
        have d2 : wr.cell? ⟨m0, 2, none⟩ = some (.slice none 0 0) := X.out.cell 1 2 rfl rfl
        have f0 := X.out.free 0 0 rfl
        have f1 := X.out.free 0 1 rfl
        have f2 := X.out.free 0 2 rfl
        have c0 : wr.cell? ⟨w.heap.size, 0, none⟩ = some (.slice none 0 0) := X.out.cell 0 0 rfl rfl
        have c1 : wr.cell? ⟨w.heap.size, 1, none⟩ = some (.slice none 0 0) := X.out.cell 0 1 rfl rfl
        have c2 : wr.cell? ⟨w.heap.size, 2, none⟩ = some (.slice none 0 0) := X.out.cell 0 2 rfl rfl
        have Z := ((X.out.set 0 0 rfl (.slice g3 l.length k3)).set 0 1 rfl (.slice gu l.length ku)).set 0 2 rfl (.slice none 0 0)
        have z0 := Z.cell 0 0 rfl rfl
        have z1 := Z.cell 0 1 rfl rfl
        have z2 := Z.cell 0 2 rfl rfl
        go_wp2_with fail
        rw [hl.out, hr.out]
        have sg : Seg w.heap.size (w.heap.size + 1) wr (((wr.setCell ⟨w.heap.size, 0, none⟩ (.slice g3 l.length k3)).setCell ⟨w.heap.size, 1, none⟩ (.slice gu l.length ku)).setCell ⟨w.heap.size, 2, none⟩ (.slice none 0 0)) :=
          ((Seg.setCell wr w.heap.size 0 _).trans (Seg.setCell _ w.heap.size 1 _)).trans (Seg.setCell _ w.heap.size 2 _)
        have q1 := hz.out
        have q2 := hz2.out
        have q3 := hs3.out
        have q4 := HM.out
        have q5 := hsz.out
        have OR := (Ow.of O.out q5).seg sg (.inr (by omega))
        have OV := OV.out.seg sg (.inr (by omega))
        have hs := sg.below.size
        exact bodyPost_ret (v := .agg #[.slice g3 l.length k3, .slice gu l.length ku, .slice none 0 0]) (by simp [results, Try.results75, go_sem, z0, z1, z2]) rfl
          ⟨_, _, _, w2.heap.size, wr.heap.size, _, _, _, _, wr.heap.size, _, rfl, by omega, hs, ⟨OV, OR, Owp.nil hs, ⟨Nat.le_refl _, by omega, by omega⟩, ⟨by omega, Nat.le_refl _, Nat.le_refl _⟩, ⟨.inl (Nat.le_succ _), .inl (by omega), .inl (Nat.le_refl _)⟩, by omega, hs⟩, Z.below⟩

end Go.Proofs.Ytepkkeclkdlheaa
