/- slices.DeleteFunc of items by row, at the program's own row (promise 7): what is kept lies in the same block. -/
import Derived.Test.YtajfhalalnlejaaPdM
import Derived.Test.YtajfhalalnlejaaIv
namespace Go.Proofs.Ytajfhalalnlejaa
open Go.RowKit Go.ChangeShapes
set_option linter.unusedSimpArgs false
set_option linter.unusedVariables false
set_option maxRecDepth 100000

/-- The items of other rows. -/
def keptR (ins : List Pv) (row : Int) : List Pv := ins.filter fun p => !decide (p.2 = row)

theorem keptR_app (a b : List Pv) (row : Int) : keptR (a ++ b) row = keptR a row ++ keptR b row := by simp [keptR]
theorem keptR_le (ins : List Pv) (row : Int) : (keptR ins row).length ≤ ins.length := List.length_filter_le _ _
theorem keptR_sub {ins : List Pv} {row : Int} {p : Pv} (h : p ∈ keptR ins row) : p ∈ ins := (List.mem_filter.1 h).1
theorem keptR_none : ∀ {ins : List Pv} {row : Int}, row ∉ itR ins → keptR ins row = ins
  | [], _, _ => rfl
  | x :: l, row, h => by
    simp only [itR, List.map_cons, List.mem_cons, not_or] at h
    have h1 : ¬ x.2 = row := fun e => h.1 e.symm
    have h2 : keptR l row = l := keptR_none h.2
    unfold keptR at h2 ⊢
    rw [List.filter_cons, h2]
    simp [h1]
theorem keptR_first : ∀ (ins : List Pv) (row : Int), idxL (itR ins) row < ins.length → keptR (ins.take (idxL (itR ins) row + 1)) row = ins.take (idxL (itR ins) row)
  | [], _, h => by simp [idxL, itR] at h
  | x :: l, row, h => by
    by_cases hx : x.2 = row
    · have e : idxL (itR (x :: l)) row = 0 := by simp [itR, idxL, hx]
      rw [e]
      simp [keptR, hx]
    · have e : idxL (itR (x :: l)) row = idxL (itR l) row + 1 := by simp [itR, idxL, hx]
      rw [e] at h ⊢
      simp only [List.length_cons] at h
      have k := keptR_first l row (by omega)
      rw [List.take_succ_cons, List.take_succ_cons, ← k]
      unfold keptR
      rw [List.filter_cons]
      simp [hx]
theorem adqI_idx (ins : List Pv) (row : Int) : adqI ins row = if idxL (itR ins) row < ins.length then ins.take (idxL (itR ins) row) ++ ins.drop (idxL (itR ins) row + 1) else ins := by
  unfold adqI hasR rowAt
  rw [itR_length]
  by_cases h : idxL (itR ins) row < ins.length
  · rw [if_pos h, if_pos h, if_pos (by omega)]; simp
  · rw [if_neg h, if_neg h, if_neg (by omega)]
/-- Where no two rows are the same, the first insert with the row is the only one. -/
theorem keptR_adq : ∀ {ins : List Pv} {row : Int}, (itR ins).Nodup → keptR ins row = adqI ins row
  | [], row, _ => by rw [adqI_idx]; simp [keptR]
  | x :: l, row, h => by
    simp only [itR, List.map_cons, List.nodup_cons] at h
    rw [adqI_idx]
    by_cases hx : x.2 = row
    · have e : idxL (itR (x :: l)) row = 0 := by simp [itR, idxL, hx]
      have k : keptR l row = l := keptR_none (by rw [← hx]; exact h.1)
      rw [e, if_pos (by simp)]
      unfold keptR at k ⊢
      rw [List.filter_cons, k]
      simp [hx]
    · have e : idxL (itR (x :: l)) row = idxL (itR l) row + 1 := by simp [itR, idxL, hx]
      have k := keptR_adq (ins := l) (row := row) h.2
      rw [adqI_idx] at k
      have k2 : keptR (x :: l) row = x :: keptR l row := by unfold keptR; rw [List.filter_cons]; simp [hx]
      rw [e, k2, k]
      by_cases hl : idxL (itR l) row < l.length
      · rw [if_pos hl, if_pos (by simp; omega)]; simp
      · rw [if_neg hl, if_neg (by simp; omega)]
theorem keptR_len_iff (ins : List Pv) (row : Int) : (keptR ins row).length = ins.length ↔ hasR ins row < 0 := by
  rw [show (hasR ins row < 0) = (rowAt (itR ins) row < 0) from rfl, rowAt_neg_iff]
  constructor
  · intro h hm
    obtain ⟨p, hp, e⟩ := List.mem_map.1 hm
    have h2 := List.length_filter_eq_length_iff.1 h p hp
    simp [e] at h2
  · intro h
    rw [keptR_none h]
theorem keptR_step (ins : List Pv) (row : Int) (j : Nat) (h : j < ins.length) : keptR (ins.take (j + 1)) row = keptR (ins.take j) row ++ (if ins[j].2 = row then [] else [ins[j]]) := by
  rw [List.take_succ_eq_append_getElem h, keptR_app]
  congr 1
  unfold keptR
  by_cases e : ins[j].2 = row <;> simp [e]

theorem take_set_last {α : Type} (d : List α) (i : Nat) (x : α) (h : i < d.length) : (d.set i x).take (i + 1) = d.take i ++ [x] := by
  rw [List.take_succ_eq_append_getElem (by simpa using h), List.take_set, List.set_eq_of_length_le (List.length_take_le i d)]
  simp
theorem drop_step {α : Type} {d e : List α} {j : Nat} (h : d.drop j = e.drop j) : d.drop (j + 1) = e.drop (j + 1) := by
  rw [← List.tail_drop, h, List.tail_drop]
theorem owns_past {w : World} {base size g n cap : Nat} {e : TypeId} {xs : List Value} (h : w.ownsRow base e size (.slice (some ⟨g, 0, none⟩) n cap) n xs) (j : Nat) (u : Value) (hj : n * size ≤ j) : (w.setCell ⟨g, j, none⟩ u).ownsRow base e size (.slice (some ⟨g, 0, none⟩) n cap) n xs := by
  have := (World.ownsRow.stored h j u).1
  rwa [List.set_eq_of_length_le (by rw [h.1]; exact hj)] at this
theorem owns_setCells {base size g n cap : Nat} {e : TypeId} {xs : List Value} : ∀ (vs : List Value) (o : Nat) (w : World), w.ownsRow base e size (.slice (some ⟨g, 0, none⟩) n cap) n xs → n * size ≤ o → (w.setCells g o vs).ownsRow base e size (.slice (some ⟨g, 0, none⟩) n cap) n xs
  | [], _, _, h, _ => h
  | v :: r, o, w, h, ho => owns_setCells r (o + 1) _ (owns_past h o v ho) (by omega)
theorem seg_setCells (g : Nat) : ∀ (vs : List Value) (o : Nat) (w : World), Seg g (g + 1) w (w.setCells g o vs)
  | [], _, _ => Seg.refl _ _ _
  | v :: r, o, w => (Seg.setCell w g o v).trans (seg_setCells g r (o + 1) _)
/-- The first m of items that are owned. -/
theorem Oi.cut {w : World} {base g n cap : Nat} {ps : List Pv} (h : Oi w base (.slice (some ⟨g, 0, none⟩) n cap) ps) (m : Nat) (hm : m ≤ ps.length) : Oi w base (.slice (some ⟨g, 0, none⟩) m cap) (ps.take m) := by
  rcases h.2 with ⟨h', _⟩ | ⟨g', cap', cur, h', hb, hg, hnc, hcm, hcs, htake⟩
  · simp at h'
  · simp only [Value.slice.injEq, Option.some.injEq, Addr.mk.injEq, and_true, true_and] at h'
    obtain ⟨rfl, -, rfl⟩ := h'
    have hl : (ps.take m).length = m := by simp; omega
    have hpv : ∀ (l : List Pv) (k : Nat), pvVs (l.take k) = (pvVs l).take (k * 2) := by
      intro l
      induction l with
      | nil => intro k; simp [pvVs]
      | cons x l ih =>
        intro k
        cases k with
        | zero => simp [pvVs]
        | succ k =>
          have e1 : pvVs (x :: l) = .int .i64 x.1 :: .int .i64 x.2 :: pvVs l := by simp [pvVs]
          have e2 : pvVs (x :: l.take k) = .int .i64 x.1 :: .int .i64 x.2 :: pvVs (l.take k) := by simp [pvVs]
          rw [List.take_succ_cons, e1, e2, ih k, show (k + 1) * 2 = k * 2 + 1 + 1 by omega, List.take_succ_cons, List.take_succ_cons]
    unfold Oi
    rw [hl]
    refine ⟨by rw [hpv, List.length_take, h.1]; omega, .inr ⟨g, cap, cur, rfl, hb, hg, by omega, hcm, hcs, ?_⟩⟩
    rw [hpv, ← htake, List.take_take]
    congr 1
    omega

theorem itZ (w : World) : (zeroValue 49).run Try.prog w = .ok (.agg #[.int .i64 0, .int .i64 0]) w := by kernel_rfl
theorem run_clear_it (w : World) (ty : TypeId) (g o m c : Nat) (hm : 0 < m) (hc : ∀ j, j < m * 2 → (w.cell? ⟨g, o + j, none⟩).isSome = true) (hf : ∀ j, j < m * 2 → w.frozen? ⟨g, o + j, none⟩ = false) :
    (Builtin.clear_ #[68] ty #[.slice (some ⟨g, o, none⟩) m c]).run Try.prog w = .ok (.tuple #[]) (w.setCells g o (Builtin.zeroCells #[.int .i64 0, .int .i64 0] m).toList) := by
  have hlen : (Builtin.zeroCells #[.int .i64 0, .int .i64 0] m).toList.length = m * 2 := by simp [Builtin.zeroCells]
  have h1 : ∀ v ∈ (Builtin.zeroCells #[.int .i64 0, .int .i64 0] m).toList, v.oneCell' = true := by
    intro v hv
    simp only [Builtin.zeroCells, Array.toList_map, List.mem_map] at hv
    obtain ⟨i, -, rfl⟩ := hv
    have hi : i % 2 < 2 := Nat.mod_lt _ (by omega)
    rcases (show i % 2 = 0 ∨ i % 2 = 1 by omega) with e | e <;> (simp only [List.size_toArray, List.length_cons, List.length_nil, Nat.zero_add, Nat.reduceAdd, e]; rfl)
  have hst := run_storeCells_cells (P := Try.prog) g o (Builtin.zeroCells #[.int .i64 0, .int .i64 0] m).toList 0 w (by rw [hlen]; simpa using hc) (by rw [hlen]; simpa using hf) h1
  simp only [Nat.add_zero] at hst
  obtain ⟨k, rfl⟩ : ∃ k, m = k + 1 := ⟨m - 1, by omega⟩
  have hz : (Value.agg #[.int .i64 0, .int .i64 0]).cells = #[.int .i64 0, .int .i64 0] := by rfl
  simp [Builtin.clear_, run_underlying Try.underlying68, itZ, hz, hst]

set_option maxHeartbeats 2000000 in
/-- The closure of AddDelete. -/
theorem idf_gives (p q row : Int) (bR : Nat) (w : World) (hR : w.cell? ⟨bR, 0, none⟩ = some (.int .i64 row)) :
    Calls Try.prog 97 #[.agg #[.int .i64 p, .int .i64 q], .pointer (some ⟨bR, 0, none⟩)] w (RetB1 w (decide (q = row))) := by
  have hb := World.block_lt_of_cell? _ _ hR
  have X := hide (Kn.one w #[.int .i64 p, .int .i64 q] 49)
  have e0 := (X.out.below.cell (p := ⟨bR, 0, none⟩) hb).trans hR
  go_enter Try.func97, Try.ntmps97
  go_wp2_with fail
  go_ret
  exact ⟨by first | rfl | simp, X.out.below⟩

set_option maxHeartbeats 2000000 in
theorem iIx_any (v : Value) (ins : List Pv) (row : Int) (bR : Nat) (w : World) (lo hi : Nat) (ho : Owi w v ins lo hi) (hR : w.cell? ⟨bR, 0, none⟩ = some (.int .i64 row)) (hl : ins.length ≤ 1048576) :
    Calls Try.prog 117 #[v, .func (.func 97) #[] #[.pointer (some ⟨bR, 0, none⟩)]] w (RetI1 w (hasR ins row)) := by
  obtain ⟨a, c, rfl⟩ := ho.own.form
  have hb := World.block_lt_of_cell? _ _ hR
  have HO := hide (fun (W : World) (h : Below w.heap.size w W) => ho.below h)
  have HR := hide (fun (W : World) (h : Below w.heap.size w W) => (h.cell (p := ⟨bR, 0, none⟩) hb).trans hR)
  clear ho hR
  obtain ⟨q, hq⟩ : ∃ q, q = hasR ins row := ⟨_, rfl⟩
  have HQ := hide hq
  rw [← hq]
  clear hq
  have hlR := hide (itR_length ins)
  go_enter Try.func117, Try.ntmps117
  go_wp2_with fail
  go_loopw [8] (fun i wr => ∃ (k : Nat), k ≤ ins.length ∧ i = .int .i64 k ∧ Hid (k + idxL ((itR ins).drop k) row = idxL (itR ins) row) ∧ Hid (Below w.heap.size w wr)) (fun i _ => ins.length - (intOf i).toNat)
  case atStart => exact ⟨0, by omega, rfl, by simp [Hid], Below.refl _ _⟩
  case round =>
    obtain ⟨k, hk, rfl, hpre, hbw⟩ := hrel
    by_cases hlt : k < ins.length
    · have ho := HO.out wr hbw.out
      obtain ⟨g, rfl⟩ : ∃ g, a = some ⟨g, 0, none⟩ := by
        rcases ho.own.2 with ⟨hv, hn⟩ | ⟨g, cap', cur, hv, _⟩
        · omega
        · simp only [Value.slice.injEq] at hv
          exact ⟨g, hv.1⟩
      obtain ⟨q0, q1, -⟩ := Oi.cell ho.own k hlt
      have hst := idxL_step (itR ins) row k hpre.out (by rw [itR_length]; exact hlt)
      rw [itR_get ins k hlt] at hst
      have HC := hide (idf_gives ins[k].1 ins[k].2 row bR wr (HR.out wr hbw.out))
      obtain ⟨p, hp⟩ : ∃ p, p = ins[k].2 := ⟨_, rfl⟩
      obtain ⟨p0, hp0⟩ : ∃ p, p = ins[k].1 := ⟨_, rfl⟩
      rw [← hp] at q1 hst HC
      rw [← hp0] at q0 HC
      clear hp hp0 ho
      by_cases hy : p = row
      · have hf := hide (show (k : Int) = q by rw [HQ.out]; exact (hst.1 hy).symm)
        have ht : decide (p = row) = true := by simp [hy]
        rw [ht] at HC
        clear hst ht hy
        go_wp2_with fail
        go_at_call 97
        refine HC.out.mono ?_
        rintro e w2 ⟨rfl, hb2⟩
        have hbw := hide (hbw.out.trans (hb2.mono hbw.out.size))
        clear hb2
        go_wp2_with fail
        go_ret
        exact ⟨by have h9 := hf.out; subst h9; rfl, hbw.out⟩
      · have hf := hide (hst.2 hy)
        have ht : decide (p = row) = false := by simp [hy]
        rw [ht] at HC
        clear hst ht hy
        go_wp2_with fail
        go_at_call 97
        refine HC.out.mono ?_
        rintro e w2 ⟨rfl, hb2⟩
        have hbw := hide (hbw.out.trans (hb2.mono hbw.out.size))
        clear hb2
        go_wp2_with fail
        go_roundw
        case rel => exact ⟨k + 1, by omega, by go_num, hf, hbw⟩
        case measure => simp [intOf]; omega
    · have hke : k = ins.length := by omega
      subst hke
      have hf := hide (show q = -1 by rw [HQ.out]; exact idxL_end (itR ins) row (by rw [itR_length]; exact hpre.out))
      go_wp2_with fail
      go_ret
      exact ⟨by have h9 := hf.out; subst h9; rfl, hbw.out⟩

/-- A slice of the items l is returned, in the same stretch. -/
def RetDf (w : World) (l : List Pv) (lo hi : Nat) (e : Ending) (w' : World) : Prop := ∃ a c, e = .returned (.slice a l.length c) ∧ Owi w' (.slice a l.length c) l lo hi ∧ Seg lo hi w w'

theorem Seg.cell_low {lo hi b o : Nat} {w w' : World} (h : Seg lo hi w w') (hb : b < lo) : w'.cell? ⟨b, o, none⟩ = w.cell? ⟨b, o, none⟩ := h.below.cell (p := ⟨b, o, none⟩) hb

set_option maxHeartbeats 4000000 in
theorem iDf_any (v : Value) (ins : List Pv) (row : Int) (bR : Nat) (w : World) (lo hi : Nat) (ho : Owi w v ins lo hi) (hR : w.cell? ⟨bR, 0, none⟩ = some (.int .i64 row)) (hbR : bR < lo) (hl : ins.length ≤ 1048576) :
    Calls Try.prog 96 #[v, .func (.func 97) #[] #[.pointer (some ⟨bR, 0, none⟩)]] w (RetDf w (keptR ins row) lo hi) := by
  obtain ⟨a, c, rfl⟩ := ho.own.form
  have HO := hide ho
  have HR := hide hR
  have HI := hide (iIx_any _ ins row bR w lo hi ho hR hl)
  obtain ⟨q, hq⟩ : ∃ q, q = hasR ins row := ⟨_, rfl⟩
  rw [← hq] at HI
  have HQ := hide hq
  clear hq ho hR
  by_cases hneg : q < 0
  · obtain rfl : q = -1 := by
      have h1 := HQ.out
      unfold hasR rowAt at h1
      split at h1 <;> omega
    have hk : keptR ins row = ins := keptR_none (rowAt_neg_iff.1 (show rowAt (itR ins) row < 0 by rw [show rowAt (itR ins) row = -1 from HQ.out.symm]; omega))
    rw [hk]
    clear hk hneg
    go_enter Try.func96, Try.ntmps96
    go_wp2_with fail
    go_at_call 117
    refine HI.out.mono ?_
    rintro e w2 ⟨rfl, hb2⟩
    have HO2 := hide (HO.out.below hb2)
    have hs := hide (Seg.of_below (hi := hi) hb2 (Nat.le_trans HO.out.le HO.out.top))
    clear hb2
    go_wp2_with fail
    go_ret
    exact ⟨a, c, rfl, HO2.out, hs.out⟩
  · obtain ⟨k0, hk0, hk1⟩ : ∃ k0 : Nat, k0 = idxL (itR ins) row ∧ k0 < ins.length := by
      refine ⟨_, rfl, ?_⟩
      have h1 := HQ.out
      unfold hasR rowAt at h1
      rw [itR_length] at h1
      split at h1
      · assumption
      · omega
    obtain rfl : q = (k0 : Int) := by
      have h1 := HQ.out
      unfold hasR rowAt at h1
      rw [itR_length, ← hk0, if_pos hk1] at h1
      exact h1
    obtain ⟨g, rfl⟩ : ∃ g, a = some ⟨g, 0, none⟩ := by
      rcases HO.out.own.2 with ⟨hv, hn⟩ | ⟨g, cap', cur, hv, _⟩
      · omega
      · simp only [Value.slice.injEq] at hv
        exact ⟨g, hv.1⟩
    have hnc : ins.length ≤ c := by
      rcases HO.out.own.2 with ⟨hv, hn⟩ | ⟨g, cap', cur, hv, _, _, h, _⟩
      · omega
      · simp only [Value.slice.injEq] at hv
        omega
    have HF := hide (show keptR (ins.take (k0 + 1)) row = ins.take k0 by rw [hk0]; exact keptR_first ins row (by rw [← hk0]; exact hk1))
    have hne1 : ((k0 : Int) == -1) = false := beq_eq_false_iff_ne.2 (by omega)
    clear hk0 hneg HQ
    go_enter Try.func96, Try.ntmps96
    go_wp2_with fail
    go_at_call 117
    refine HI.out.mono ?_
    rintro e w2 ⟨rfl, hb2⟩
    have HO2 := hide (HO.out.below hb2)
    have hs := hide (Seg.of_below (hi := hi) hb2 (Nat.le_trans HO.out.le HO.out.top))
    clear hb2 HI
    go_wp2_with fail
    go_loopw [5, 6] (fun x y wr => ∃ (i j : Nat) (d : List Pv), x = .int .i64 i ∧ y = .int .i64 j ∧ i < j ∧ j ≤ ins.length ∧ Hid (d.length = ins.length) ∧ Hid (d.take i = keptR (ins.take j) row) ∧ Hid (d.drop j = ins.drop j) ∧ Hid (Owi wr (.slice (some ⟨g, 0, none⟩) ins.length c) d lo hi) ∧ Hid (Seg lo hi w wr)) (fun _ y _ => ins.length - (intOf y).toNat)
    case atStart => exact ⟨k0, k0 + 1, ins, rfl, by go_num, by omega, by omega, by show _ = _; rfl, HF.out.symm, by show _ = _; rfl, HO2.out, hs.out⟩
    case round =>
      obtain ⟨i, j, d, rfl, rfl, hij, hjn, hdl, hdt, hdd, hod, hsd⟩ := hrel
      by_cases hlt : j < ins.length
      · have hjd : j < d.length := by rw [hdl.out]; exact hlt
        have hid : i < d.length := by omega
        have hdj : d[j] = ins[j] := by
          have h1 := hdd.out
          rw [List.drop_eq_getElem_cons hjd, List.drop_eq_getElem_cons hlt] at h1
          injection h1
        obtain ⟨q0, q1, -⟩ := Oi.cell hod.out.own j hjd
        obtain ⟨r0, r1, s0, s1, hg1, hg2⟩ := Oi.cell hod.out.own i hid
        have hg3 := hod.out.lt g rfl
        have HK := hide (keptR_step ins row j hlt)
        rw [← hdj] at HK
        have HC := hide (fun (W : World) (h : Below wr.heap.size wr W) => idf_gives d[j].1 d[j].2 row bR W ((h.cell (p := ⟨bR, 0, none⟩) (show bR < wr.heap.size by have := HO.out.top; have := HO.out.le; have := hod.out.top; have := hod.out.le; omega)).trans ((hsd.out.cell_low hbR).trans HR.out)))
        obtain ⟨dj, hdjj⟩ : ∃ p, p = d[j] := ⟨_, rfl⟩
        obtain ⟨p0, p⟩ := dj
        rw [← hdjj] at q0 q1 HC HK
        obtain ⟨y0, hy0⟩ : ∃ p, p = d[i].1 := ⟨_, rfl⟩
        obtain ⟨y1, hy1⟩ : ∃ p, p = d[i].2 := ⟨_, rfl⟩
        rw [← hy0] at r0
        rw [← hy1] at r1
        have HJ := hide hdjj
        clear hdjj hy0 hy1 hdj
        simp only at q0 q1 HC HK
        -- v's own box
        have X := hide (Kn.one wr #[.int .i64 p0, .int .i64 p] 49)
        obtain ⟨wb, hwb⟩ : ∃ q, q = wr.alloc (.cells #[.int .i64 p0, .int .i64 p] 49) := ⟨_, rfl⟩
        rw [← hwb] at X
        have e0 : wb.cell? ⟨wr.heap.size, 0, none⟩ = some (.int .i64 p0) := X.out.cell 0 0 rfl rfl
        have e1 : wb.cell? ⟨wr.heap.size, 1, none⟩ = some (.int .i64 p) := X.out.cell 0 1 rfl rfl
        rw [hwb] at e0 e1
        by_cases hy : p = row
        · have ht : decide (p = row) = true := by simp [hy]
          have HN := hide (show d.take i = keptR (ins.take (j + 1)) row by rw [HK.out, if_pos hy, List.append_nil]; exact hdt.out)
          rw [ht] at HC
          clear HK ht hy
          go_wp2_with fail
          rw [← hwb]
          clear hwb e0 e1
          go_at_call 97
          refine (HC.out wb X.out.below).mono ?_
          rintro e w3 ⟨rfl, hb3⟩
          have X := hide (X.out.up hb3)
          clear hb3 q0 q1 r0 r1 s0 s1
          go_wp2_with fail
          go_roundw
          case rel => exact ⟨i, j + 1, d, rfl, by go_num, by omega, by omega, hdl, HN, drop_step hdd.out, hod.out.below X.out.below, hsd.out.trans (Seg.of_below X.out.below (by omega))⟩
          case measure => simp [intOf]; omega
        · have ht : decide (p = row) = false := by simp [hy]
          have HN := hide (show (d.set i (p0, p)).take (i + 1) = keptR (ins.take (j + 1)) row by
            rw [HK.out, if_neg hy, ← hdt.out]
            exact take_set_last d i _ hid)
          rw [ht] at HC
          clear HK ht
          go_wp2_with fail
          rw [← hwb]
          clear hwb e0 e1
          go_at_call 97
          refine (HC.out wb X.out.below).mono ?_
          rintro e w3 ⟨rfl, hb3⟩
          have X := hide (X.out.up hb3)
          have O3 := hide (hod.out.below X.out.below)
          have S3 := hide (hsd.out.trans (Seg.of_below (lo := lo) (hi := hi) X.out.below (by omega)))
          clear hb3 q0 q1 r0 r1 s0 s1
          obtain ⟨r0, r1, s0, s1, -⟩ := Oi.cell O3.out.own i hid
          have e0 : w3.cell? ⟨wr.heap.size, 0, none⟩ = some (.int .i64 p0) := X.out.cell 0 0 rfl rfl
          have e1 : w3.cell? ⟨wr.heap.size, 1, none⟩ = some (.int .i64 p) := X.out.cell 0 1 rfl rfl
          obtain ⟨y0, hy0⟩ : ∃ p, p = d[i].1 := ⟨_, rfl⟩
          obtain ⟨y1, hy1⟩ : ∃ p, p = d[i].2 := ⟨_, rfl⟩
          rw [← hy0] at r0
          rw [← hy1] at r1
          clear hy0 hy1 hy
          have r1' : (w3.setCell ⟨g, i * 2, none⟩ (.int .i64 p0)).cell? ⟨g, i * 2 + 1, none⟩ = some (.int .i64 y1) := by
            rw [World.cell?_setCell_other _ _ _ _ (by simp)]; exact r1
          have s1' : (w3.setCell ⟨g, i * 2, none⟩ (.int .i64 p0)).frozen? ⟨g, i * 2 + 1, none⟩ = false := by simpa using s1
          go_wp2_with fail
          go_roundw
          case rel =>
            refine ⟨i + 1, j + 1, d.set i (p0, p), by go_num, by go_num, by omega, by omega, ?_, HN, ?_, ?_, ?_⟩
            · show _ = _; rw [List.length_set]; exact hdl.out
            · show _ = _; rw [List.drop_set_of_lt (by omega)]; exact drop_step hdd.out
            · exact ⟨Oi.put O3.out.own i _ _ hid, O3.out.lt, O3.out.le, by simpa using O3.out.top⟩
            · exact S3.out.trans (((Seg.setCell w3 g (i * 2) _).mono hg1 (by omega)).trans ((Seg.setCell _ g (i * 2 + 1) _).mono hg1 (by omega)))
          case measure => simp [intOf]; omega
      · have hje : j = ins.length := by omega
        subst hje
        have hid : i < d.length := by rw [hdl.out]; exact hij
        have hg3 := hod.out.lt g rfl
        obtain ⟨-, -, -, -, hg1, hg2⟩ := Oi.cell hod.out.own i hid
        have HT := hide (show d.take i = keptR ins row by rw [hdt.out, List.take_length])
        have hTl := hide (show (keptR ins row).length = i by rw [← HT.out, List.length_take]; omega)
        have hcl : ∀ ty, (Builtin.clear_ #[68] ty #[.slice (some ⟨g, i * 2, none⟩) (ins.length - i) (c - i)]).run Try.prog wr = .ok (.tuple #[]) (wr.setCells g (i * 2) (Builtin.zeroCells #[.int .i64 0, .int .i64 0] (ins.length - i)).toList) := fun ty => by
          refine run_clear_it wr ty g (i * 2) (ins.length - i) (c - i) (by omega) (fun t ht => ?_) (fun t ht => ?_)
          · have hk : i + t / 2 < d.length := by rw [hdl.out]; omega
            obtain ⟨q0, q1, -⟩ := Oi.cell hod.out.own (i + t / 2) hk
            rcases Nat.mod_two_eq_zero_or_one t with e | e
            · rw [show i * 2 + t = (i + t / 2) * 2 by omega, q0]; rfl
            · rw [show i * 2 + t = (i + t / 2) * 2 + 1 by omega, q1]; rfl
          · have hk : i + t / 2 < d.length := by rw [hdl.out]; omega
            obtain ⟨-, -, q0, q1, -⟩ := Oi.cell hod.out.own (i + t / 2) hk
            rcases Nat.mod_two_eq_zero_or_one t with e | e
            · rw [show i * 2 + t = (i + t / 2) * 2 by omega, q0]
            · rw [show i * 2 + t = (i + t / 2) * 2 + 1 by omega, q1]
        have hzz := hide (owns_setCells (Builtin.zeroCells #[.int .i64 0, .int .i64 0] (ins.length - i)).toList (i * 2) wr (show wr.ownsRow lo 49 2 (.slice (some ⟨g, 0, none⟩) i c) i (pvVs (keptR ins row)) by
          have h1 := Oi.cut hod.out.own i (Nat.le_of_lt hid)
          rw [HT.out] at h1
          unfold Oi at h1
          rw [hTl.out] at h1
          exact h1) (Nat.le_refl _))
        have hsz := hide (seg_setCells g (Builtin.zeroCells #[.int .i64 0, .int .i64 0] (ins.length - i)).toList (i * 2) wr)
        obtain ⟨wz, hwz⟩ : ∃ q, q = wr.setCells g (i * 2) (Builtin.zeroCells #[.int .i64 0, .int .i64 0] (ins.length - i)).toList := ⟨_, rfl⟩
        rw [← hwz] at hcl hzz hsz
        have hle := hide (show lo ≤ hi ∧ hi ≤ wr.heap.size from ⟨hod.out.le, hod.out.top⟩)
        have hic : i ≤ c := by omega
        clear hwz hdt hdd HT
        go_wp2_with fail
        go_ret
        refine ⟨some ⟨g, 0, none⟩, c, by rw [hTl.out]; rfl, ⟨?_, fun g' hg' => by cases hg'; exact hg3, hle.out.1, Nat.le_trans hle.out.2 hsz.out.below.size⟩, hsd.out.trans (hsz.out.mono hg1 (by omega))⟩
        unfold Oi
        rw [hTl.out]
        exact hzz.out

end Go.Proofs.Ytajfhalalnlejaa
