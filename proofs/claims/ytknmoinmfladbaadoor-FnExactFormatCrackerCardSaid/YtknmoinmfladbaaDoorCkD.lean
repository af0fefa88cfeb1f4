/- What CountPieces and LargestPiece of the program return (promise 3). -/
import Derived.Test.YtknmoinmfladbaaDoorCkC
import Derived.Test.YtknmoinmfladbaaDoorCkQ
namespace Go.Proofs.YtknmoinmfladbaaDoor
open Go.RowKit Go.ChangeShapes
set_option linter.unusedSimpArgs false
set_option linter.unusedVariables false
set_option maxRecDepth 100000

/-- The place at which piece k begins. -/
def stP (ps : List Pv) (k : Nat) : Nat := if k = 0 then 0 else (ps.getD (k - 1) (0, 0)).2.toNat

/-- The values of piece k. -/
def partAt (l : List Int) (ps : List Pv) (k : Nat) : List Int := if k < ps.length then (l.take (stP ps (k + 1))).drop (stP ps k) else l.drop (stP ps k)

/-- The first k pieces. -/
def partsK (l : List Int) (ps : List Pv) (k : Nat) : List (List Int) := (List.range k).map (partAt l ps)

theorem stP_zero (ps : List Pv) : stP ps 0 = 0 := rfl
theorem stP_succ (ps : List Pv) (k : Nat) (h : k < ps.length) : stP ps (k + 1) = ps[k].2.toNat := by
  unfold stP
  rw [if_neg (by omega), Nat.add_sub_cancel, List.getD_eq_getElem?_getD, List.getElem?_eq_getElem h]; rfl

theorem partsK_length (l : List Int) (ps : List Pv) (k : Nat) : (partsK l ps k).length = k := by simp [partsK]
theorem partsK_succ (l : List Int) (ps : List Pv) (k : Nat) : partsK l ps (k + 1) = partsK l ps k ++ [partAt l ps k] := by simp [partsK, List.range_succ]
theorem partsK_get (l : List Int) (ps : List Pv) (k j : Nat) (h : j < k) : (partsK l ps k)[j]'(by rw [partsK_length]; exact h) = partAt l ps j := by simp [partsK]

theorem stP_ok {l : List Int} {ps : List Pv} (h : PvsOk l ps) (k : Nat) (hk : k < ps.length) : stP ps k ≤ stP ps (k + 1) ∧ stP ps (k + 1) ≤ l.length ∧ ps[k].2 = (stP ps (k + 1) : Int) := by
  have h2 := (h k hk).2.2
  have e := stP_succ ps k hk
  refine ⟨?_, by rw [e]; have := h2.2.1; omega, by rw [e]; have := h2.1; omega⟩
  cases k with
  | zero => simp [stP_zero]
  | succ k =>
    rw [e, stP_succ ps k (by omega)]
    have := at_mono hk (h k (by omega)) (h (k + 1) hk)
    omega

theorem stP_le {l : List Int} {ps : List Pv} (h : PvsOk l ps) (k : Nat) (hk : k ≤ ps.length) : stP ps k ≤ l.length := by
  cases k with
  | zero => simp [stP_zero]
  | succ k => exact (stP_ok h k (by omega)).2.1

/-- The length of piece k. -/
theorem partAt_len {l : List Int} {ps : List Pv} (h : PvsOk l ps) (k : Nat) (hk : k ≤ ps.length) : (((partAt l ps k).length : Nat) : Int) = (endsP l ps)[k]'(by rw [endsP_length]; omega) - (stP ps k : Int) ∧ (k < ps.length → (endsP l ps)[k]'(by rw [endsP_length]; omega) = (stP ps (k + 1) : Int)) := by
  unfold partAt
  by_cases hlt : k < ps.length
  · obtain ⟨h1, h2, h3⟩ := stP_ok h k hlt
    rw [if_pos hlt]
    have e : (endsP l ps)[k]'(by rw [endsP_length]; omega) = (stP ps (k + 1) : Int) := by
      unfold endsP
      rw [List.getElem_append_left (by simpa using hlt)]
      simp [h3]
    rw [e]
    exact ⟨by simp; omega, fun _ => rfl⟩
  · have hke : k = ps.length := by omega
    subst hke
    have h1 := stP_le h ps.length (Nat.le_refl _)
    rw [if_neg hlt]
    have e : (endsP l ps)[ps.length]'(by rw [endsP_length]; omega) = (l.length : Int) := by simp [endsP]
    rw [e]
    exact ⟨by simp; omega, fun h => by omega⟩

theorem Ints.sub {w : World} {B : Nat} {a : Option Addr} {n cap : Nat} {l : List Int} (h : Ints w B (.slice a n cap) l) (lo hi cap' : Nat) (h1 : lo ≤ hi) (h2 : hi ≤ l.length) (hc : l.length ≤ cap) :
    Ints w B (.slice (if cap = lo then a else a.map (·.add lo)) (hi - lo) cap') ((l.take hi).drop lo) := by
  obtain ⟨a', c', he, q1, q2, q3⟩ := h
  obtain ⟨rfl, -⟩ : a = a' ∧ cap = c' := by
    simp only [Value.slice.injEq] at he
    exact ⟨he.1, he.2.2⟩
  have hl : ((l.take hi).drop lo).length = hi - lo := by simp; omega
  refine ⟨_, cap', by rw [hl], by omega, fun x hx => q2 x (List.mem_of_mem_take (List.mem_of_mem_drop hx)), fun j hj => ?_⟩
  rw [hl] at hj
  obtain ⟨b, o, rfl, hb, hcell⟩ := q3 (lo + j) (by omega)
  rw [if_neg (by omega)]
  exact ⟨b, o + lo, by simp [Addr.add], hb, by rw [Nat.add_assoc, hcell, List.getElem_drop, List.getElem_take]⟩

theorem infoSl : (Tryd.prog.info? 22).map (fun i => (i.zero, i.size, i.bytes)) = some (some (.slice none 0 0), 1, 24) := by kernel_rfl

/-- v owns a row of slices that read as pp; their cells lie below block B. -/
def Pts (w : World) (base B : Nat) (v : Value) (pp : List (List Int)) : Prop := ∃ xs, w.ownsRow base 22 1 v pp.length xs ∧ ∀ j (h : j < pp.length), ∃ u, xs[j]? = some u ∧ Ints w B u pp[j]

theorem Pts.nil (w : World) (base B : Nat) : Pts w base B (.slice none 0 0) [] := ⟨[], World.ownsRow_nil _ _ _ _, fun j hj => by simp at hj⟩

theorem Pts.below {w w' : World} {base B : Nat} {v : Value} {pp : List (List Int)} (h : Pts w base B v pp) (hb : Below w.heap.size w w') (hB : B ≤ w.heap.size) : Pts w' base B v pp := by
  obtain ⟨xs, ho, hc⟩ := h
  exact ⟨xs, owns_eq ho fun g hg => hb.block g (World.ownsRow.lt ho g hg).2, fun j hj => by obtain ⟨u, h1, h2⟩ := hc j hj; exact ⟨u, h1, h2.below hb hB⟩⟩

theorem Pts.lower {w : World} {base B b : Nat} {v : Value} {pp : List (List Int)} (h : Pts w base B v pp) (hb : b ≤ base) : Pts w b B v pp := by
  obtain ⟨xs, ho, hc⟩ := h
  refine ⟨xs, ⟨ho.1, ?_⟩, hc⟩
  rcases ho.2 with h2 | ⟨g, cap, cur, hv, hg, r⟩
  · exact .inl h2
  · exact .inr ⟨g, cap, cur, hv, Nat.le_trans hb hg, r⟩

theorem Pts.form {w : World} {base B : Nat} {v : Value} {pp : List (List Int)} (h : Pts w base B v pp) : ∃ a cap, v = .slice a pp.length cap := by
  obtain ⟨xs, ho, _⟩ := h
  rcases ho.2 with ⟨hv, hn⟩ | ⟨g, cap, cur, hv, _⟩
  · exact ⟨none, 0, by rw [hv, hn]⟩
  · exact ⟨_, _, hv⟩

theorem Pts.range {w : World} {base B : Nat} {v : Value} {pp : List (List Int)} (h : Pts w base B v pp) : ∀ g, v.ownBlock = some g → base ≤ g ∧ g < w.heap.size := by
  obtain ⟨xs, ho, _⟩ := h
  exact fun g hg => World.ownsRow.lt ho g hg

theorem Kn.hold_lt {w W : World} {L : List (Nat × Array Value × TypeId)} (h : Kn w W L) : ∀ e ∈ L, e.1 < W.heap.size := fun e he => (Array.getElem?_eq_some_iff.1 (h.hold e he)).1

theorem Kn.other {w W W' : World} {L : List (Nat × Array Value × TypeId)} {B : Nat} (h : Kn w W L) (hb : Below B W W') (hB : w.heap.size ≤ B) (hL : ∀ e ∈ L, W'.heap[e.1]? = W.heap[e.1]?) : Kn w W' L :=
  ⟨h.below.trans (hb.mono hB), fun e he => by rw [hL e he]; exact h.hold e he, h.high, h.nodup⟩

theorem Pts.cell {w : World} {base B : Nat} {a : Option Addr} {n cap : Nat} {pp : List (List Int)} (h : Pts w base B (.slice a n cap) pp) (j : Nat) (hj : j < pp.length) :
    ∃ g b k, a = some ⟨g, 0, none⟩ ∧ g < w.heap.size ∧ w.cell? ⟨g, j, none⟩ = some (.slice b pp[j].length k) ∧ Ints w B (.slice b pp[j].length k) pp[j] := by
  obtain ⟨xs, ho, hc⟩ := h
  obtain ⟨u, h1, h2⟩ := hc j hj
  obtain ⟨b, k, rfl⟩ := h2.form
  rcases ho.2 with ⟨hv, hn⟩ | ⟨g, cap', cur, hv, _⟩
  · omega
  · have hlt := (World.ownsRow.lt ho g (by rw [hv]; rfl)).2
    rw [hv] at ho
    simp only [Value.slice.injEq] at hv
    exact ⟨g, b, k, hv.1, hlt, by rw [World.ownsRow.cellAt ho j (by omega)]; exact h1, h2⟩

/-- parts = append(parts, u): u lies in a block of one cell that was just made. -/
theorem pts_append (W : World) {ops : Array Oper} {rest : List Oper} {o : Oper} {a : Act} {Q : Exit → Act → World → Prop} (hgd : o.guard = none) (s x : Operand)
    (ho : o.op = .call { callee := .builtin .append, args := #[s, x], argTypes := #[43, 43] })
    (base B : Nat) (v : Value) (pp : List (List Int)) (hown : Pts W base B v pp) (hs : a.eval s = v) (b : Option Addr) (n k : Nat) (q : List Int) (hq : Ints W B (.slice b n k) q) (c : Nat)
    (g : Nat) (hx : a.eval x = .slice (some ⟨g, 0, none⟩) 1 c) (hg : g = W.heap.size) (hlen : pp.length < 1099511627776) (hbase : base ≤ W.heap.size) (hB : B ≤ base)
    (h : ∀ v' w', Pts w' base B v' (pp ++ [q]) → Below base W w' → (∀ k, k < W.heap.size → some k ≠ v.ownBlock → w'.heap[k]? = W.heap[k]?) → wpList Tryd.prog ops Q rest (a.put o.dst v') w') :
    wpList Tryd.prog ops Q (o :: rest) a (W.alloc (.cells #[.slice b n k] 22)) := by
  subst hg
  obtain ⟨i0, hi, hz0, hz1, hz2⟩ := info_parts infoSl
  obtain ⟨xs, hown, hc⟩ := hown
  refine wpList_append_own _ hgd s x 43 ho base 22 i0 (.slice none 0 0) 1 24 Tryd.underlying43 hi hz0 hz1 hz2 rfl (by decide) v pp.length xs hs (World.ownsRow.alloc hown _) ⟨W.heap.size, 0, none⟩ 1 c [.slice b n k] hx rfl ?_ ?_ ?_ ?_ ?_ ?_
  · intro j u hj
    match j, hj with
    | 0, hj => simp at hj; subst hj; simp [Addr.add]
  · intro u hu; simp at hu; subst hu; rfl
  · unfold maxLen; omega
  · omega
  · simp; omega
  · intro v' w' hown' hgrow _
    have hbel := (((Below.refl base W).alloc hbase (.cells #[.slice b n k] 22)).grown hgrow (by simp; omega) (fun k hk => (World.ownsRow.lt hown k hk).1))
    refine h v' w' ⟨xs ++ [.slice b n k], by rw [List.length_append]; exact hown', fun j hj => ?_⟩ hbel (fun k hk hne => by rw [hgrow.block k (by simp; omega) hne, Below.heap_alloc _ _ _ hk])
    have hxl : xs.length = pp.length := by have := hown.1; omega
    by_cases hjl : j < pp.length
    · obtain ⟨u, h1, h2⟩ := hc j hjl
      exact ⟨u, by rw [List.getElem?_append_left (by omega)]; exact h1, by rw [List.getElem_append_left hjl]; exact h2.below hbel hB⟩
    · have hje : j = pp.length := by simp at hj; omega
      subst hje
      exact ⟨.slice b n k, by rw [List.getElem?_append_right (by omega), hxl]; simp, by simpa using hq.below hbel hB⟩

/-- The pieces are returned; nothing that was there has turned. -/
def RetPts (w : World) (B : Nat) (pp : List (List Int)) (e : Ending) (w' : World) : Prop := ∃ v, e = .returned v ∧ Pts w' w.heap.size B v pp ∧ Below w.heap.size w w'

/-- The pieces of a column; none if it is not valid. -/
noncomputable def piecesP (l r : List Int) (ps : List Pv) : List (List Int) := if isCk l r ps = true then partsK l ps (ps.length + 1) else []

set_option maxHeartbeats 2000000 in
theorem iPieces_any (v : Value) (l r : List Int) (ps : List Pv) (w : World) (B : Nat) (hv : Ck w B v l r ps) (hB : B ≤ w.heap.size) (hp : ps.length ≤ 1048576) :
    Calls Tryd.prog 16 #[v] w (RetPts w B (piecesP l r ps)) := by
  obtain ⟨a1, c1, a2, c2, a3, c3, rfl, i1, i2, i3⟩ := hv.form
  obtain ⟨hcap, -⟩ := hv.caps
  have X := hide (Kn.one w #[.slice a1 l.length c1, .slice a2 r.length c2, .slice a3 ps.length c3] 30)
  obtain ⟨w1, hw1⟩ : ∃ w1, w1 = w.alloc (.cells #[.slice a1 l.length c1, .slice a2 r.length c2, .slice a3 ps.length c3] 30) := ⟨_, rfl⟩
  have hz1 := hide (show w1.heap.size = w.heap.size + 1 by rw [hw1]; simp)
  rw [← hw1] at X
  have HI1 := hide (fun (W : World) (h : Below w.heap.size w W) => i1.below h hB)
  have HI3 := hide (fun (W : World) (h : Below w.heap.size w W) => i3.below h hB)
  have HV := hide (fun (W : World) (h : Below w.heap.size w W) => hv.below h hB)
  clear i1 i2 i3 hv
  obtain ⟨pp, hpp⟩ : ∃ pp, pp = piecesP l r ps := ⟨_, rfl⟩
  rw [← hpp]
  unfold piecesP at hpp
  obtain ⟨t, ht⟩ : ∃ t, t = isCk l r ps := ⟨_, rfl⟩
  rw [← ht] at hpp
  have HT := hide ht
  have HP := hide hpp
  clear ht hpp
  have d0 : w1.cell? ⟨w.heap.size, 0, none⟩ = some (.slice a1 l.length c1) := X.out.cell 0 0 rfl rfl
  have d1 : w1.cell? ⟨w.heap.size, 1, none⟩ = some (.slice a2 r.length c2) := X.out.cell 0 1 rfl rfl
  have d2 : w1.cell? ⟨w.heap.size, 2, none⟩ = some (.slice a3 ps.length c3) := X.out.cell 0 2 rfl rfl
  go_enter Tryd.func16, Tryd.ntmps16
  go_wp2_with fail
  rw [← hw1]
  clear hw1
  go_at_call 15
  refine (iIsCk_any _ l r ps _ B (HV.out _ X.out.below) (Nat.le_trans hB X.out.below.size)).mono ?_
  rintro e w2 ⟨rfl, hb⟩
  rw [← HT.out]
  have X := hide (X.out.up hb)
  have hz2 := hide (show w.heap.size + 1 ≤ w2.heap.size by have := hb.size; have := hz1.out; omega)
  clear hb d0 d1 d2
  cases t
  · have hf := hide (show pp = [] by rw [HP.out]; rfl)
    go_wp2_with fail
    go_ret
    exact ⟨_, rfl, by rw [hf.out]; exact Pts.nil _ _ _, X.out.below⟩
  · have hf := hide (show pp = partsK l ps (ps.length + 1) by rw [HP.out]; rfl)
    have HS := hide (isCk_parts HT.out.symm).2.2.2
    have hll := areVals_len (isCk_parts HT.out.symm).1
    have d2 : w2.cell? ⟨w.heap.size, 2, none⟩ = some (.slice a3 ps.length c3) := X.out.cell 0 2 rfl rfl
    go_wp2_with fail
    clear d2
    go_loopw [3, 4, 13] (fun u q i wr => ∃ (k : Nat), k ≤ ps.length ∧ i = .int .i64 k ∧ q = .int .i64 (stP ps k : Nat) ∧ Hid (Pts wr (w.heap.size + 1) B u (partsK l ps k)) ∧ Hid (Kn w wr [(w.heap.size, #[.slice a1 l.length c1, .slice a2 r.length c2, .slice a3 ps.length c3], 30)]) ∧ Hid (w.heap.size + 1 ≤ wr.heap.size)) (fun _ _ i _ => ps.length - (intOf i).toNat)
    case atStart => exact ⟨0, by omega, rfl, rfl, Pts.nil _ _ _, X.out, hz2.out⟩
    case round =>
      clear X
      obtain ⟨k, hk, rfl, rfl, O, Y, hsz⟩ := hrel
      have d0 : wr.cell? ⟨w.heap.size, 0, none⟩ = some (.slice a1 l.length c1) := Y.out.cell 0 0 rfl rfl
      by_cases hlt : k < ps.length
      · have hi := HI3.out _ Y.out.below
        obtain ⟨a', c', he, _, _, hcell⟩ := hi
        obtain ⟨rfl, rfl⟩ : a3 = a' ∧ c3 = c' := by
          simp only [Value.slice.injEq] at he
          exact ⟨he.1, he.2.2⟩
        obtain ⟨b, o, rfl, hbB, hc, hc2⟩ := hcell k hlt
        obtain ⟨h1, h2, h3⟩ := stP_ok HS.out k hlt
        have hpart := hide (show partAt l ps k = (l.take (stP ps (k + 1))).drop (stP ps k) by unfold partAt; rw [if_pos hlt])
        obtain ⟨p, hp⟩ : ∃ p, p = ps[k] := ⟨_, rfl⟩
        rw [← hp] at hc hc2 h3
        obtain ⟨x, y⟩ := p
        simp only at hc hc2 h3
        subst h3
        obtain ⟨lo, hlo⟩ : ∃ lo, lo = stP ps k := ⟨_, rfl⟩
        obtain ⟨hi, hhi⟩ : ∃ hi, hi = stP ps (k + 1) := ⟨_, rfl⟩
        rw [← hlo, ← hhi] at hpart
        rw [← hlo] at h1 ⊢
        rw [← hhi] at h1 h2 hc2
        have HHI := hide hhi
        have Z := hide (Y.out.alloc #[.int .i64 x, .int .i64 (hi : Nat)] 38)
        have e0 : (wr.alloc (.cells #[.int .i64 x, .int .i64 (hi : Nat)] 38)).cell? ⟨w.heap.size, 0, none⟩ = some (.slice a1 l.length c1) := Z.out.cell 0 0 rfl rfl
        clear he hcell hp hlo hhi d0
        have OX := hide (O.out.below (below1 wr (.cells #[.int .i64 x, .int .i64 (hi : Nat)] 38)) (Nat.le_trans hB Y.out.below.size))
        have hszx := hide (show w.heap.size + 1 ≤ (wr.alloc (.cells #[.int .i64 x, .int .i64 (hi : Nat)] 38)).heap.size by have := hsz.out; simp; omega)
        have hlo0 : lo ≤ c1 := by omega
        have hhi0 : hi ≤ c1 := by omega
        obtain ⟨uv, ucap, huf⟩ := O.out.form
        rw [partsK_length] at huf
        subst huf
        have HRG := hide (O.out.range)
        have ZO := hide (fun (W' : World) (hq3 : ∀ j, j < (wr.alloc (.cells #[.int .i64 x, .int .i64 (hi : Nat)] 38)).heap.size → some j ≠ (Value.slice uv k ucap).ownBlock → W'.heap[j]? = (wr.alloc (.cells #[.int .i64 x, .int .i64 (hi : Nat)] 38)).heap[j]?) => fun e he => hq3 _ (Z.out.hold_lt e he) (fun h => by
            have := HRG.out e.1 h.symm
            rcases List.mem_append.1 he with he | he
            · obtain rfl : e = _ := by simpa using he
              omega
            · obtain rfl : e = _ := by simpa using he
              omega))
        by_cases hcl : c1 = lo
        · subst hcl
          have HQ := hide (show Ints _ B (.slice a1 0 0) ((l.take hi).drop c1) by
            have := Ints.sub (HI1.out _ Z.out.below) c1 hi 0 h1 h2 hcap
            rwa [if_pos rfl, show hi - c1 = 0 by omega] at this)
          go_wp2_with (first | (at_builtin; refine pts_append _ rfl _ _ rfl (w.heap.size + 1) B _ _ OX.out rfl _ _ _ _ HQ.out _ _ rfl (by simp) (by rw [partsK_length]; omega) hszx.out (Nat.le_trans hB (Nat.le_succ _)) ?_; intro v3 w3 hown3 hb3 hq3; have Z2 := hide (Z.out.other hb3 (Nat.le_succ _) (ZO.out _ hq3)); have p1 : w3.cell? ⟨wr.heap.size, 1, none⟩ = some (.int .i64 (hi : Nat)) := Z2.out.cell 1 1 rfl rfl) | fail)
          have Y2 := hide (Z2.out.sub (List.sublist_append_left _ _))
          have O2 := hide hown3
          have hsz2 := hide (Nat.le_trans hszx.out hb3.size)
          clear hown3 hb3 e0
          go_roundw
          case rel => exact ⟨k + 1, by omega, by go_num, by rw [HHI.out], by rw [partsK_succ, hpart.out]; exact O2.out, Y2.out, hsz2.out⟩
          case measure => simp [intOf]; omega
        · have HQ := hide (show Ints _ B (.slice (a1.map fun x => x.add lo) (hi - lo) (c1 - lo)) ((l.take hi).drop lo) by
            have := Ints.sub (HI1.out _ Z.out.below) lo hi (c1 - lo) h1 h2 hcap
            rwa [if_neg hcl] at this)
          go_wp2_with (first | (at_builtin; refine pts_append _ rfl _ _ rfl (w.heap.size + 1) B _ _ OX.out rfl _ _ _ _ HQ.out _ _ rfl (by simp) (by rw [partsK_length]; omega) hszx.out (Nat.le_trans hB (Nat.le_succ _)) ?_; intro v3 w3 hown3 hb3 hq3; have Z2 := hide (Z.out.other hb3 (Nat.le_succ _) (ZO.out _ hq3)); have p1 : w3.cell? ⟨wr.heap.size, 1, none⟩ = some (.int .i64 (hi : Nat)) := Z2.out.cell 1 1 rfl rfl) | fail)
          have Y2 := hide (Z2.out.sub (List.sublist_append_left _ _))
          have O2 := hide hown3
          have hsz2 := hide (Nat.le_trans hszx.out hb3.size)
          clear hown3 hb3 e0
          go_roundw
          case rel => exact ⟨k + 1, by omega, by go_num, by rw [HHI.out], by rw [partsK_succ, hpart.out]; exact O2.out, Y2.out, hsz2.out⟩
          case measure => simp [intOf]; omega
      · have hke : k = ps.length := by omega
        subst hke
        have h1 := stP_le HS.out ps.length (Nat.le_refl _)
        have hpart := hide (show partAt l ps ps.length = (l.take l.length).drop (stP ps ps.length) by unfold partAt; rw [if_neg (by omega), List.take_of_length_le (Nat.le_refl _)])
        obtain ⟨lo, hlo⟩ : ∃ lo, lo = stP ps ps.length := ⟨_, rfl⟩
        rw [← hlo] at hpart h1 ⊢
        have hlo0 : lo ≤ c1 := by omega
        clear hlo
        obtain ⟨uv, ucap, huf⟩ := O.out.form
        rw [partsK_length] at huf
        subst huf
        by_cases hcl : c1 = lo
        · subst hcl
          have HQ := hide (show Ints wr B (.slice a1 0 0) ((l.take l.length).drop c1) by
            have := Ints.sub (HI1.out _ Y.out.below) c1 l.length 0 h1 (Nat.le_refl _) hcap
            rwa [if_pos rfl, show l.length - c1 = 0 by omega] at this)
          go_wp2_with (first | (at_builtin; refine pts_append _ rfl _ _ rfl (w.heap.size + 1) B _ _ O.out rfl _ _ _ _ HQ.out _ _ rfl rfl (by rw [partsK_length]; omega) hsz.out (Nat.le_trans hB (Nat.le_succ _)) ?_; intro v3 w3 hown3 hb3 hq3) | fail)
          have O2 := hide hown3
          have Y2 := hide (Y.out.at' hb3 (Nat.le_succ _) (by simp))
          clear hown3 hb3
          go_ret
          exact ⟨_, rfl, by rw [hf.out, partsK_succ, hpart.out]; exact O2.out.lower (Nat.le_succ _), Y2.out.below⟩
        · have HQ := hide (show Ints wr B (.slice (a1.map fun x => x.add lo) (l.length - lo) (c1 - lo)) ((l.take l.length).drop lo) by
            have := Ints.sub (HI1.out _ Y.out.below) lo l.length (c1 - lo) h1 (Nat.le_refl _) hcap
            rwa [if_neg hcl] at this)
          go_wp2_with (first | (at_builtin; refine pts_append _ rfl _ _ rfl (w.heap.size + 1) B _ _ O.out rfl _ _ _ _ HQ.out _ _ rfl rfl (by rw [partsK_length]; omega) hsz.out (Nat.le_trans hB (Nat.le_succ _)) ?_; intro v3 w3 hown3 hb3 hq3) | fail)
          have O2 := hide hown3
          have Y2 := hide (Y.out.at' hb3 (Nat.le_succ _) (by simp))
          clear hown3 hb3
          go_ret
          exact ⟨_, rfl, by rw [hf.out, partsK_succ, hpart.out]; exact O2.out.lower (Nat.le_succ _), Y2.out.below⟩

end Go.Proofs.YtknmoinmfladbaaDoor
