/- What ScanRange returns, of the reference and of the program (promise 2). -/
import Derived.Test.YtgeegbbcjdlkbaaRng2
import Derived.Test.YtgeegbbcjdlkbaaKn
namespace Go.Proofs.Ytgeegbbcjdlkbaa
open Go.RowKit Go.ChangeShapes
set_option linter.unusedSimpArgs false
set_option linter.unusedVariables false
set_option maxRecDepth 100000

theorem Kn.at' {w W W' : World} {L : List (Nat × Array Value × TypeId)} {B : Nat} (h : Kn w W L) (hb : Below B W W') (hB : w.heap.size ≤ B) (hL : ∀ e ∈ L, e.1 < B) : Kn w W' L :=
  ⟨h.below.trans (hb.mono hB), fun e he => by rw [hb.block _ (hL e he)]; exact h.hold e he, h.high, h.nodup⟩

theorem Is.nil (w : World) (base : Nat) (e : TypeId) : Is w base e (.slice none 0 0) [] := World.ownsRow_nil _ _ _ _
theorem Is.made (w : World) (base : Nat) (e : TypeId) (hb : base ≤ w.heap.size) : Is (w.alloc (.cells #[] e)) base e (.slice (some ⟨w.heap.size, 0, none⟩) 0 0) [] :=
  World.ownsRow_made w #[] 0 hb (by unfold maxLen; omega) rfl

/-- out = append(out, x): x lies in a block of one cell that was just made. -/
theorem is_append1 {P : Program} (W : World) {ops : Array Oper} {rest : List Oper} {o : Oper} {a : Act} {Q : Exit → Act → World → Prop} (hgd : o.guard = none) (s x : Operand) (t : TypeId)
    (ho : o.op = .call { callee := .builtin .append, args := #[s, x], argTypes := #[t, t] })
    (base : Nat) (e : TypeId) (ht : P.underlying t = some (.slice e)) (hinf : (P.info? e).map (fun i => (i.zero, i.size, i.bytes)) = some (some (.int .i64 0), 1, 8))
    (v : Value) (l : List Int) (hown : Is W base e v l) (hs : a.eval s = v) (b : Int) (c : Nat)
    (hx : a.eval x = .slice (some ⟨W.heap.size, 0, none⟩) 1 c) (hlen : l.length < 1099511627776) (hbase : base ≤ W.heap.size)
    (h : ∀ v' w', Is w' base e v' (l ++ [b]) → Below base W w' → wpList P ops Q rest (a.put o.dst v') w') :
    wpList P ops Q (o :: rest) a (W.alloc (.cells #[.int .i64 b] e)) := by
  obtain ⟨i0, hi, hz0, hz1, hz2⟩ := info_parts hinf
  refine wpList_append_own _ hgd s x t ho base e i0 (.int .i64 0) 1 8 ht hi hz0 hz1 hz2 rfl (by decide) v l.length (intVs l) hs (World.ownsRow.alloc hown _) ⟨W.heap.size, 0, none⟩ 1 c [.int .i64 b] hx rfl ?_ ?_ ?_ ?_ ?_ ?_
  · intro j u hj
    match j, hj with
    | 0, hj => simp at hj; subst hj; simp [Addr.add]
  · intro u hu; simp at hu; subst hu; rfl
  · unfold maxLen; omega
  · omega
  · simp; omega
  · intro v' w' hown' hgrow _
    refine h v' w' ?_ ?_
    · unfold Is
      rw [show intVs (l ++ [b]) = intVs l ++ [.int .i64 b] by simp [intVs], List.length_append]
      exact hown'
    · exact (((Below.refl base W).alloc hbase _).grown hgrow (by simp; omega) (fun k hk => (World.ownsRow.lt hown k hk).1))

/-- The indices below k of the numbers in the range. -/
def scanK (l : List Int) (f t : Int) (k : Nat) : List Int := ((List.range k).filter fun i => inR f t (l.getD i 0)).map fun (i : Nat) => (i : Int)

theorem scanK_length (l : List Int) (f t : Int) (k : Nat) : (scanK l f t k).length ≤ k := by
  unfold scanK
  rw [List.length_map]
  exact Nat.le_trans (List.length_filter_le _ _) (by simp)

theorem scanK_yes {l : List Int} {f t x : Int} {k : Nat} (hk : k < l.length) (hx : x = l[k]) (h : inR f t x = true) : scanK l f t (k + 1) = scanK l f t k ++ [(k : Int)] := by
  unfold scanK
  rw [List.range_succ, List.filter_append, List.map_append]
  have e : l.getD k 0 = x := by rw [List.getD_eq_getElem?_getD, List.getElem?_eq_getElem hk, hx]; rfl
  rw [show ([k].filter fun i => inR f t (l.getD i 0)) = [k] by rw [List.filter_cons, if_pos (by rw [e]; exact h)]; rfl]
  rfl

theorem scanK_no {l : List Int} {f t x : Int} {k : Nat} (hk : k < l.length) (hx : x = l[k]) (h : inR f t x = false) : scanK l f t (k + 1) = scanK l f t k := by
  unfold scanK
  rw [List.range_succ, List.filter_append, List.map_append]
  have e : l.getD k 0 = x := by rw [List.getD_eq_getElem?_getD, List.getElem?_eq_getElem hk, hx]; rfl
  rw [show ([k].filter fun i => inR f t (l.getD i 0)) = [] by rw [List.filter_cons, if_neg (by rw [e, h]; simp)]; rfl]
  simp

theorem scanK_wf (l : List Int) (f t : Int) (k : Nat) (hk : k ≤ 9223372036854775807) : ∀ x ∈ scanK l f t k, I64 x := by
  intro x hx
  unfold scanK at hx
  obtain ⟨i, hi, rfl⟩ := List.mem_map.1 hx
  have := List.mem_range.1 (List.mem_filter.1 hi).1
  exact ⟨by omega, by omega⟩

theorem sInR_at {f t v : Int} {r : Bool} (h : inR f t v = r) (w : World) : Calls Try.prog 10 #[.agg #[.int .i64 f, .int .i64 t], .int .i64 v] w (RetB1 w r) := by rw [← h]; exact sInR_any f t v w
theorem iInR_at {f t v : Int} {r : Bool} (h : inR f t v = r) (w : World) : Calls Try.prog 11 #[.agg #[.int .i64 f, .int .i64 t], .int .i64 v] w (RetB1 w r) := by rw [← h]; exact iInR_any f t v w

set_option maxHeartbeats 4000000 in
theorem sScan_any (v : Value) (l : List Int) (f t : Int) (w : World) (B : Nat) (hv : Ints w B v l) (hB : B ≤ w.heap.size) (hl : l.length ≤ 1048576) :
    Calls Try.prog 15 #[v, .agg #[.int .i64 f, .int .i64 t]] w (RetIs 3 w (scanK l f t l.length)) := by
  obtain ⟨a, cap, rfl, hlen, hwf, hcell⟩ := hv
  have HC := hide hcell
  clear hcell hwf
  have X := hide (Kn.one w #[.int .i64 f, .int .i64 t] 25)
  obtain ⟨w1, hw1⟩ : ∃ w1, w1 = w.alloc (.cells #[.int .i64 f, .int .i64 t] 25) := ⟨_, rfl⟩
  have hz1 : w1.heap.size = w.heap.size + 1 := by rw [hw1]; simp
  rw [← hw1] at X
  have X := hide (X.out.up ((Below.refl _ _).alloc (Nat.le_refl _) (.cells #[] 3)))
  have O1 := hide (Is.made w1 (w.heap.size + 1) 3 (Nat.le_of_eq hz1.symm))
  have hz := hide (show w.heap.size + 1 ≤ (w1.alloc (.cells #[] 3)).heap.size by simp; omega)
  rw [hz1] at O1
  have hz1 := hide hz1
  go_enter Try.func15, Try.ntmps15
  go_wp2_with fail
  rw [← hw1]
  clear hw1
  go_loopw [5, 6] (fun v i wr => ∃ (k : Nat) (m : List Int), k ≤ l.length ∧ i = .int .i64 k ∧ Hid (m = scanK l f t k) ∧ Hid (Is wr (w.heap.size + 1) 3 v m) ∧ Hid (Kn w wr [(w.heap.size, #[.int .i64 f, .int .i64 t], 25)]) ∧ Hid (w.heap.size + 1 ≤ wr.heap.size)) (fun _ i _ => l.length - (intOf i).toNat)
  case atStart => exact ⟨0, [], by omega, rfl, rfl, O1.out, X.out, hz.out⟩
  case round =>
    clear O1 X
    obtain ⟨k, m, hk, rfl, hm, O, X, hsz⟩ := hrel
    by_cases hlt : k < l.length
    · obtain ⟨b, o, rfl, hbB, hc⟩ := HC.out k hlt
      obtain ⟨x, hx⟩ : ∃ x, x = l[k] := ⟨_, rfl⟩
      rw [← hx] at hc
      have HX := hide hx
      have c1 : wr.cell? ⟨b, o + k, none⟩ = some (.int .i64 x) := by rw [X.out.below.cell (p := ⟨b, o + k, none⟩) (Nat.lt_of_lt_of_le hbB hB)]; exact hc
      have d0 := X.out.cell 0 0 rfl rfl
      have d1 := X.out.cell 0 1 rfl rfl
      have hml := scanK_length l f t k
      have hBr : B ≤ wr.drew.heap.size := Nat.le_trans hB X.out.below.size
      rw [← hm.out] at hml
      clear hx hc
      cases hr : inR f t x
      · have HR := hide hr
        have HN := hide (scanK_no hlt HX.out hr)
        clear hr
        go_wp2_with fail
        go_region_held3 (fun w' => w'.cell? ⟨w.heap.size, 0, none⟩ = some (.int .i64 f) ∧ w'.cell? ⟨w.heap.size, 1, none⟩ = some (.int .i64 t) ∧ w'.cell? ⟨b, o + k, none⟩ = some (.int .i64 x)) (first | exact ⟨e0, e1, e2⟩ | go_keep) (first
          | (go_at_call 10; refine (sInR_at HR.out _).mono ?_; rintro e wa ⟨rfl, hb⟩; have X := hide (X.out.drew.up hb); have O := hide (Is.below (w := wr.drew) O.out hb); have hsz := hide (Nat.le_trans hsz.out hb.size); have e0 := X.out.cell 0 0 rfl rfl; have e1 := X.out.cell 0 1 rfl rfl; have e2 := (hb.cell (p := ⟨b, o + k, none⟩) (Nat.lt_of_lt_of_le hbB hBr)).trans c1))
        go_wp2_with fail
        go_roundw
        case rel => exact ⟨k + 1, m, by omega, by go_num, by show _ = _; rw [HN.out]; exact hm.out, O.out, X.out, hsz.out⟩
        case measure => simp [intOf]; omega
      · have HR := hide hr
        have HN := hide (scanK_yes hlt HX.out hr)
        clear hr
        go_wp2_with fail
        go_region_held3 (fun w' => w'.cell? ⟨w.heap.size, 0, none⟩ = some (.int .i64 f) ∧ w'.cell? ⟨w.heap.size, 1, none⟩ = some (.int .i64 t) ∧ w'.cell? ⟨b, o + k, none⟩ = some (.int .i64 x)) (first | exact ⟨e0, e1, e2⟩ | go_keep) (first
          | (go_at_call 10; refine (sInR_at HR.out _).mono ?_; rintro e wa ⟨rfl, hb⟩; have X := hide (X.out.drew.up hb); have O := hide (Is.below (w := wr.drew) O.out hb); have hsz := hide (Nat.le_trans hsz.out hb.size); have e0 := X.out.cell 0 0 rfl rfl; have e1 := X.out.cell 0 1 rfl rfl; have e2 := (hb.cell (p := ⟨b, o + k, none⟩) (Nat.lt_of_lt_of_le hbB hBr)).trans c1))
        go_wp2_with (first | (at_builtin; refine is_append1 wa rfl _ _ 33 rfl (w.heap.size + 1) 3 Try.underlying33 infoI _ m O.out rfl _ _ rfl (by omega) hsz.out ?_; intro v2 w2 hown2 hb2) | fail)
        have X := hide (X.out.at' hb2 (by omega) (by simp))
        have O := hide hown2
        have hsz := hide (Nat.le_trans hsz.out hb2.size)
        clear hown2 hb2
        go_roundw
        case rel => exact ⟨k + 1, m ++ [(k : Int)], by omega, by go_num, by show _ = _; rw [HN.out, ← hm.out], O.out, X.out, hsz.out⟩
        case measure => simp [intOf]; omega
    · have hke : k = l.length := by omega
      subst hke
      go_wp2_with fail
      go_ret
      exact ⟨_, rfl, by rw [← hm.out]; exact O.out.lower (by omega), X.out.below⟩

set_option maxHeartbeats 2000000 in
theorem iScan_any (v : Value) (l : List Int) (f t : Int) (w : World) (B : Nat) (hv : Ints w B v l) (hB : B ≤ w.heap.size) (hl : l.length ≤ 1048576) :
    Calls Try.prog 17 #[v, .agg #[.int .i64 f, .int .i64 t]] w (RetIs 3 w (scanK l f t l.length)) := by
  obtain ⟨a, cap, rfl, hlen, hwf, hcell⟩ := hv
  have HC := hide hcell
  clear hcell hwf
  have X := hide (Kn.one w #[.int .i64 f, .int .i64 t] 25)
  obtain ⟨w1, hw1⟩ : ∃ w1, w1 = w.alloc (.cells #[.int .i64 f, .int .i64 t] 25) := ⟨_, rfl⟩
  have hz1 : w1.heap.size = w.heap.size + 1 := by rw [hw1]; simp
  have hz := hide hz1
  have O1 := hide (Is.nil w1 (w.heap.size + 1) 3)
  clear hz1
  rw [← hw1] at X
  go_enter Try.func17, Try.ntmps17
  go_wp2_with fail
  rw [← hw1]
  clear hw1
  go_loopw [5, 10] (fun v i wr => ∃ (k : Nat) (m : List Int), k ≤ l.length ∧ i = .int .i64 k ∧ Hid (m = scanK l f t k) ∧ Hid (Is wr (w.heap.size + 1) 3 v m) ∧ Hid (Kn w wr [(w.heap.size, #[.int .i64 f, .int .i64 t], 25)]) ∧ Hid (w.heap.size + 1 ≤ wr.heap.size)) (fun _ i _ => l.length - (intOf i).toNat)
  case atStart => exact ⟨0, [], by omega, rfl, rfl, O1.out, X.out, Nat.le_of_eq hz.out.symm⟩
  case round =>
    clear O1 X
    obtain ⟨k, m, hk, rfl, hm, O, X, hsz⟩ := hrel
    by_cases hlt : k < l.length
    · obtain ⟨b, o, rfl, hbB, hc⟩ := HC.out k hlt
      obtain ⟨x, hx⟩ : ∃ x, x = l[k] := ⟨_, rfl⟩
      rw [← hx] at hc
      have HX := hide hx
      have c1 : wr.cell? ⟨b, o + k, none⟩ = some (.int .i64 x) := by rw [X.out.below.cell (p := ⟨b, o + k, none⟩) (Nat.lt_of_lt_of_le hbB hB)]; exact hc
      have d0 := X.out.cell 0 0 rfl rfl
      have d1 := X.out.cell 0 1 rfl rfl
      have hml := scanK_length l f t k
      rw [← hm.out] at hml
      clear hx hc
      cases hr : inR f t x
      · have HR := hide hr
        have HN := hide (scanK_no hlt HX.out hr)
        clear hr
        go_wp2_with fail
        refine (iInR_at HR.out _).mono ?_
        rintro e wa ⟨rfl, hb⟩
        have X := hide (X.out.up hb)
        have O := hide (O.out.below hb)
        have hsz := hide (Nat.le_trans hsz.out hb.size)
        clear hb
        go_wp2_with fail
        go_roundw
        case rel => exact ⟨k + 1, m, by omega, by go_num, by show _ = _; rw [HN.out]; exact hm.out, O.out, X.out, hsz.out⟩
        case measure => simp [intOf]; omega
      · have HR := hide hr
        have HN := hide (scanK_yes hlt HX.out hr)
        clear hr
        go_wp2_with fail
        refine (iInR_at HR.out _).mono ?_
        rintro e wa ⟨rfl, hb⟩
        have X := hide (X.out.up hb)
        have O := hide (O.out.below hb)
        have hsz := hide (Nat.le_trans hsz.out hb.size)
        clear hb
        go_wp2_with (first | (at_builtin; refine is_append1 wa rfl _ _ 33 rfl (w.heap.size + 1) 3 Try.underlying33 infoI _ m O.out rfl _ _ rfl (by omega) hsz.out ?_; intro v2 w2 hown2 hb2) | fail)
        have X := hide (X.out.at' hb2 (by omega) (by simp))
        have O := hide hown2
        have hsz := hide (Nat.le_trans hsz.out hb2.size)
        clear hown2 hb2
        go_roundw
        case rel => exact ⟨k + 1, m ++ [(k : Int)], by omega, by go_num, by show _ = _; rw [HN.out, ← hm.out], O.out, X.out, hsz.out⟩
        case measure => simp [intOf]; omega
    · have hke : k = l.length := by omega
      subst hke
      go_wp2_with fail
      go_ret
      exact ⟨_, rfl, by rw [← hm.out]; exact O.out.lower (by omega), X.out.below⟩

end Go.Proofs.Ytgeegbbcjdlkbaa
