/- What Partition of the reference returns (promise 3). -/
import Derived.Test.YtepkkeclkdlheaaSw
import Derived.Test.YtepkkeclkdlheaaCkN
namespace Go.Proofs.Ytepkkeclkdlheaa
open Go.RowKit Go.ChangeShapes
set_option linter.unusedSimpArgs false
set_option linter.unusedVariables false
set_option maxRecDepth 100000

/-- The swaps of a partition of the places from i up to e, and its place (f: at least as many rounds as places). -/
def part (l : List Int) (p : Int) : Nat → Nat → Nat → List Pv × Nat
  | 0, i, _ => ([], i)
  | f + 1, i, e => if i < e then (if l.getD i 0 < p then part l p f (i + 1) e else if p ≤ l.getD (e - 1) 0 then part l p f i (e - 1) else (((i : Int), (e : Int) - 1) :: (part l p f (i + 1) (e - 1)).1, (part l p f (i + 1) (e - 1)).2)) else ([], i)

theorem part_step (l : List Int) (p : Int) (f i e : Nat) (h : i < e) : part l p (f + 1) i e = if l.getD i 0 < p then part l p f (i + 1) e else if p ≤ l.getD (e - 1) 0 then part l p f i (e - 1) else (((i : Int), (e : Int) - 1) :: (part l p f (i + 1) (e - 1)).1, (part l p f (i + 1) (e - 1)).2) := by
  rw [part, if_pos h]

theorem part_stop (l : List Int) (p : Int) (f i e : Nat) (h : ¬ i < e) : part l p f i e = ([], i) := by
  cases f with
  | zero => rfl
  | succ f => rw [part, if_neg h]

/-- The swaps of Partition and its place. -/
def partP (l : List Int) (a b p : Int) : List Pv × Int := if 0 ≤ a ∧ a ≤ b ∧ b ≤ l.length then ((part l p (b - a).toNat a.toNat b.toNat).1, ((part l p (b - a).toNat a.toNat b.toNat).2 : Int)) else ([], 0)

/-- Swaps of the call's own and a place are returned; nothing that was there has turned. -/
def RetSI (w : World) (p : List Pv × Int) (e : Ending) (w' : World) : Prop := ∃ v, e = .returned (.tuple #[v, .int .i64 p.2]) ∧ OwS w' w.heap.size v p.1 ∧ Below w.heap.size w w'

theorem OwS.nil (w : World) (base : Nat) : OwS w base (.slice none 0 0) [] := World.ownsRow_nil _ _ _ _
theorem OwS.made (w : World) (base : Nat) (hb : base ≤ w.heap.size) : OwS (w.alloc (.cells #[] 111)) base (.slice (some ⟨w.heap.size, 0, none⟩) 0 0) [] :=
  World.ownsRow_made w #[] 0 hb (by unfold maxLen; omega) rfl

/-- out = append(out, s): s lies in a block that was just made. -/
theorem os_append (W : World) {ops : Array Oper} {rest : List Oper} {o : Oper} {a : Act} {Q : Exit → Act → World → Prop} (hgd : o.guard = none) (s x : Operand)
    (ho : o.op = .call { callee := .builtin .append, args := #[s, x], argTypes := #[76, 76] })
    (base : Nat) (v : Value) (ps : List Pv) (hown : OwS W base v ps) (hs : a.eval s = v) (i j : Int) (c g : Nat)
    (hx : a.eval x = .slice (some ⟨g, 0, none⟩) 1 c) (hg : g = W.heap.size) (hlen : ps.length < 1099511627776) (hbase : base ≤ W.heap.size)
    (h : ∀ v' w', OwS w' base v' (ps ++ [(i, j)]) → Below base W w' → (∀ k, k < W.heap.size → some k ≠ v.ownBlock → w'.heap[k]? = W.heap[k]?) → wpList Try.prog ops Q rest (a.put o.dst v') w') :
    wpList Try.prog ops Q (o :: rest) a (W.alloc (.cells #[.int .i64 i, .int .i64 j] 111)) := by
  subst hg
  obtain ⟨i0, hi, hz0, hz1, hz2⟩ := info_parts infoSwp
  refine wpList_append_own _ hgd s x 76 ho base 111 i0 _ 2 16 Try.underlying76 hi hz0 hz1 hz2 rfl (by decide) v ps.length (pvVs ps) hs (World.ownsRow.alloc hown _) ⟨W.heap.size, 0, none⟩ 1 c [.int .i64 i, .int .i64 j] hx rfl ?_ ?_ ?_ ?_ ?_ ?_
  · intro k u hk
    match k, hk with
    | 0, hk => simp at hk; subst hk; simp [Addr.add]
    | 1, hk => simp at hk; subst hk; simp [Addr.add]
  · intro u hu; simp at hu; rcases hu with rfl | rfl <;> rfl
  · unfold maxLen; omega
  · omega
  · simp; omega
  · intro v' w' hown' hgrow _
    refine h v' w' ?_ (((Below.refl base W).alloc hbase _).grown hgrow (by simp; omega) (fun k hk => (World.ownsRow.lt hown k hk).1)) (fun k hk hne => by rw [hgrow.block k (by simp; omega) hne, Below.heap_alloc _ _ _ hk])
    unfold OwS
    rw [pvVs_append, List.length_append]
    exact hown'

set_option maxHeartbeats 4000000 in
theorem sPart_any (v : Value) (l : List Int) (a b p : Int) (w : World) (B : Nat) (hv : Ints w B v l) (hB : B ≤ w.heap.size) (hl : l.length ≤ 1048576) :
    Calls Try.prog 125 #[v, .int .i64 a, .int .i64 b, .int .i64 p] w (RetSI w (partP l a b p)) := by
  obtain ⟨ad, cap, rfl, hlen, -, hcell⟩ := hv
  have HC := hide hcell
  clear hcell
  obtain ⟨R, hR⟩ : ∃ R, R = partP l a b p := ⟨_, rfl⟩
  rw [← hR]
  unfold partP at hR
  have O1 := hide (OwS.made w w.heap.size (Nat.le_refl _))
  have B1 := hide (below1 w (.cells #[] 111))
  obtain ⟨w1, hw1⟩ : ∃ w1, w1 = w.alloc (.cells #[] 111) := ⟨_, rfl⟩
  rw [← hw1] at O1 B1
  by_cases h1 : 0 ≤ a ∧ a ≤ b
  · by_cases h2 : b ≤ (l.length : Int)
    · obtain ⟨n, rfl⟩ := Int.eq_ofNat_of_zero_le h1.1
      obtain ⟨e, rfl⟩ := Int.eq_ofNat_of_zero_le (show 0 ≤ b by omega)
      rw [if_pos ⟨h1.1, h1.2, h2⟩] at hR
      have HR := hide (show R = ((part l p (e - n) n e).1, ((part l p (e - n) n e).2 : Int)) by rw [hR]; simp only [Int.toNat_natCast]; rw [show ((e : Int) - (n : Int)).toNat = e - n by omega])
      have hne : n ≤ e := by omega
      have hel : e ≤ l.length := by omega
      have t1 : decide (l.length < e) = false := by simp; omega
      have C1 := hide (fun (W : World) => in_yes (n : Int) 0 e W (by omega) (by omega))
      clear hR h1 h2
      go_enter Try.func125, Try.ntmps125
      go_wp2_with fail
      rw [← hw1]
      try clear hw1
      go_at_call 81
      refine (C1.out _).mono ?_
      rintro e' wa ⟨rfl, rfl⟩
      go_wp2_with fail
      go_loopw [10, 11, 12] (fun u x y wr => ∃ (f i j : Nat) (z : Int) (out : List Pv), x = .int .i64 i ∧ z = (j : Int) - 1 ∧ y = .int .i64 z ∧ j ≤ e ∧ i ≤ e ∧ i ≤ j + 1 ∧ Hid (j - i ≤ f) ∧ Hid (R = (out ++ (part l p f i j).1, ((part l p f i j).2 : Int))) ∧ Hid (OwS wr w.heap.size u out) ∧ Hid (out.length + j ≤ 2097152) ∧ Hid (Below w.heap.size w wr)) (fun _ x y _ => (intOf y + 1 - intOf x + 1).toNat)
      case atStart => exact ⟨e - n, n, e, _, [], rfl, rfl, rfl, by omega, by omega, by omega, Nat.le_refl _, by simpa [Hid] using HR.out, O1.out, by simp [Hid]; omega, B1.out⟩
      case round =>
        clear O1 B1 HR
        obtain ⟨f, i, j, z, out, rfl, hz, rfl, hje, hie, hij, hf, hR, O, hol, hb⟩ := hrel
        by_cases hlt : i < j
        · obtain ⟨q, rfl⟩ : ∃ q, j = q + 1 := ⟨j - 1, by omega⟩
          obtain rfl : z = (q : Int) := by omega
          obtain ⟨f', rfl⟩ : ∃ f', f = f' + 1 := ⟨f - 1, by have := hf.out; omega⟩
          have hst := part_step l p f' i (q + 1) hlt
          have hil : i < l.length := by omega
          have hql : q < l.length := by omega
          obtain ⟨b1, o1, rfl, hb1, hc1⟩ := HC.out i hil
          obtain ⟨b2, o2, he2, hb2, hc2⟩ := HC.out q hql
          obtain ⟨rfl, rfl⟩ : b1 = b2 ∧ o1 = o2 := by simpa using he2
          rw [Nat.add_sub_cancel, show l.getD i 0 = l[i] by rw [List.getD_eq_getElem?_getD, List.getElem?_eq_getElem hil]; rfl, show l.getD q 0 = l[q] by rw [List.getD_eq_getElem?_getD, List.getElem?_eq_getElem hql]; rfl] at hst
          obtain ⟨x, hx⟩ : ∃ x, x = l[i] := ⟨_, rfl⟩
          obtain ⟨y, hy⟩ : ∃ y, y = l[q] := ⟨_, rfl⟩
          rw [← hx] at hc1 hst
          rw [← hy] at hc2 hst
          have d1 : wr.cell? ⟨b1, o1 + i, none⟩ = some (.int .i64 x) := by rw [hb.out.cell (p := ⟨b1, o1 + i, none⟩) (Nat.lt_of_lt_of_le hb1 hB)]; exact hc1
          have d2 : wr.cell? ⟨b1, o1 + q, none⟩ = some (.int .i64 y) := by rw [hb.out.cell (p := ⟨b1, o1 + q, none⟩) (Nat.lt_of_lt_of_le hb1 hB)]; exact hc2
          have t0 : decide (i ≤ q) = true := by simp; omega
          have hfo := hf.out
          clear he2 hb2 hc1 hc2 hx hy hf hz
          by_cases e1 : x < p
          · have hn := hide (show R = (out ++ (part l p f' (i + 1) (q + 1)).1, ((part l p f' (i + 1) (q + 1)).2 : Int)) by rw [hR.out, hst, if_pos e1])
            have t1 : decide (x < p) = true := by simp; omega
            clear hst e1
            go_wp2_with fail
            go_roundw
            case rel => exact ⟨f', i + 1, q + 1, (q : Int), out, by go_num, by omega, rfl, hje, by omega, by omega, by show _ ≤ _; omega, hn, O.out, hol.out, hb.out⟩
            case measure => simp [intOf]; omega
          · have t1 : decide (x < p) = false := by simp; omega
            by_cases e2 : p ≤ y
            · have hn := hide (show R = (out ++ (part l p f' i q).1, ((part l p f' i q).2 : Int)) by rw [hR.out, hst, if_neg e1, if_pos e2])
              have t2 : decide (y ≥ p) = true := by simp; omega
              have t3 : decide (p ≤ y) = true := by simp; omega
              have hol2 := hide (show out.length + q ≤ 2097152 by have := hol.out; omega)
              clear hst e1 e2
              go_wp2_with fail
              go_roundw
              case rel => exact ⟨f', i, q, (q : Int) - 1, out, rfl, rfl, by go_num, by omega, by omega, by omega, by show _ ≤ _; omega, hn, O.out, hol2.out, hb.out⟩
              case measure => simp [intOf]; omega
            · have hn := hide (show R = ((out ++ [((i : Int), (q : Int))]) ++ (part l p f' (i + 1) q).1, ((part l p f' (i + 1) q).2 : Int)) by rw [hR.out, hst, if_neg e1, if_neg e2]; simp)
              have t2 : decide (y ≥ p) = false := by simp; omega
              have t3 : decide (p ≤ y) = false := by simp; omega
              have hol2 := hide (show (out ++ [((i : Int), (q : Int))]).length + q ≤ 2097152 by have := hol.out; simp; omega)
              have hbs := hide hb.out.size
              obtain ⟨uv, ucap, huf⟩ := O.out.form
              subst huf
              clear hst e1 e2
              go_wp2_with (first | (at_builtin; refine os_append _ rfl _ _ rfl w.heap.size _ _ O.out rfl _ _ _ _ rfl rfl (by have := hol.out; omega) hbs.out ?_; intro v5 w5 hown5 hb5 hq5) | fail)
              have O := hide hown5
              have hb := hide (hb.out.trans hb5)
              clear hown5 hb5 hq5
              go_roundw
              case rel => exact ⟨f', i + 1, q, (q : Int) - 1, out ++ [((i : Int), (q : Int))], by go_num, rfl, by go_num, by omega, by omega, by omega, by show _ ≤ _; omega, hn, O.out, hol2.out, hb.out⟩
              case measure => simp [intOf]; omega
        · have hst := part_stop l p f i j hlt
          have hn := hide (show R = (out, (i : Int)) by rw [hR.out, hst]; simp)
          have t0 : decide ((i : Int) ≤ z) = false := by simp; omega
          clear hst
          go_wp2_with fail
          go_ret2
          exact ⟨_, by rw [hn.out]; rfl, by rw [hn.out]; exact O.out, hb.out⟩
    · have hf := hide (show R = ([], 0) by rw [hR, if_neg (fun h => h2 h.2.2)])
      have C1 := hide (fun (W : World) => in_yes a 0 b W h1.1 h1.2)
      have t1 : decide (b > (l.length : Int)) = true := by simp; omega
      have t2 : decide ((l.length : Int) < b) = true := by simp; omega
      clear hR h1 h2
      go_enter Try.func125, Try.ntmps125
      go_wp2_with fail
      rw [← hw1]
      try clear hw1
      go_at_call 81
      refine (C1.out _).mono ?_
      rintro e' wa ⟨rfl, rfl⟩
      go_wp2_with fail
      go_ret2
      exact ⟨_, by rw [hf.out]; rfl, by rw [hf.out]; exact O1.out, B1.out⟩
  · have hf := hide (show R = ([], 0) by rw [hR, if_neg (fun h => h1 ⟨h.1, h.2.1⟩)])
    have C1 := hide (fun (W : World) => in_no a 0 b W (by omega))
    clear hR h1
    go_enter Try.func125, Try.ntmps125
    go_wp2_with fail
    rw [← hw1]
    try clear hw1
    go_at_call 81
    refine (C1.out _).mono ?_
    rintro e' wa ⟨rfl, rfl⟩
    go_wp2_with fail
    go_ret2
    exact ⟨_, by rw [hf.out]; rfl, by rw [hf.out]; exact O1.out, B1.out⟩

end Go.Proofs.Ytepkkeclkdlheaa
