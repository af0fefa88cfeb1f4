/- Several texts in one: ColOf, ColRt. -/
import Derived.Test.YtgeegbbcjdlkbaaGreatDoorRowCnt
import Derived.Test.YtgeegbbcjdlkbaaGreatDoorOwnCol
import Derived.Outline
import Derived.Lib.SliceRun
import Derived.Laws.AppendOwnNone
/- What ColumnOf returns: of the reference and of the program (promise 2). -/
namespace Go.Proofs.YtgeegbbcjdlkbaaGreatDoor
open Go.RowKit Go.ChangeShapes
set_option linter.unusedSimpArgs false
set_option linter.unusedVariables false
set_option maxRecDepth 100000

theorem made0 (w : World) (base : Nat) (e : TypeId) (hb : base ≤ w.heap.size) : Is (w.alloc (.cells #[] e)) base e (.slice (some ⟨w.heap.size, 0, none⟩) 0 0) [] :=
  World.ownsRow_made w #[] 0 hb (by unfold maxLen; omega) rfl

theorem OI.news {w : World} {e : TypeId} {g n cap : Nat} {l : List Int} {F : List Nat} (h : OI w e (.slice (some ⟨g, 0, none⟩) n cap) l F) : ∀ j u, (intVs l)[j]? = some u → w.cell? ((⟨g, 0, none⟩ : Addr).add j) = some u :=
  World.ownsRow.cells h.1 rfl

theorem intVs_one (l : List Int) : ∀ u ∈ intVs l, u.oneCell' = true := by
  intro u hu
  simp [intVs] at hu
  obtain ⟨x, _, rfl⟩ := hu
  rfl

/-- append([]int{}, v...) of owned integers. -/
theorem is_append0 {P : Program} (W : World) {ops : Array Oper} {rest : List Oper} {o : Oper} {a : Act} {Q : Exit → Act → World → Prop} (hgd : o.guard = none) (s x : Operand) (t : TypeId)
    (ho : o.op = .call { callee := .builtin .append, args := #[s, x], argTypes := #[t, t] }) (e : TypeId) (ht : P.underlying t = some (.slice e)) (hinf : (P.info? e).map (fun i => (i.zero, i.size, i.bytes)) = some (some (.int .i64 0), 1, 8))
    (w : World) (hW : W = w.alloc (.cells #[] e)) (hs : a.eval s = .slice (some ⟨w.heap.size, 0, none⟩) 0 0) (v : Value) (l : List Int) (F : List Nat) (h : OI w e v l F) (hx : a.eval x = v) (hl : l.length ≤ 1048576)
    (hk : ∀ v' w', Is w' w.heap.size e v' l → Below w.heap.size w w' → wpList P ops Q rest (a.put o.dst v') w') :
    wpList P ops Q (o :: rest) a W := by
  subst hW
  obtain ⟨i0, hi, hz0, hz1, hz2⟩ := info_parts hinf
  have hb1 := (Below.refl w.heap.size w).alloc (Nat.le_refl _) (.cells #[] e)
  have hm0 := World.ownsRow_made (base := w.heap.size) (size := 1) (e := e) w #[] 0 (Nat.le_refl _) (by unfold maxLen; omega) rfl
  have h2 := h.below hb1
  rcases h.1.2 with ⟨rfl, hn⟩ | ⟨g, cap, cur, rfl, -⟩
  · have hl0 : l = [] := List.eq_nil_of_length_eq_zero hn
    subst hl0
    refine wpList_append_own_none hgd s x t ho w.heap.size e i0 1 ht hi _ 0 [] hs hm0 hx ?_
    exact hk _ _ hm0 hb1
  · refine wpList_append_own _ hgd s x t ho w.heap.size e i0 (.int .i64 0) 1 8 ht hi hz0 hz1 hz2 rfl (by decide) _ 0 [] hs hm0 ⟨g, 0, none⟩ l.length cap (intVs l) hx (by simp [intVs]) (OI.news h2) (intVs_one l) (by unfold maxLen; omega) (by omega) (by simp) ?_
    intro v' w' hown hgrow _
    rw [Nat.zero_add, List.nil_append] at hown
    exact hk v' w' hown (hb1.grown hgrow (by simp) (by intro k hk; simp [Value.ownBlock] at hk; omega))

set_option maxHeartbeats 1000000 in
theorem clone_any (v : Value) (l : List Int) (F : List Nat) (w : World) (h : OI w 3 v l F) (hl : l.length ≤ 1048576) :
    Calls Tryz.prog 50 #[v] w (RetIs 3 w l) := by
  have H := hide h
  have q := fun (w : World) (a : Option Addr) (n c n' c' : Nat) => Lib.run_eql_slice_nil w _ _ a n c n' c' Tryz.underlying47
  rcases h.1.2 with ⟨rfl, hn⟩ | ⟨g, cap, cur, rfl, -⟩
  · have hl0 : l = [] := List.eq_nil_of_length_eq_zero hn
    subst hl0
    clear h
    go_enter Tryz.func50, Tryz.ntmps50
    go_wp2
    go_ret
    exact ⟨_, rfl, World.ownsRow_nil _ _ _ _, Below.refl _ _⟩
  · clear h
    go_enter Tryz.func50, Tryz.ntmps50
    go_wp2_with (first | (at_builtin; refine is_append0 _ rfl _ _ 47 rfl 3 Tryz.underlying47 infoI w rfl rfl _ l F H.out rfl hl ?_; intro v' w' hown hb))
    go_ret
    exact ⟨_, rfl, hown, hb⟩

/-- The values of a column of a name, and whether there is one. -/
noncomputable def colOf (cs : List Col) (n : ByteArray) : List Int × Bool := if isT cs = true ∧ 0 ≤ findC cs n then ((cs.getD (findC cs n).toNat (ByteArray.empty, [])).2, true) else ([], false)

/-- New integers of the call's own and a truth are returned; nothing that was there has turned. -/
def RetCo (w : World) (p : List Int × Bool) (e : Ending) (w' : World) : Prop := ∃ v, e = .returned (.tuple #[v, .bool p.2]) ∧ Is w' w.heap.size 3 v p.1 ∧ Below w.heap.size w w'

/-- A table of the call's own that reads as cs. -/
structure Mine (w : World) (u : Value) (cs : List Col) (F : List Nat) : Prop where
  own : colsE w u cs F
  tbl : Tbl w w.heap.size (.agg #[u]) cs

theorem Mine.up {w w' : World} {u : Value} {cs : List Col} {F : List Nat} (h : Mine w u cs F) (hb : Below w.heap.size w w') : Mine w' u cs F := ⟨slE.below colE_good h.own hb, h.tbl.up hb⟩

set_option maxHeartbeats 1000000 in
theorem sColOf_any (u : Value) (cs : List Col) (F : List Nat) (n : ByteArray) (w : World) (h : Mine w u cs F) (hn : n.size ≤ 9223372036854775807) :
    Calls Tryz.prog 21 #[.agg #[u], .string n] w (RetCo w (colOf cs n)) := by
  obtain ⟨a, cap, rfl, hlen⟩ := h.own.form
  have HB1 := hide (Box.new w (.slice a cs.length cap) 26)
  have M1 := hide (h.up HB1.out.1)
  clear h
  obtain ⟨p, hp⟩ : ∃ p, p = colOf cs n := ⟨_, rfl⟩
  obtain ⟨t, ht⟩ : ∃ t, t = isT cs := ⟨_, rfl⟩
  obtain ⟨z, hz⟩ : ∃ z, z = findC cs n := ⟨_, rfl⟩
  have hzr := findC_range cs n
  rw [← hz] at hzr
  obtain ⟨hz1, hz2, hz3⟩ := hzr
  rw [← hp]
  have HZ := hide hz
  have HT := hide ht
  have HZ3 := hide hz3
  unfold colOf at hp
  rw [← ht, ← hz] at hp
  have HP := hide hp
  clear hz ht hp hz3
  by_cases hc : t = true ∧ 0 ≤ z
  · obtain ⟨rfl, hz0⟩ := hc
    obtain ⟨k, hk, rfl⟩ := HZ3.out hz0
    have hfin := hide (show p = (cs[k].2, true) by
      rw [HP.out, if_pos ⟨rfl, hz0⟩, Int.toNat_natCast, List.getD_eq_getElem?_getD, List.getElem?_eq_getElem hk]
      rfl)
    have hd : decide ((k : Int) < 0) = false := by simp
    go_enter Tryz.func21, Tryz.ntmps21
    go_wp2_with fail
    obtain ⟨w1, hw1⟩ : ∃ w1, w1 = w.alloc (.cells #[.slice a cs.length cap] 26) := ⟨_, rfl⟩
    rw [← hw1] at HB1 M1 ⊢
    clear hw1
    go_at_call 27
    refine (sFind_any _ cs n w1 _ M1.out.tbl (Nat.le_refl _) hn).mono ?_
    rintro e w2 ⟨rfl, hb2⟩
    rw [← HZ.out]
    have B2 := hide (HB1.out.up hb2)
    have M2 := hide (M1.out.up hb2)
    have t2 := B2.out.2.1
    clear hb2
    go_wp2_with fail
    go_at_call 12
    refine (sTable_any _ cs w2 _ M2.out.tbl (Nat.le_refl _)).mono ?_
    rintro e w3 ⟨rfl, hb3⟩
    rw [← HT.out]
    have B3 := hide (B2.out.up hb3)
    have M3 := hide (M2.out.up hb3)
    have t3 := B3.out.2.1
    have t2' := hide t2
    clear hb3 t2
    obtain ⟨g, cap', c, Fj, hv, hgF, hgs, hgj, hsub, hE, hcl, hcell, hfro, hput, hsto⟩ := slE.at colE_good M3.out.own k hk
    obtain ⟨rfl, rfl⟩ : a = some ⟨g, 0, none⟩ ∧ cap = cap' := by
      simp only [Value.slice.injEq] at hv
      exact ⟨hv.1, hv.2.2⟩
    obtain ⟨q, hq⟩ : ∃ q, q = cs[k] := ⟨_, rfl⟩
    rw [← hq] at hE
    obtain ⟨m, l⟩ := q
    obtain ⟨u, rfl, hoi⟩ := hE
    have c1 := hcell 1 (by omega)
    simp only [List.getElem?_cons_zero, List.getElem?_cons_succ] at c1
    have hl : l.length ≤ 1048576 := by
      have := (isT_ok HT.out.symm).2 k hk
      have h2 := this.2.1
      rw [← hq] at h2
      simp [areVals] at h2
      omega
    have HOI := hide hoi
    obtain ⟨au, capu, rfl, hul⟩ := hoi.form
    have HQ := hide hq
    have hb0 := (Below.refl w3.heap.size w3).alloc (Nat.le_refl _) (.cells #[] 3)
    have ta := (B3.out.up hb0).2.1
    have ca : (w3.alloc (.cells #[] 3)).cell? ⟨g, k * 2 + 1, none⟩ = some (.slice au l.length capu) := by rw [hb0.cell (p := ⟨g, k * 2 + 1, none⟩) hgs]; exact c1
    clear hv hcell hfro hput hsto hoi hq hcl hgj hsub hb0
    go_wp2_with (first | (at_builtin; refine is_append0 _ rfl _ _ 47 rfl 3 Tryz.underlying47 infoI w3 rfl rfl _ l Fj HOI.out rfl hl ?_; intro v' w4 hown hb4))
    have W4 := hide (B3.out.up hb4).1
    have O4 := hide (hown.lower B3.out.1.size)
    clear hown hb4
    go_ret2
    exact ⟨v', by rw [hfin.out]; rfl, by rw [hfin.out, ← HQ.out]; exact O4.out, W4.out⟩
  · have hfin := hide (show p = ([], false) by rw [HP.out, if_neg hc])
    have hd : t = false ∨ z < 0 := by
      cases t
      · exact .inl rfl
      · exact .inr (by have : ¬ 0 ≤ z := fun h => hc ⟨rfl, h⟩; omega)
    clear hc
    have head : ∀ (b : Bool), t = b → (b = false ∨ (b = true ∧ z < 0)) → Calls Tryz.prog 21 #[.agg #[.slice a cs.length cap], .string n] w (RetCo w p) := by
      intro b hb hbz
      have HTB := hide hb
      clear hb hd
      rcases hbz with rfl | ⟨rfl, hz0⟩
      · go_enter Tryz.func21, Tryz.ntmps21
        go_wp2_with fail
        obtain ⟨w1, hw1⟩ : ∃ w1, w1 = w.alloc (.cells #[.slice a cs.length cap] 26) := ⟨_, rfl⟩
        rw [← hw1] at HB1 M1 ⊢
        clear hw1
        go_at_call 27
        refine (sFind_any _ cs n w1 _ M1.out.tbl (Nat.le_refl _) hn).mono ?_
        rintro e w2 ⟨rfl, hb2⟩
        rw [← HZ.out]
        have B2 := hide (HB1.out.up hb2)
        have M2 := hide (M1.out.up hb2)
        have t2 := B2.out.2.1
        clear hb2
        go_wp2_with fail
        go_at_call 12
        refine (sTable_any _ cs w2 _ M2.out.tbl (Nat.le_refl _)).mono ?_
        rintro e w3 ⟨rfl, hb3⟩
        rw [← HT.out, HTB.out]
        have B3 := hide (B2.out.up hb3)
        clear hb3 t2
        go_wp2_with fail
        go_ret2
        exact ⟨_, by rw [hfin.out]; rfl, by rw [hfin.out]; exact (made0 w3 w.heap.size _ B3.out.1.size), B3.out.1.alloc B3.out.1.size _⟩
      · have hd : decide (z < 0) = true := by simp; omega
        go_enter Tryz.func21, Tryz.ntmps21
        go_wp2_with fail
        obtain ⟨w1, hw1⟩ : ∃ w1, w1 = w.alloc (.cells #[.slice a cs.length cap] 26) := ⟨_, rfl⟩
        rw [← hw1] at HB1 M1 ⊢
        clear hw1
        go_at_call 27
        refine (sFind_any _ cs n w1 _ M1.out.tbl (Nat.le_refl _) hn).mono ?_
        rintro e w2 ⟨rfl, hb2⟩
        rw [← HZ.out]
        have B2 := hide (HB1.out.up hb2)
        have M2 := hide (M1.out.up hb2)
        have t2 := B2.out.2.1
        clear hb2
        go_wp2_with fail
        go_at_call 12
        refine (sTable_any _ cs w2 _ M2.out.tbl (Nat.le_refl _)).mono ?_
        rintro e w3 ⟨rfl, hb3⟩
        rw [← HT.out, HTB.out]
        have B3 := hide (B2.out.up hb3)
        clear hb3 t2
        go_wp2_with fail
        go_ret2
        exact ⟨_, by rw [hfin.out]; rfl, by rw [hfin.out]; exact (made0 w3 w.heap.size _ B3.out.1.size), B3.out.1.alloc B3.out.1.size _⟩
    rcases hd with rfl | hz0
    · exact head false rfl (.inl rfl)
    · cases t
      · exact head false rfl (.inl rfl)
      · exact head true rfl (.inr ⟨rfl, hz0⟩)

set_option maxHeartbeats 1000000 in
theorem iColOf_any (u : Value) (cs : List Col) (F : List Nat) (n : ByteArray) (w : World) (h : Mine w u cs F) (hn : n.size ≤ 9223372036854775807) :
    Calls Tryz.prog 20 #[.agg #[u], .string n] w (RetCo w (colOf cs n)) := by
  obtain ⟨a, cap, rfl, hlen⟩ := h.own.form
  have HB1 := hide (Box.new w (.slice a cs.length cap) 26)
  have M1 := hide (h.up HB1.out.1)
  clear h
  obtain ⟨p, hp⟩ : ∃ p, p = colOf cs n := ⟨_, rfl⟩
  obtain ⟨t, ht⟩ : ∃ t, t = isT cs := ⟨_, rfl⟩
  obtain ⟨z, hz⟩ : ∃ z, z = findC cs n := ⟨_, rfl⟩
  have hzr := findC_range cs n
  rw [← hz] at hzr
  obtain ⟨hz1, hz2, hz3⟩ := hzr
  rw [← hp]
  have HZ := hide hz
  have HT := hide ht
  have HZ3 := hide hz3
  unfold colOf at hp
  rw [← ht, ← hz] at hp
  have HP := hide hp
  clear hz ht hp hz3
  by_cases hc : t = true ∧ 0 ≤ z
  · obtain ⟨rfl, hz0⟩ := hc
    obtain ⟨k, hk, rfl⟩ := HZ3.out hz0
    have hfin := hide (show p = (cs[k].2, true) by
      rw [HP.out, if_pos ⟨rfl, hz0⟩, Int.toNat_natCast, List.getD_eq_getElem?_getD, List.getElem?_eq_getElem hk]
      rfl)
    have hd : decide ((k : Int) < 0) = false := by simp
    go_enter Tryz.func20, Tryz.ntmps20
    go_wp2_with fail
    obtain ⟨w1, hw1⟩ : ∃ w1, w1 = w.alloc (.cells #[.slice a cs.length cap] 26) := ⟨_, rfl⟩
    rw [← hw1] at HB1 M1 ⊢
    clear hw1
    go_at_call 26
    refine (iFind_any _ cs n w1 _ M1.out.tbl (Nat.le_refl _) hn).mono ?_
    rintro e w2 ⟨rfl, hb2⟩
    rw [← HZ.out]
    have B2 := hide (HB1.out.up hb2)
    have M2 := hide (M1.out.up hb2)
    have t2 := B2.out.2.1
    clear hb2
    go_wp2_with fail
    go_at_call 30
    refine (iTable_any _ cs w2 _ M2.out.tbl (Nat.le_refl _)).mono ?_
    rintro e w3 ⟨rfl, hb3⟩
    rw [← HT.out]
    have B3 := hide (B2.out.up hb3)
    have M3 := hide (M2.out.up hb3)
    have t3 := B3.out.2.1
    have t2' := hide t2
    clear hb3 t2
    obtain ⟨g, cap', c, Fj, hv, hgF, hgs, hgj, hsub, hE, hcl, hcell, hfro, hput, hsto⟩ := slE.at colE_good M3.out.own k hk
    obtain ⟨rfl, rfl⟩ : a = some ⟨g, 0, none⟩ ∧ cap = cap' := by
      simp only [Value.slice.injEq] at hv
      exact ⟨hv.1, hv.2.2⟩
    obtain ⟨q, hq⟩ : ∃ q, q = cs[k] := ⟨_, rfl⟩
    rw [← hq] at hE
    obtain ⟨m, l⟩ := q
    obtain ⟨u, rfl, hoi⟩ := hE
    have c1 := hcell 1 (by omega)
    simp only [List.getElem?_cons_zero, List.getElem?_cons_succ] at c1
    have hl : l.length ≤ 1048576 := by
      have := (isT_ok HT.out.symm).2 k hk
      have h2 := this.2.1
      rw [← hq] at h2
      simp [areVals] at h2
      omega
    have HOI := hide hoi
    obtain ⟨au, capu, rfl, hul⟩ := hoi.form
    have HQ := hide hq
    clear hv hcell hfro hput hsto hoi hq hcl hgj hsub
    go_wp2_with fail
    go_at_call 50
    refine (clone_any _ l Fj w3 HOI.out hl).mono ?_
    rintro e w4 ⟨v', rfl, hown, hb4⟩
    have W4 := hide (B3.out.up hb4).1
    have O4 := hide (hown.lower B3.out.1.size)
    clear hown hb4
    go_wp2_with fail
    go_ret2
    exact ⟨v', by rw [hfin.out]; rfl, by rw [hfin.out, ← HQ.out]; exact O4.out, W4.out⟩
  · have hfin := hide (show p = ([], false) by rw [HP.out, if_neg hc])
    by_cases hz0 : z < 0
    · have hd : decide (z < 0) = true := by simp; omega
      clear hc
      go_enter Tryz.func20, Tryz.ntmps20
      go_wp2_with fail
      obtain ⟨w1, hw1⟩ : ∃ w1, w1 = w.alloc (.cells #[.slice a cs.length cap] 26) := ⟨_, rfl⟩
      rw [← hw1] at HB1 M1 ⊢
      clear hw1
      go_at_call 26
      refine (iFind_any _ cs n w1 _ M1.out.tbl (Nat.le_refl _) hn).mono ?_
      rintro e w2 ⟨rfl, hb2⟩
      rw [← HZ.out]
      have B2 := hide (HB1.out.up hb2)
      clear hb2
      go_wp2_with fail
      go_ret2
      exact ⟨_, by rw [hfin.out]; rfl, by rw [hfin.out]; exact World.ownsRow_nil _ _ _ _, B2.out.1⟩
    · have hd : decide (z < 0) = false := by simp; omega
      have htf := hide (show t = false by
        cases t
        · rfl
        · exact absurd ⟨rfl, by omega⟩ hc)
      clear hc
      go_enter Tryz.func20, Tryz.ntmps20
      go_wp2_with fail
      obtain ⟨w1, hw1⟩ : ∃ w1, w1 = w.alloc (.cells #[.slice a cs.length cap] 26) := ⟨_, rfl⟩
      rw [← hw1] at HB1 M1 ⊢
      clear hw1
      go_at_call 26
      refine (iFind_any _ cs n w1 _ M1.out.tbl (Nat.le_refl _) hn).mono ?_
      rintro e w2 ⟨rfl, hb2⟩
      rw [← HZ.out]
      have B2 := hide (HB1.out.up hb2)
      have M2 := hide (M1.out.up hb2)
      have t2 := B2.out.2.1
      clear hb2
      go_wp2_with fail
      go_at_call 30
      refine (iTable_any _ cs w2 _ M2.out.tbl (Nat.le_refl _)).mono ?_
      rintro e w3 ⟨rfl, hb3⟩
      rw [← HT.out, htf.out]
      have B3 := hide (B2.out.up hb3)
      clear hb3 t2
      go_wp2_with fail
      go_ret2
      exact ⟨_, by rw [hfin.out]; rfl, by rw [hfin.out]; exact World.ownsRow_nil _ _ _ _, B3.out.1⟩

theorem colOf_ok {cs : List Col} (n : ByteArray) {K : Nat} (h : ∀ c ∈ cs, c.2.length ≤ K ∧ ∀ x ∈ c.2, I64 x) : (colOf cs n).1.length ≤ K ∧ ∀ x ∈ (colOf cs n).1, I64 x := by
  unfold colOf
  split
  · rename_i hc
    obtain ⟨k, hk, e⟩ := (findC_range cs n).2.2 hc.2
    rw [e, Int.toNat_natCast, List.getD_eq_getElem?_getD, List.getElem?_eq_getElem hk]
    exact h _ (List.getElem_mem hk)
  · simp

/-- A new table of the call's own is returned, to be read and to be marked. -/
def RetM (w : World) (cs : List Col) (e : Ending) (w' : World) : Prop := ∃ a cap F, e = .returned (.agg #[.slice a cs.length cap]) ∧ Mine w' (.slice a cs.length cap) cs F ∧ (∀ b ∈ F, w.heap.size ≤ b) ∧ Below w.heap.size w w'

theorem OI.ints {w : World} {v : Value} {l : List Int} {F : List Nat} (h : OI w 3 v l F) (hw : ∀ x ∈ l, I64 x) : Ints w w.heap.size v l := by
  obtain ⟨_, _, _, hl⟩ := h.form
  exact h.1.ints (Nat.le_refl _) hl hw

theorem Box.only {w W W' : World} {x : Value} {F : List Nat} (h : Box w W x) (hb : Only F W W') (hF : ∀ b ∈ F, w.heap.size < b) : Box w W' x := by
  refine ⟨h.1.trans (hb.toBelow (fun b hf => Nat.le_of_lt (hF b hf)) h.1.size), ?_, Nat.lt_of_lt_of_le h.2.2 hb.below.size⟩
  have := hb.block w.heap.size h.2.2 (fun hf => by have := hF _ hf; omega)
  rw [World.cell?_of_block (w := W) (a := ⟨w.heap.size, 0, none⟩) this]
  exact h.2.1

end Go.Proofs.YtgeegbbcjdlkbaaGreatDoor

/- What ColumnOf returns of a table that is only read (its row may begin anywhere): of the reference and of the program. -/
namespace Go.Proofs.YtgeegbbcjdlkbaaGreatDoor
open Go.RowKit Go.ChangeShapes
set_option linter.unusedSimpArgs false
set_option linter.unusedVariables false
set_option maxRecDepth 100000

/-- A slice value as Go makes them: nil, or at some place. -/
def NilOk (u : Value) : Prop := u = .slice none 0 0 ∨ ∃ ad n c, u = .slice (some ad) n c

/-- A table to be read. -/
structure Rt (w : World) (u : Value) (cs : List Col) : Prop where
  tbl : Tbl w w.heap.size (.agg #[u]) cs
  ptr : ∀ (b o j : Nat) (n c : Nat) (x : Value), u = .slice (some ⟨b, o, none⟩) n c → j < cs.length → w.cell? ⟨b, o + j * 2 + 1, none⟩ = some x → NilOk x

theorem Rt.up {w w' : World} {u : Value} {cs : List Col} (h : Rt w u cs) (hb : Below w.heap.size w w') : Rt w' u cs := by
  refine ⟨h.tbl.up hb, fun b o j n c x hu hj hx => ?_⟩
  obtain ⟨u', hu', a, cap, hv, hlen, hcell⟩ := h.tbl
  simp at hu'
  subst hu'
  obtain ⟨b2, o2, y, ha, hbB, _, hy, _⟩ := hcell j hj
  have hv2 := hv.symm.trans hu
  simp only [Value.slice.injEq] at hv2
  obtain ⟨h1, _, _⟩ := hv2
  have h2 := ha.symm.trans h1
  simp at h2
  obtain ⟨rfl, rfl⟩ := h2
  rw [hb.cell (p := ⟨b2, o2 + j * 2 + 1, none⟩) hbB] at hx
  exact h.ptr b2 o2 j n c x hu hj hx

theorem Rt.form {w : World} {u : Value} {cs : List Col} (h : Rt w u cs) : ∃ a cap, u = .slice a cs.length cap ∧ cs.length ≤ 9223372036854775807 := by
  obtain ⟨u', hu', a, cap, hv, hlen, _⟩ := h.tbl
  simp at hu'
  subst hu'
  exact ⟨a, cap, hv, hlen⟩

/-- Column k of such a table. -/
theorem Rt.at' {w : World} {a : Option Addr} {cap : Nat} {cs : List Col} (h : Rt w (.slice a cs.length cap) cs) (k : Nat) (hk : k < cs.length) :
    ∃ b o u, a = some ⟨b, o, none⟩ ∧ b < w.heap.size ∧ w.cell? ⟨b, o + k * 2 + 1, none⟩ = some u ∧ NilOk u ∧ Ints w w.heap.size u cs[k].2 := by
  have hp := h.ptr
  obtain ⟨u', hu', a', cap', hv, hlen, hcell⟩ := h.tbl
  simp at hu'
  subst hu'
  simp only [Value.slice.injEq, true_and] at hv
  obtain ⟨rfl, rfl⟩ := hv
  obtain ⟨b, o, u, rfl, hb, _, hu, _, hi⟩ := hcell k hk
  exact ⟨b, o, u, rfl, hb, hu, hp b o k _ _ u rfl hk hu, hi⟩

/-- append([]int{}, v...) of integers that are only read. -/
theorem is_append0r {P : Program} (W : World) {ops : Array Oper} {rest : List Oper} {o : Oper} {a : Act} {Q : Exit → Act → World → Prop} (hgd : o.guard = none) (s x : Operand) (t : TypeId)
    (ho : o.op = .call { callee := .builtin .append, args := #[s, x], argTypes := #[t, t] }) (e : TypeId) (ht : P.underlying t = some (.slice e)) (hinf : (P.info? e).map (fun i => (i.zero, i.size, i.bytes)) = some (some (.int .i64 0), 1, 8))
    (w : World) (hW : W = w.alloc (.cells #[] e)) (hs : a.eval s = .slice (some ⟨w.heap.size, 0, none⟩) 0 0) (v : Value) (l : List Int) (h : Ints w w.heap.size v l) (hn : NilOk v) (hx : a.eval x = v) (hl : l.length ≤ 1048576)
    (hk : ∀ v' w', Is w' w.heap.size e v' l → Below w.heap.size w w' → wpList P ops Q rest (a.put o.dst v') w') :
    wpList P ops Q (o :: rest) a W := by
  subst hW
  obtain ⟨i0, hi, hz0, hz1, hz2⟩ := info_parts hinf
  have hb1 := (Below.refl w.heap.size w).alloc (Nat.le_refl _) (.cells #[] e)
  have hm0 := World.ownsRow_made (base := w.heap.size) (size := 1) (e := e) w #[] 0 (Nat.le_refl _) (by unfold maxLen; omega) rfl
  obtain ⟨av, capv, hv, hlen, _, hcell⟩ := h
  rcases hn with rfl | ⟨ad, n, c, rfl⟩
  · simp only [Value.slice.injEq] at hv
    have hl0 : l = [] := List.eq_nil_of_length_eq_zero hv.2.1.symm
    subst hl0
    refine wpList_append_own_none hgd s x t ho w.heap.size e i0 1 ht hi _ 0 [] hs hm0 hx ?_
    exact hk _ _ hm0 hb1
  · simp only [Value.slice.injEq] at hv
    obtain ⟨rfl, rfl, rfl⟩ := hv
    refine wpList_append_own _ hgd s x t ho w.heap.size e i0 (.int .i64 0) 1 8 ht hi hz0 hz1 hz2 rfl (by decide) _ 0 [] hs hm0 ad l.length c (intVs l) hx (by simp [intVs]) ?_ (intVs_one l) (by unfold maxLen; omega) (by omega) (by simp) ?_
    · intro j u hj
      have hjl : j < l.length := by
        have := (List.getElem?_eq_some_iff.1 hj).1
        simpa [intVs] using this
      obtain ⟨b, o, hadd, hb, hc⟩ := hcell j hjl
      obtain rfl := Option.some.inj hadd
      rw [Addr.add_lit, hb1.cell (p := ⟨b, o + j, none⟩) hb, hc]
      simp [intVs, hjl] at hj
      rw [← hj]
    · intro v' w' hown hgrow _
      rw [Nat.zero_add, List.nil_append] at hown
      exact hk v' w' hown (hb1.grown hgrow (by simp) (by intro k hk; simp [Value.ownBlock] at hk; omega))

set_option maxHeartbeats 1000000 in
theorem clone_r (v : Value) (l : List Int) (w : World) (h : Ints w w.heap.size v l) (hn : NilOk v) (hl : l.length ≤ 1048576) :
    Calls Tryz.prog 50 #[v] w (RetIs 3 w l) := by
  have H := hide h
  have HNO := hide hn
  have q := fun (w : World) (a : Option Addr) (n c n' c' : Nat) => Lib.run_eql_slice_nil w _ _ a n c n' c' Tryz.underlying47
  obtain ⟨av, capv, hv, _, _, _⟩ := h
  rcases hn with rfl | ⟨ad, n, c, rfl⟩
  · simp only [Value.slice.injEq] at hv
    have hl0 : l = [] := List.eq_nil_of_length_eq_zero hv.2.1.symm
    subst hl0
    clear hv
    go_enter Tryz.func50, Tryz.ntmps50
    go_wp2
    go_ret
    exact ⟨_, rfl, World.ownsRow_nil _ _ _ _, Below.refl _ _⟩
  · clear hv
    go_enter Tryz.func50, Tryz.ntmps50
    go_wp2_with (first | (at_builtin; refine is_append0r _ rfl _ _ 47 rfl 3 Tryz.underlying47 infoI w rfl rfl _ l H.out HNO.out rfl hl ?_; intro v' w' hown hb))
    go_ret
    exact ⟨_, rfl, hown, hb⟩

set_option maxHeartbeats 1000000 in
theorem sColOf_rt (u : Value) (cs : List Col) (n : ByteArray) (w : World) (h : Rt w u cs) (hn : n.size ≤ 9223372036854775807) :
    Calls Tryz.prog 21 #[.agg #[u], .string n] w (RetCo w (colOf cs n)) := by
  obtain ⟨a, cap, rfl, hlen⟩ := h.form
  have HB1 := hide (Box.new w (.slice a cs.length cap) 26)
  have M1 := hide (h.up HB1.out.1)
  clear h
  obtain ⟨p, hp⟩ : ∃ p, p = colOf cs n := ⟨_, rfl⟩
  obtain ⟨t, ht⟩ : ∃ t, t = isT cs := ⟨_, rfl⟩
  obtain ⟨z, hz⟩ : ∃ z, z = findC cs n := ⟨_, rfl⟩
  have hzr := findC_range cs n
  rw [← hz] at hzr
  obtain ⟨hz1, hz2, hz3⟩ := hzr
  rw [← hp]
  have HZ := hide hz
  have HT := hide ht
  have HZ3 := hide hz3
  unfold colOf at hp
  rw [← ht, ← hz] at hp
  have HP := hide hp
  clear hz ht hp hz3
  by_cases hc : t = true ∧ 0 ≤ z
  · obtain ⟨rfl, hz0⟩ := hc
    obtain ⟨k, hk, rfl⟩ := HZ3.out hz0
    have hfin := hide (show p = (cs[k].2, true) by
      rw [HP.out, if_pos ⟨rfl, hz0⟩, Int.toNat_natCast, List.getD_eq_getElem?_getD, List.getElem?_eq_getElem hk]
      rfl)
    have hd : decide ((k : Int) < 0) = false := by simp
    go_enter Tryz.func21, Tryz.ntmps21
    go_wp2_with fail
    obtain ⟨w1, hw1⟩ : ∃ w1, w1 = w.alloc (.cells #[.slice a cs.length cap] 26) := ⟨_, rfl⟩
    rw [← hw1] at HB1 M1 ⊢
    clear hw1
    go_at_call 27
    refine (sFind_any _ cs n w1 _ M1.out.tbl (Nat.le_refl _) hn).mono ?_
    rintro e w2 ⟨rfl, hb2⟩
    rw [← HZ.out]
    have B2 := hide (HB1.out.up hb2)
    have M2 := hide (M1.out.up hb2)
    have t2 := B2.out.2.1
    clear hb2
    go_wp2_with fail
    go_at_call 12
    refine (sTable_any _ cs w2 _ M2.out.tbl (Nat.le_refl _)).mono ?_
    rintro e w3 ⟨rfl, hb3⟩
    rw [← HT.out]
    have B3 := hide (B2.out.up hb3)
    have M3 := hide (M2.out.up hb3)
    have t3 := B3.out.2.1
    have t2' := hide t2
    clear hb3 t2
    obtain ⟨g, og, u, rfl, hgs, c1, hno, hoi⟩ := M3.out.at' k hk
    obtain ⟨q, hq⟩ : ∃ q, q = cs[k] := ⟨_, rfl⟩
    rw [← hq] at hoi
    obtain ⟨m, l⟩ := q
    simp only at hoi
    have hl : l.length ≤ 1048576 := by
      have := (isT_ok HT.out.symm).2 k hk
      have h2 := this.2.1
      rw [← hq] at h2
      simp [areVals] at h2
      omega
    have HOI := hide hoi
    have HNO := hide hno
    obtain ⟨au, capu, rfl, hul, -, -⟩ := hoi
    have HQ := hide hq
    have hb0 := (Below.refl w3.heap.size w3).alloc (Nat.le_refl _) (.cells #[] 3)
    have ta := (B3.out.up hb0).2.1
    have ca : (w3.alloc (.cells #[] 3)).cell? ⟨g, og + k * 2 + 1, none⟩ = some (.slice au l.length capu) := by rw [hb0.cell (p := ⟨g, og + k * 2 + 1, none⟩) hgs]; exact c1
    clear hq hno hb0
    go_wp2_with (first | (at_builtin; refine is_append0r _ rfl _ _ 47 rfl 3 Tryz.underlying47 infoI w3 rfl rfl _ l HOI.out HNO.out rfl hl ?_; intro v' w4 hown hb4))
    have W4 := hide (B3.out.up hb4).1
    have O4 := hide (hown.lower B3.out.1.size)
    clear hown hb4
    go_ret2
    exact ⟨v', by rw [hfin.out]; rfl, by rw [hfin.out, ← HQ.out]; exact O4.out, W4.out⟩
  · have hfin := hide (show p = ([], false) by rw [HP.out, if_neg hc])
    have hd : t = false ∨ z < 0 := by
      cases t
      · exact .inl rfl
      · exact .inr (by have : ¬ 0 ≤ z := fun h => hc ⟨rfl, h⟩; omega)
    clear hc
    have head : ∀ (b : Bool), t = b → (b = false ∨ (b = true ∧ z < 0)) → Calls Tryz.prog 21 #[.agg #[.slice a cs.length cap], .string n] w (RetCo w p) := by
      intro b hb hbz
      have HTB := hide hb
      clear hb hd
      rcases hbz with rfl | ⟨rfl, hz0⟩
      · go_enter Tryz.func21, Tryz.ntmps21
        go_wp2_with fail
        obtain ⟨w1, hw1⟩ : ∃ w1, w1 = w.alloc (.cells #[.slice a cs.length cap] 26) := ⟨_, rfl⟩
        rw [← hw1] at HB1 M1 ⊢
        clear hw1
        go_at_call 27
        refine (sFind_any _ cs n w1 _ M1.out.tbl (Nat.le_refl _) hn).mono ?_
        rintro e w2 ⟨rfl, hb2⟩
        rw [← HZ.out]
        have B2 := hide (HB1.out.up hb2)
        have M2 := hide (M1.out.up hb2)
        have t2 := B2.out.2.1
        clear hb2
        go_wp2_with fail
        go_at_call 12
        refine (sTable_any _ cs w2 _ M2.out.tbl (Nat.le_refl _)).mono ?_
        rintro e w3 ⟨rfl, hb3⟩
        rw [← HT.out, HTB.out]
        have B3 := hide (B2.out.up hb3)
        clear hb3 t2
        go_wp2_with fail
        go_ret2
        exact ⟨_, by rw [hfin.out]; rfl, by rw [hfin.out]; exact (made0 w3 w.heap.size _ B3.out.1.size), B3.out.1.alloc B3.out.1.size _⟩
      · have hd : decide (z < 0) = true := by simp; omega
        go_enter Tryz.func21, Tryz.ntmps21
        go_wp2_with fail
        obtain ⟨w1, hw1⟩ : ∃ w1, w1 = w.alloc (.cells #[.slice a cs.length cap] 26) := ⟨_, rfl⟩
        rw [← hw1] at HB1 M1 ⊢
        clear hw1
        go_at_call 27
        refine (sFind_any _ cs n w1 _ M1.out.tbl (Nat.le_refl _) hn).mono ?_
        rintro e w2 ⟨rfl, hb2⟩
        rw [← HZ.out]
        have B2 := hide (HB1.out.up hb2)
        have M2 := hide (M1.out.up hb2)
        have t2 := B2.out.2.1
        clear hb2
        go_wp2_with fail
        go_at_call 12
        refine (sTable_any _ cs w2 _ M2.out.tbl (Nat.le_refl _)).mono ?_
        rintro e w3 ⟨rfl, hb3⟩
        rw [← HT.out, HTB.out]
        have B3 := hide (B2.out.up hb3)
        clear hb3 t2
        go_wp2_with fail
        go_ret2
        exact ⟨_, by rw [hfin.out]; rfl, by rw [hfin.out]; exact (made0 w3 w.heap.size _ B3.out.1.size), B3.out.1.alloc B3.out.1.size _⟩
    rcases hd with rfl | hz0
    · exact head false rfl (.inl rfl)
    · cases t
      · exact head false rfl (.inl rfl)
      · exact head true rfl (.inr ⟨rfl, hz0⟩)

set_option maxHeartbeats 1000000 in
theorem iColOf_rt (u : Value) (cs : List Col) (n : ByteArray) (w : World) (h : Rt w u cs) (hn : n.size ≤ 9223372036854775807) :
    Calls Tryz.prog 20 #[.agg #[u], .string n] w (RetCo w (colOf cs n)) := by
  obtain ⟨a, cap, rfl, hlen⟩ := h.form
  have HB1 := hide (Box.new w (.slice a cs.length cap) 26)
  have M1 := hide (h.up HB1.out.1)
  clear h
  obtain ⟨p, hp⟩ : ∃ p, p = colOf cs n := ⟨_, rfl⟩
  obtain ⟨t, ht⟩ : ∃ t, t = isT cs := ⟨_, rfl⟩
  obtain ⟨z, hz⟩ : ∃ z, z = findC cs n := ⟨_, rfl⟩
  have hzr := findC_range cs n
  rw [← hz] at hzr
  obtain ⟨hz1, hz2, hz3⟩ := hzr
  rw [← hp]
  have HZ := hide hz
  have HT := hide ht
  have HZ3 := hide hz3
  unfold colOf at hp
  rw [← ht, ← hz] at hp
  have HP := hide hp
  clear hz ht hp hz3
  by_cases hc : t = true ∧ 0 ≤ z
  · obtain ⟨rfl, hz0⟩ := hc
    obtain ⟨k, hk, rfl⟩ := HZ3.out hz0
    have hfin := hide (show p = (cs[k].2, true) by
      rw [HP.out, if_pos ⟨rfl, hz0⟩, Int.toNat_natCast, List.getD_eq_getElem?_getD, List.getElem?_eq_getElem hk]
      rfl)
    have hd : decide ((k : Int) < 0) = false := by simp
    go_enter Tryz.func20, Tryz.ntmps20
    go_wp2_with fail
    obtain ⟨w1, hw1⟩ : ∃ w1, w1 = w.alloc (.cells #[.slice a cs.length cap] 26) := ⟨_, rfl⟩
    rw [← hw1] at HB1 M1 ⊢
    clear hw1
    go_at_call 26
    refine (iFind_any _ cs n w1 _ M1.out.tbl (Nat.le_refl _) hn).mono ?_
    rintro e w2 ⟨rfl, hb2⟩
    rw [← HZ.out]
    have B2 := hide (HB1.out.up hb2)
    have M2 := hide (M1.out.up hb2)
    have t2 := B2.out.2.1
    clear hb2
    go_wp2_with fail
    go_at_call 30
    refine (iTable_any _ cs w2 _ M2.out.tbl (Nat.le_refl _)).mono ?_
    rintro e w3 ⟨rfl, hb3⟩
    rw [← HT.out]
    have B3 := hide (B2.out.up hb3)
    have M3 := hide (M2.out.up hb3)
    have t3 := B3.out.2.1
    have t2' := hide t2
    clear hb3 t2
    obtain ⟨g, og, u, rfl, hgs, c1, hno, hoi⟩ := M3.out.at' k hk
    obtain ⟨q, hq⟩ : ∃ q, q = cs[k] := ⟨_, rfl⟩
    rw [← hq] at hoi
    obtain ⟨m, l⟩ := q
    simp only at hoi
    have hl : l.length ≤ 1048576 := by
      have := (isT_ok HT.out.symm).2 k hk
      have h2 := this.2.1
      rw [← hq] at h2
      simp [areVals] at h2
      omega
    have HOI := hide hoi
    have HNO := hide hno
    obtain ⟨au, capu, rfl, hul, -, -⟩ := hoi
    have HQ := hide hq
    clear hq hno
    go_wp2_with fail
    go_at_call 50
    refine (clone_r _ l w3 HOI.out HNO.out hl).mono ?_
    rintro e w4 ⟨v', rfl, hown, hb4⟩
    have W4 := hide (B3.out.up hb4).1
    have O4 := hide (hown.lower B3.out.1.size)
    clear hown hb4
    go_wp2_with fail
    go_ret2
    exact ⟨v', by rw [hfin.out]; rfl, by rw [hfin.out, ← HQ.out]; exact O4.out, W4.out⟩
  · have hfin := hide (show p = ([], false) by rw [HP.out, if_neg hc])
    by_cases hz0 : z < 0
    · have hd : decide (z < 0) = true := by simp; omega
      clear hc
      go_enter Tryz.func20, Tryz.ntmps20
      go_wp2_with fail
      obtain ⟨w1, hw1⟩ : ∃ w1, w1 = w.alloc (.cells #[.slice a cs.length cap] 26) := ⟨_, rfl⟩
      rw [← hw1] at HB1 M1 ⊢
      clear hw1
      go_at_call 26
      refine (iFind_any _ cs n w1 _ M1.out.tbl (Nat.le_refl _) hn).mono ?_
      rintro e w2 ⟨rfl, hb2⟩
      rw [← HZ.out]
      have B2 := hide (HB1.out.up hb2)
      clear hb2
      go_wp2_with fail
      go_ret2
      exact ⟨_, by rw [hfin.out]; rfl, by rw [hfin.out]; exact World.ownsRow_nil _ _ _ _, B2.out.1⟩
    · have hd : decide (z < 0) = false := by simp; omega
      have htf := hide (show t = false by
        cases t
        · rfl
        · exact absurd ⟨rfl, by omega⟩ hc)
      clear hc
      go_enter Tryz.func20, Tryz.ntmps20
      go_wp2_with fail
      obtain ⟨w1, hw1⟩ : ∃ w1, w1 = w.alloc (.cells #[.slice a cs.length cap] 26) := ⟨_, rfl⟩
      rw [← hw1] at HB1 M1 ⊢
      clear hw1
      go_at_call 26
      refine (iFind_any _ cs n w1 _ M1.out.tbl (Nat.le_refl _) hn).mono ?_
      rintro e w2 ⟨rfl, hb2⟩
      rw [← HZ.out]
      have B2 := hide (HB1.out.up hb2)
      have M2 := hide (M1.out.up hb2)
      have t2 := B2.out.2.1
      clear hb2
      go_wp2_with fail
      go_at_call 30
      refine (iTable_any _ cs w2 _ M2.out.tbl (Nat.le_refl _)).mono ?_
      rintro e w3 ⟨rfl, hb3⟩
      rw [← HT.out, htf.out]
      have B3 := hide (B2.out.up hb3)
      clear hb3 t2
      go_wp2_with fail
      go_ret2
      exact ⟨_, by rw [hfin.out]; rfl, by rw [hfin.out]; exact World.ownsRow_nil _ _ _ _, B3.out.1⟩

end Go.Proofs.YtgeegbbcjdlkbaaGreatDoor
