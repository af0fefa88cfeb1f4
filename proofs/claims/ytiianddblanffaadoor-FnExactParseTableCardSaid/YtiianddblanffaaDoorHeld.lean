/- heldColumnS, heldTable: what was marked is still there. -/
import Derived.Test.YtiianddblanffaaDoorOwnCol
namespace Go.Proofs.YtiianddblanffaaDoor
open Go.RowKit Go.ChangeShapes
set_option linter.unusedSimpArgs false
set_option linter.unusedVariables false
set_option maxRecDepth 100000

set_option maxHeartbeats 2000000 in
theorem heldColumnS_own (v : Value) (cs : List Col) (F : List Nat) (k : Nat) (w : World) (h : colsE w v (mkC k cs) F) (h0 : k ≠ 0) (h1 : k + cnt cs ≤ 4611686018427387904) :
    Calls Tryd.prog 33 #[v, .int .i64 k] w (RetI1 w ((k + cnt cs : Nat) : Int)) := by
  have H := hide h
  obtain ⟨a, cap, rfl, hlen⟩ := h.form
  rw [mkC_length] at H hlen ⊢
  clear h
  go_enter Tryd.func33, Tryd.ntmps33
  go_wp2_with fail
  go_loopw [1, 5] (fun x i wr => ∃ (j p : Nat), j ≤ cs.length ∧ i = .int .i64 j ∧ x = .int .i64 p ∧ Hid (p = k + cnt (cs.take j)) ∧ Hid (Below w.heap.size w wr)) (fun _ i _ => cs.length - (intOf i).toNat)
  case atStart => exact ⟨0, k, by omega, rfl, rfl, by show _ = _; simp [cnt], Below.refl _ _⟩
  case round =>
    obtain ⟨j, p, hj, rfl, rfl, hp, hb⟩ := hrel
    by_cases hlt : j < cs.length
    · have hct := cnt_take cs j hlt
      have hcle := cnt_le cs (j + 1)
      have hpb : p ≠ 0 ∧ p + 1 + cs[j].2.length ≤ 4611686018427387904 := by have := hp.out; omega
      have hco := slE.below colE_good H.out hb.out
      obtain ⟨g, cap', c, Fj, hv, hgF, hgs, hgj, hsub, hE, hcl, hcell, hfro, hput, hsto⟩ := slE.at colE_good hco j (by rw [mkC_length]; exact hlt)
      rw [mkC_length] at hv
      obtain ⟨rfl, rfl⟩ : a = some ⟨g, 0, none⟩ ∧ cap = cap' := by
        simp only [Value.slice.injEq] at hv
        exact ⟨hv.1, hv.2.2⟩
      rw [mkC_get cs k j hlt, ← hp.out] at hE
      obtain ⟨u, rfl, hoi⟩ := hE
      have c0 := hcell 0 (by omega)
      have c1 := hcell 1 (by omega)
      simp only [Nat.add_zero, List.getElem?_cons_zero, List.getElem?_cons_succ] at c0 c1
      obtain ⟨n, hn⟩ : ∃ n, n = cs[j].2.length := ⟨_, rfl⟩
      rw [← hn] at hoi hct hpb
      obtain ⟨hp0, hpl⟩ := hpb
      have HOI := hide hoi
      have HCT := hide hct
      have HMT := hide (show ∀ W : World, Calls Tryd.prog 54 #[.int .i64 p] W fun e w' => e = .returned (.string (mtB p)) ∧ Below W.heap.size W w' from fun W => markText_any p W hp0 (by omega))
      have ht : ((mtB p).toList == (mtB p).toList) = true := by simp
      have hgsz : Hid (g < wr.heap.size) := hgs
      simp only at hoi
      clear hv hcell hfro hput hsto hoi hsub hgj hgF hcl hco hct hcle hn hgs
      obtain ⟨mb, hmb⟩ : ∃ mb, mb = mtB p := ⟨_, rfl⟩
      rw [← hmb] at c0 HMT ht
      clear hmb
      obtain ⟨au, capu, rfl, -⟩ := HOI.out.form
      rw [mkI_length] at HOI c1
      go_wp2_with fail
      go_region_with (go_at_call 54; refine (HMT.out _).mono ?_; rintro e w2 ⟨rfl, hb2⟩; replace hb2 : Below wr.heap.size wr w2 := ((Below.refl wr.heap.size wr).drew).trans hb2; have d0 := (hb2.cell (p := ⟨g, j * 2, none⟩) hgsz.out).trans c0; have d1 := (hb2.cell (p := ⟨g, j * 2 + 1, none⟩) hgsz.out).trans c1; have HI2 := hide (HOI.out.below hb2); have HB2 := hide (hb.out.trans (hb2.mono hb.out.size)); clear hb2)
      all_goals
        go_wp2_with fail
        go_at_call 56
        refine (heldIntS_own _ n Fj ((p + 1 : Nat) : Int) w2 HI2.out (by omega) (by omega)).mono ?_
        rintro e w3 ⟨rfl, rfl⟩
        go_wp2_with fail
        go_roundw
        case rel =>
          refine ⟨j + 1, p + 1 + n, by omega, by go_num, by go_num, ?_, HB2.out⟩
          show _ = _
          have := hp.out
          have := HCT.out
          omega
        case measure => simp [intOf]; omega
    · have hje : j = cs.length := by omega
      subst hje
      have hpe : p = k + cnt cs := by rw [hp.out, List.take_of_length_le (Nat.le_refl _)]
      subst hpe
      go_wp2_with fail
      go_ret
      exact ⟨rfl, hb.out⟩

set_option maxHeartbeats 1000000 in
theorem heldTable_own (v : Value) (cs : List Col) (F : List Nat) (k : Nat) (w : World) (h : colsE w v (mkC k cs) F) (h0 : k ≠ 0) (h1 : k + cnt cs ≤ 4611686018427387904) :
    Calls Tryd.prog 13 #[.agg #[v], .int .i64 k] w (RetI1 w ((k + cnt cs : Nat) : Int)) := by
  have H := hide h
  obtain ⟨a, cap, rfl, hlen⟩ := h.form
  clear h
  have hb1 := (Below.refl w.heap.size w).alloc (Nat.le_refl _) (.cells #[.slice a (mkC k cs).length cap] 29)
  have H1 := hide (slE.below colE_good H.out hb1)
  have HB1 := hide hb1
  have hx : (((k + cnt cs : Nat) : Int) < 0) = False := by simp; omega
  clear hb1
  go_enter Tryd.func13, Tryd.ntmps13
  go_wp2_with fail
  go_at_call 33
  refine (heldColumnS_own _ cs F k _ H1.out h0 h1).mono ?_
  rintro e w2 ⟨rfl, hw2⟩
  have W2 := hide (HB1.out.trans (hw2.mono HB1.out.size))
  clear hw2
  obtain ⟨m, hm⟩ : ∃ m : Nat, m = k + cnt cs := ⟨_, rfl⟩
  rw [← hm]
  have hm0 : ((m : Int) < 0) = False := by simp
  go_wp2_with fail
  go_ret
  exact ⟨rfl, W2.out⟩

end Go.Proofs.YtiianddblanffaaDoor
