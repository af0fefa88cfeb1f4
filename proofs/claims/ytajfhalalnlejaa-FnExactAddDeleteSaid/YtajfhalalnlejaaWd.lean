/- withoutDeletes of the program: whether every delete finds its row (promise 7). -/
import Derived.Test.YtajfhalalnlejaaPdM
import Derived.Test.YtajfhalalnlejaaPd
import Derived.Maps.OwnSet
namespace Go.Proofs.Ytajfhalalnlejaa
open Go.RowKit Go.ChangeShapes Go.Maps
set_option linter.unusedSimpArgs false
set_option linter.unusedVariables false
set_option maxRecDepth 100000

theorem seg_of_grown {w w' : World} {b : Nat} (h : w.grownBy w' (some b)) (hb : b ≤ w.heap.size) : Seg b (b + 1) w w' :=
  ⟨(Below.refl b w).grown h hb (fun k hk => by cases hk; exact Nat.le_refl _), fun x hx hl => h.block x hl (fun e => by cases e; omega)⟩

theorem mapK : Keyed Try.prog 3 := int_keyed Try.underlying3
theorem mapZ (w : World) : (zeroValue 3).run Try.prog w = .ok (.int .i64 0) w := by kernel_rfl
theorem wf_of_i64 {x : Int} (h : I64 x) : (Lit.int .i64 x).wf = true := by
  obtain ⟨h1, h2⟩ := h
  exact WalkArith.wf_i64 ⟨by omega, by omega⟩

/-- A map and a truth are returned; nothing that was there has turned. -/
def RetMB (w : World) (b : Bool) (e : Ending) (w' : World) : Prop := ∃ m, e = .returned (.tuple #[m, .bool b]) ∧ Below w.heap.size w w'

theorem lit_ne {x y : Int} (h : x ≠ y) : (Lit.int .i64 x) ≠ (Lit.int .i64 y) := fun e => h (by injection e)

set_option maxHeartbeats 4000000 in
theorem iWd_any (v dv : Value) (l r : List Int) (ps : List Pv) (de : List Int) (w : World) (B : Nat) (hv : Ck w B v l r ps) (hd : Ints w B dv de) (hB : B ≤ w.heap.size) (hlr : r.length = l.length) (hr : r.length ≤ 1048576) :
    Calls Try.prog 89 #[v, dv] w (RetMB w (desOk r de)) := by
  obtain ⟨a1, c1, a2, c2, a3, c3, rfl, i1, i2, -⟩ := hv.form
  obtain ⟨b1, d1, rfl⟩ := hd.form
  have hdl : de.length ≤ 9223372036854775807 := by obtain ⟨_, _, _, h, _⟩ := hd; exact h
  have hrw : ∀ x ∈ r, I64 x := by obtain ⟨_, _, _, _, h, _⟩ := i2; exact h
  have hdw : ∀ x ∈ de, I64 x := by obtain ⟨_, _, _, _, h, _⟩ := hd; exact h
  have HRW := hide hrw
  have HDW := hide hdw
  have X : Hid (Kn w (w.alloc (.cells #[.slice a1 l.length c1, .slice a2 r.length c2, .slice a3 ps.length c3] 27)) [(w.heap.size, #[.slice a1 l.length c1, .slice a2 r.length c2, .slice a3 ps.length c3], 27)]) := hide (Kn.one w _ _)
  have I1 := hide (fun (W : World) (h : Below w.heap.size w W) => i1.below h hB)
  have I2 := hide (fun (W : World) (h : Below w.heap.size w W) => i2.below h hB)
  have ID := hide (fun (W : World) (h : Below w.heap.size w W) => hd.below h hB)
  clear i1 i2 hv hd hrw hdw
  obtain ⟨b0, hb0⟩ : ∃ b0, b0 = desOk r de := ⟨_, rfl⟩
  rw [← hb0]
  have HB0 := hide hb0
  clear hb0
  have HLR := hide hlr
  clear hlr
  obtain ⟨w1, hw1⟩ : ∃ w1, w1 = w.alloc (.cells #[.slice a1 l.length c1, .slice a2 r.length c2, .slice a3 ps.length c3] 27) := ⟨_, rfl⟩
  have hz1 := hide (show w1.heap.size = w.heap.size + 1 by rw [hw1]; simp)
  rw [← hw1] at X
  obtain ⟨b, hbb⟩ : ∃ b, b = w1.heap.size := ⟨_, rfl⟩
  have HM := hide (World.ownsMap_made (H := Unit) w1 Try.prog 3 (plainElem Try.prog 3))
  obtain ⟨w2, hw2⟩ : ∃ w2, w2 = w1.alloc (.map #[] 0) := ⟨_, rfl⟩
  have X2 : Hid (Kn w w2 [(w.heap.size, #[.slice a1 l.length c1, .slice a2 r.length c2, .slice a3 ps.length c3], 27)]) := hide (by rw [hw2]; exact X.out.up ((Below.refl _ _).alloc (Nat.le_refl _) _))
  have hz2 := hide (show w2.heap.size = b + 1 by rw [hw2, hbb]; simp)
  have hbw := hide (show b = w.heap.size + 1 by rw [hbb, hz1.out])
  rw [← hw2, ← hbb] at HM
  have e1 : w2.cell? ⟨w.heap.size, 1, none⟩ = some (.slice a2 r.length c2) := X2.out.cell 0 1 rfl rfl
  have hmm := @run_makeMap Try.prog
  have hb2 : w.heap.size + 1 = b := by rw [hbw.out]
  have HB2 := hide hb2
  clear hb2
  rw [hw2, hw1] at e1
  go_enter Try.func89, Try.ntmps89
  go_wp2_with fail
  rw [HB2.out, ← hw1, ← hw2]
  clear hw1 hw2 hbb e1 X
  go_loopw [17] (fun i wr => ∃ (k : Nat) (D : DataW Unit), k ≤ r.length ∧ i = .int .i64 k ∧ Hid (wr.ownsMap Try.prog 3 (plainElem Try.prog 3) b k D) ∧ Hid (∀ x, Maps.has D (.int .i64 x) = decide (x ∈ r.take k)) ∧ Hid (Kn w wr [(w.heap.size, #[.slice a1 l.length c1, .slice a2 r.length c2, .slice a3 ps.length c3], 27)]) ∧ Hid (b < wr.heap.size)) (fun i _ => r.length - (intOf i).toNat)
  case atStart => exact ⟨0, .map [], by omega, rfl, HM.out, fun x => by simp [Maps.has], X2.out, by show b < w2.heap.size; have := hz2.out; omega⟩
  case round =>
    obtain ⟨k, D, hk, rfl, hown, hhas, Y, hbl⟩ := hrel
    clear X2 HM hmm
    by_cases hlt : k < r.length
    · have hkl : k < l.length := by have := HLR.out; omega
      obtain ⟨g2, o2, rfl, hg2, hc2⟩ : ∃ g o, a2 = some ⟨g, o, none⟩ ∧ g < B ∧ wr.cell? ⟨g, o + k, none⟩ = some (.int .i64 r[k]) := by
        obtain ⟨a', c', he, -, -, h3⟩ := I2.out _ Y.out.below
        simp only [Value.slice.injEq] at he
        obtain ⟨rfl, -, -⟩ := he
        exact h3 k hlt
      obtain ⟨g1, o1, rfl, hg1, hc1⟩ : ∃ g o, a1 = some ⟨g, o, none⟩ ∧ g < B ∧ wr.cell? ⟨g, o + k, none⟩ = some (.int .i64 l[k]) := by
        obtain ⟨a', c', he, -, -, h3⟩ := I1.out _ Y.out.below
        simp only [Value.slice.injEq] at he
        obtain ⟨rfl, -, -⟩ := he
        exact h3 k hkl
      have hwl : I64 l[k] := by
        obtain ⟨a', c', he, -, h2, -⟩ := I1.out _ Y.out.below
        exact h2 _ (List.getElem_mem hkl)
      have hwr := HRW.out _ (List.getElem_mem hlt)
      obtain ⟨x, hx⟩ : ∃ x, x = r[k] := ⟨_, rfl⟩
      obtain ⟨y, hy⟩ : ∃ y, y = l[k] := ⟨_, rfl⟩
      rw [← hx] at hc2 hwr
      rw [← hy] at hc1 hwl
      have HX := hide hx
      clear hx hy
      have hkey : keyOf Try.prog 3 (.int .i64 x) = some (.int .i64 x) := keyOf_int_mk Try.underlying3 (wf_of_i64 hwr)
      have hpe := plainElem_int (H := Unit) Try.underlying3 (wf_of_i64 hwl)
      have HK := hide hkey
      have HPE := hide hpe
      clear hkey hpe hwl hwr
      have d0 : wr.cell? ⟨w.heap.size, 0, none⟩ = some (.slice (some ⟨g1, o1, none⟩) l.length c1) := Y.out.cell 0 0 rfl rfl
      go_wp2_with (first | (at_mapUpdate; refine wpList_mapUpdate_own _ rfl _ _ _ 119 rfl 3 3 mapK Try.underlying119 _ b k _ rfl hown.out (by unfold maxLen; omega) _ _ _ rfl rfl HK.out _ [] HPE.out ?_; intro w3 hown3 hgrow3))
      have hsg := seg_of_grown hgrow3 (Nat.le_of_lt hbl.out)
      have hbw2 := HB2.out
      have Y3 := hide (Y.out.seg hsg (by omega) (by simp; omega))
      have hbl3 := hide (Nat.lt_of_lt_of_le hbl.out hsg.below.size)
      have hh3 := hide (show ∀ z, Maps.has (D.put (.int .i64 x) (.lit (.int .i64 y))) (.int .i64 z) = decide (z ∈ r.take (k + 1)) from fun z => by
        rw [List.take_succ_eq_append_getElem hlt, ← HX.out]
        by_cases hz : z = x
        · subst hz
          rw [has_put_same hown.out.isMap (by trivial)]
          simp
        · rw [has_put_other (lit_ne hz), hhas.out]
          simp [hz])
      clear hsg hbw2 d0 hc1 hc2 Y hown hhas hgrow3
      go_wp2_with fail
      go_roundw
      case rel => exact ⟨k + 1, _, by omega, by go_num, hown3, hh3, Y3.out, hbl3.out⟩
      case measure => simp [intOf]; omega
    · have hke : k = r.length := by omega
      subst hke
      have hhas := hide (show ∀ x, Maps.has D (.int .i64 x) = decide (x ∈ r ∧ x ∉ de.take 0) from fun x => by rw [hhas.out]; simp)
      go_wp2_with fail
      go_loopw [32] (fun i wr => ∃ (k : Nat) (D : DataW Unit), k ≤ de.length ∧ i = .int .i64 k ∧ Hid (wr.ownsMap Try.prog 3 (plainElem Try.prog 3) b r.length D) ∧ Hid (∀ x, Maps.has D (.int .i64 x) = decide (x ∈ r ∧ x ∉ de.take k)) ∧ Hid (DePre r de k) ∧ Hid (Kn w wr [(w.heap.size, #[.slice a1 l.length c1, .slice a2 r.length c2, .slice a3 ps.length c3], 27)]) ∧ Hid (b < wr.heap.size)) (fun i _ => de.length - (intOf i).toNat)
      case atStart => exact ⟨0, D, by omega, rfl, hown.out, hhas.out, dePre_zero _ _, Y.out, hbl.out⟩
      case round =>
        clear hown hhas Y hbl
        obtain ⟨k, D, hk, rfl, hown, hhas, hpre, Y, hbl⟩ := hrel
        by_cases hlt : k < de.length
        · obtain ⟨g2, o2, rfl, hg2, hc2⟩ : ∃ g o, b1 = some ⟨g, o, none⟩ ∧ g < B ∧ wr.cell? ⟨g, o + k, none⟩ = some (.int .i64 de[k]) := by
            obtain ⟨a', c', he, -, -, h3⟩ := ID.out _ Y.out.below
            simp only [Value.slice.injEq] at he
            obtain ⟨rfl, -, -⟩ := he
            exact h3 k hlt
          have hwr := HDW.out _ (List.getElem_mem hlt)
          obtain ⟨x, hx⟩ : ∃ x, x = de[k] := ⟨_, rfl⟩
          rw [← hx] at hc2 hwr
          have HX := hide hx
          clear hx
          have HK := hide (keyOf_int_mk Try.underlying3 (wf_of_i64 hwr))
          clear hwr
          have hhx := hhas.out x
          obtain ⟨bh, hbh⟩ : ∃ q, q = Maps.has D (.int .i64 x) := ⟨_, rfl⟩
          rw [← hbh] at hhx
          have HH := hide hhx
          have HBH := hide hbh
          clear hhx hbh
          cases bh
          · have hf := hide (show b0 = false by
              rw [HB0.out]
              refine des_bad hlt fun h => ?_
              have h1 := of_decide_eq_false HH.out.symm
              have h2 := h.1
              have h3 := h.2
              rw [← HX.out] at h2 h3
              exact h1 ⟨rowAt_nonneg_iff.1 h2, h3⟩)
            go_wp2_with (first | (at_lookup; refine wpList_lookup_own_ok_int _ rfl _ _ 119 rfl 3 3 .i64 mapK Try.underlying119 Try.underlying3 (mapZ _) b r.length D rfl hown.out _ _ rfl HK.out ?_; intro c hat hwc; rw [← HBH.out]; clear hat hwc))
            go_ret2
            exact ⟨_, by rw [hf.out]; rfl, Y.out.below⟩
          · have h1 := of_decide_eq_true HH.out.symm
            have hok := hide (dePre_step hpre.out hlt ⟨by rw [← HX.out]; exact rowAt_nonneg_iff.2 h1.1, by rw [← HX.out]; exact h1.2⟩)
            clear h1
            go_wp2_with (first | (at_lookup; refine wpList_lookup_own_ok_int _ rfl _ _ 119 rfl 3 3 .i64 mapK Try.underlying119 Try.underlying3 (mapZ _) b r.length D rfl hown.out _ _ rfl HK.out ?_; intro c hat hwc; rw [← HBH.out]; clear hat hwc) | (at_delete; refine wpList_delete_own _ rfl _ _ 119 3 rfl 3 mapK Try.underlying119 _ b r.length D rfl hown.out _ _ rfl HK.out ?_; intro w3 hown3 hturn3))
            have hsg := seg_of_grown hturn3.grown (Nat.le_of_lt hbl.out)
            have hbw2 := HB2.out
            have Y3 := hide (Y.out.seg hsg (by omega) (by simp; omega))
            have hbl3 := hide (Nat.lt_of_lt_of_le hbl.out hsg.below.size)
            have hh3 := hide (show ∀ z, Maps.has (D.del (.int .i64 x)) (.int .i64 z) = decide (z ∈ r ∧ z ∉ de.take (k + 1)) from fun z => by
              rw [List.take_succ_eq_append_getElem hlt, ← HX.out]
              by_cases hz : z = x
              · subst hz
                rw [has_del_same]
                simp
              · rw [has_del_other (lit_ne hz), hhas.out]
                simp [hz])
            have hown3 := hide hown3
            clear hsg hbw2 hc2 Y hown hhas hturn3
            go_wp2_with fail
            go_roundw
            case rel => exact ⟨k + 1, _, by omega, by go_num, hown3.out, hh3, hok, Y3.out, hbl3.out⟩
            case measure => simp [intOf]; omega
        · have hke : k = de.length := by omega
          subst hke
          have hf := hide (show b0 = true by rw [HB0.out]; exact dePre_all hpre.out)
          go_wp2_with fail
          go_ret2
          exact ⟨_, by rw [hf.out]; rfl, Y.out.below⟩

end Go.Proofs.Ytajfhalalnlejaa
