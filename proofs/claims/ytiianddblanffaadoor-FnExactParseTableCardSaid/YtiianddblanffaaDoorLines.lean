/- strings.Lines: the iterator and its contract. -/
import Derived.Test.YtiianddblanffaaDoorIter
import Derived.Test.YtiianddblanffaaDoorAddRow
import Derived.Shelf.RegionOpen
namespace Go.Proofs.YtiianddblanffaaDoor
open Go.RowKit Go.ChangeShapes
set_option linter.unusedSimpArgs false
set_option linter.unusedVariables false
set_option maxRecDepth 100000

/-- How long the text is that the iterator still holds. -/
def lenAt (Bs : Nat) (w : World) : Nat := match w.cell? ⟨Bs, 0, none⟩ with | some (.string s) => s.size | _ => 0

theorem cell_blk {w : World} {b : Nat} {x : Value} {t : TypeId} (h : w.heap[b]? = some (.cells #[x] t (0, 0))) : w.cell? ⟨b, 0, none⟩ = some x ∧ w.frozen? ⟨b, 0, none⟩ = false :=
  ⟨(cell_of_row w b 0 #[x] t (0, 0) h).trans rfl, frozen_of_row w b 0 #[x] t h⟩

theorem blk_set {w : World} {b : Nat} {x y : Value} {t : TypeId} (h : w.heap[b]? = some (.cells #[x] t (0, 0))) : (w.setCell ⟨b, 0, none⟩ y).heap[b]? = some (.cells #[y] t (0, 0)) := by
  simp [World.setCell, Array.getElem?_modify, h]

theorem ext_take (s : List UInt8) (k : Nat) : (ByteArray.mk s.toArray).extract 0 k = ⟨(s.take k).toArray⟩ := by
  apply ByteArray.ext
  apply Array.toList_inj.1
  rw [Lib.extract_from_zero]

theorem ext_drop (s : List UInt8) (k : Nat) : (ByteArray.mk s.toArray).extract k s.length = ⟨(s.drop k).toArray⟩ := by
  apply ByteArray.ext
  apply Array.toList_inj.1
  have h : (ByteArray.mk s.toArray).size = s.length := by simp [ByteArray.size]
  have := Lib.extract_to_end (ByteArray.mk s.toArray) k
  rw [h] at this
  rw [this]

set_option maxHeartbeats 2000000 in
theorem lines_seq (n : Nat) (hn : 1 ≤ n) (Bs : Nat) (l : List UInt8) (w : World) (hb : w.heap[Bs]? = some (.cells #[.string ⟨l.toArray⟩] 9 (0, 0))) (hl : l.length ≤ 1048576) :
    SeqW Fence.wide n Tryd.prog 50 #[.pointer (some ⟨Bs, 0, none⟩)] (fun x : ByteArray => #[.string x]) Bs (wB (linesL l)) w := by
  intro lp J Jx W hW hBW hJ hJx hY h0
  have HJ := hide hJ
  have HJx := hide hJx
  have HY := hide hY
  rw [hb] at hBW
  have HBW := hide hBW
  obtain ⟨xs, hxs⟩ : ∃ xs, xs = wB (linesL l) := ⟨_, rfl⟩
  have HXS := hide hxs
  rw [← hxs] at HY ⊢
  have H0 := hide h0
  clear hJ hJx hY hb hBW hxs h0
  refine callsIn_of_wp Tryd.func50 rfl trivial ?_ rfl
  simp only [Tryd.ntmps50, List.size_toArray, List.length_cons, List.length_nil, Nat.reduceAdd, Nat.reduceSub, Array.replicate_succ, Array.replicate_zero, List.push_toArray, List.append_toArray, List.nil_append, List.cons_append]
  gi_wp2
  gi_loopw [3] (fun p wr => ∃ (pre : List ByteArray) (f : Nat) (s : List UInt8), Hid (wr.heap[Bs]? = some (.cells #[.string ⟨s.toArray⟩] 9 (0, 0))) ∧ s.length ≤ 1048576 ∧ s.length ≤ f ∧ Hid (xs = pre ++ wB (linesF f s)) ∧ Hid (J pre wr)) (fun p wr => lenAt Bs wr)
  case atStart => exact ⟨[], l.length, l, HBW.out, hl, Nat.le_refl _, by show _ = _; rw [HXS.out]; rfl, H0.out⟩
  case round =>
    obtain ⟨pre, f, s, hbs, hsl, hsf, hpre, hj⟩ := hrel
    obtain ⟨c0, f0⟩ := cell_blk hbs.out
    have hsz : (ByteArray.mk s.toArray).size = s.length := by simp [ByteArray.size]
    have HSZ := hide hsz
    clear hsz
    by_cases hs0 : s = []
    · have hsz2 : s.length ≤ 0 := by simp [hs0]
      have HF := hide (show xs = pre by rw [hpre.out, hs0]; cases f <;> simp [linesF, wB])
      clear hs0
      gi_wp2
      go_end0
      exact ⟨⟨_, rfl⟩, .inl (by rw [HF.out]; exact hj.out)⟩
    · have hpos : 0 < s.length := List.length_pos_iff.2 hs0
      obtain ⟨f', rfl⟩ : ∃ f', f = f' + 1 := ⟨f - 1, by omega⟩
      have hge := Lib.indexByte_ge s 10
      obtain ⟨ix, hix⟩ : ∃ ix, ix = Lib.indexByte s 10 := ⟨_, rfl⟩
      have HIB := hide (show ∀ W : World, Calls Tryd.prog 51 #[.string ⟨s.toArray⟩, .int .u8 10] W fun e w' => e = .returned (.int .i64 ix) ∧ W = w' from fun W => by
        have := Tryd.strings_IndexByte ⟨s.toArray⟩ 10 W
        rw [hix]
        exact this.mono fun _ _ ⟨p, q⟩ => ⟨p, q.symm⟩)
      rw [← hix] at hge
      have HIX := hide hix
      have HS0 := hide hs0
      clear hix hs0
      by_cases h0 : 0 ≤ ix
      · obtain ⟨i, hi⟩ : ∃ i : Nat, ix = i := ⟨ix.toNat, by omega⟩
        have hil : i < s.length := by
          by_cases hm : (10 : UInt8) ∈ s
          · obtain ⟨a, b, rfl, ha⟩ := first_at 10 s hm
            have := HIX.out
            rw [ibyte_hit 10 a b ha] at this
            simp
            omega
          · have := HIX.out
            rw [ibyte_miss 10 s hm] at this
            omega
        have hnext : linesF (f' + 1) s = s.take (i + 1) :: linesF f' (s.drop (i + 1)) := by
          rw [linesF, if_neg HS0.out, ← HIX.out, if_pos h0, hi]
          rfl
        have HN := hide hnext
        have hd : decide ((i : Int) ≥ 0) = true := by simp
        subst hi
        clear hnext
        obtain ⟨x, hx⟩ : ∃ x, x = (ByteArray.mk s.toArray).extract 0 (i + 1) := ⟨_, rfl⟩
        obtain ⟨y, hy0⟩ : ∃ y, y = (ByteArray.mk s.toArray).extract (i + 1) s.length := ⟨_, rfl⟩
        have hxe := ext_take s (i + 1)
        have hye := ext_drop s (i + 1)
        rw [← hx] at hxe
        rw [← hy0] at hye
        obtain ⟨fn, tmps, assign, body, hy, hR⟩ := HY.out pre x (wr.setCell ⟨Bs, 0, none⟩ (.string y)).drew
          (HJ.out pre wr _ hj.out (by simp [World.setCell, World.drew]) rfl rfl rfl (fun k hk hne => Below.heap_setCell _ _ _ _ hne))
          (by rw [hpre.out, HN.out]; simp [wB])
          (by rw [hpre.out, HN.out, hxe]; simp [wB])
          (by show Bs < (wr.setCell _ _).heap.size; have := (Array.getElem?_eq_some_iff.1 hbs.out).1; simpa [World.setCell] using this)
        rw [hx, hy0] at hy
        rw [hy0] at hR
        have HR := hide hR
        have HXE := hide hxe
        have HYE := hide hye
        have HX := hide hx
        have HY0 := hide hy0
        clear hR hxe hye hx hy0
        gi_wp2_with (refine ⟨trivial, ?_⟩; gi_at_call 51; refine (callsIn_wide.2 (HIB.out _)).mono ?_; rintro e w' ⟨rfl, rfl⟩)
        gi_region
        all_goals gi_wp2
        refine HR.out.mono ?_
        rintro e W3 (⟨rfl, hJ3, hk3⟩ | ⟨rfl, hJx3⟩)
        · have hb3 : W3.heap[Bs]? = some (.cells #[.string ⟨(s.drop (i + 1)).toArray⟩] 9 (0, 0)) := by
            rw [hk3, ← HYE.out, HY0.out]
            exact blk_set hbs.out
          have HB3 := hide hb3
          have HJ3 := hide hJ3
          have HM := hide (show lenAt Bs W3 < lenAt Bs wr by
            unfold lenAt
            rw [(cell_blk hb3).1, (cell_blk hbs.out).1]
            show (ByteArray.mk _).size < (ByteArray.mk _).size
            simp [ByteArray.size]
            omega)
          clear hb3 hJ3 hk3
          gi_wp2
          refine ⟨⟨pre ++ [x], f', s.drop (i + 1), HB3.out, by simp; omega, by simp; omega, ?_, HJ3.out⟩, HM.out⟩
          show _ = _
          rw [hpre.out, HN.out, HXE.out]
          simp [wB]
        · have HJ3 := hide hJx3
          clear hJx3
          gi_wp2
          exact bodyPost_ret (v := .tuple #[]) (by simp [results, Tryd.results50, go_sem]) rfl ⟨⟨_, rfl⟩, .inr ⟨_, HJ3.out⟩⟩
      · have hixm : ix = -1 := by omega
        have hnext : linesF (f' + 1) s = [s] := by
          rw [linesF, if_neg HS0.out, ← HIX.out, if_neg h0]
        have HN := hide hnext
        subst hixm
        obtain ⟨fn, tmps, assign, body, hy, hR⟩ := HY.out pre (ByteArray.mk s.toArray) (wr.setCell ⟨Bs, 0, none⟩ (.string ⟨#[]⟩))
          (HJ.out pre wr _ hj.out (by simp [World.setCell]) rfl rfl rfl (fun k hk hne => Below.heap_setCell _ _ _ _ hne))
          (by rw [hpre.out, HN.out]; simp [wB])
          (by rw [hpre.out, HN.out]; simp [wB])
          (by have := (Array.getElem?_eq_some_iff.1 hbs.out).1; simpa [World.setCell] using this)
        have HR := hide hR
        clear hR hnext h0
        gi_wp2_with (refine ⟨trivial, ?_⟩; gi_at_call 51; refine (callsIn_wide.2 (HIB.out _)).mono ?_; rintro e w' ⟨rfl, rfl⟩)
        refine HR.out.mono ?_
        rintro e W3 (⟨rfl, hJ3, hk3⟩ | ⟨rfl, hJx3⟩)
        · have hb3 : W3.heap[Bs]? = some (.cells #[.string ⟨([] : List UInt8).toArray⟩] 9 (0, 0)) := by
            rw [hk3]
            exact blk_set hbs.out
          have HB3 := hide hb3
          have HJ3 := hide hJ3
          have HM := hide (show lenAt Bs W3 < lenAt Bs wr by
            unfold lenAt
            rw [(cell_blk hb3).1, (cell_blk hbs.out).1]
            show (ByteArray.mk _).size < (ByteArray.mk _).size
            simp [ByteArray.size]
            omega)
          clear hb3 hJ3 hk3
          gi_wp2
          refine ⟨⟨pre ++ [ByteArray.mk s.toArray], f', [], HB3.out, by simp, by simp, ?_, HJ3.out⟩, HM.out⟩
          show _ = _
          rw [hpre.out, HN.out]
          have e0 : linesF f' [] = [] := by cases f' <;> simp [linesF]
          rw [e0]
          simp [wB]
        · have HJ3 := hide hJx3
          clear hJx3
          gi_wp2
          exact bodyPost_ret (v := .tuple #[]) (by simp [results, Tryd.results50, go_sem]) rfl ⟨⟨_, rfl⟩, .inr ⟨_, HJ3.out⟩⟩

end Go.Proofs.YtiianddblanffaaDoor
