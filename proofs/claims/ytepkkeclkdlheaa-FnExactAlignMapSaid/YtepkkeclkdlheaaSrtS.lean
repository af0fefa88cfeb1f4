/- SortInts of the reference: an insertion sort of a copy (promise 4). -/
import Derived.Test.YtepkkeclkdlheaaSrtM
import Derived.Test.YtepkkeclkdlheaaCln
namespace Go.Proofs.Ytepkkeclkdlheaa
open Go.RowKit Go.ChangeShapes
set_option linter.unusedSimpArgs false
set_option linter.unusedVariables false
set_option maxRecDepth 100000

/-- Integers of the call's own are returned; nothing that was there has turned. -/
def RetOw (w : World) (l : List Int) (e : Ending) (w' : World) : Prop := ∃ v hi, e = .returned v ∧ Ow w' v l w.heap.size hi ∧ Below w.heap.size w w'

theorem Ow.atS {w : World} {a : Option Addr} {n c lo hi : Nat} {l : List Int} (h : Ow w (.slice a n c) l lo hi) (h0 : 0 < l.length) :
    ∃ g, a = some ⟨g, 0, none⟩ ∧ ∀ j (hj : j < l.length), w.cell? ⟨g, j, none⟩ = some (.int .i64 l[j]) := by
  obtain ⟨⟨F, ⟨o, rfl⟩, hF⟩, hle, htop⟩ := h
  have o2 := o
  rcases o2.2 with ⟨e, hn⟩ | ⟨g, cap', cur, e, -⟩
  · exfalso; omega
  · injection e with e1 e2 e3
    subst e1
    exact ⟨g, rfl, fun j hj => (o.cell j hj).1⟩

set_option maxHeartbeats 4000000 in
theorem sSort_any (a : Option Addr) (c : Nat) (l : List Int) (w : World) (B : Nat) (h : Ints w B (.slice a l.length c) l) (hn : a = none → c = 0) (hB : B ≤ w.heap.size) (hl : l.length ≤ 1048576) :
    Calls Try.prog 116 #[.slice a l.length c] w (RetOw w (sortL l)) := by
  have H := hide (h.below (below1 w (.cells #[] 3)) hB)
  obtain ⟨i0, hi0, hi1, hi2, hi3⟩ := info_parts infoI
  have HI := hide (And.intro hi0 (And.intro hi1 (And.intro hi2 hi3)))
  have hz : a = none → l.length = 0 ∧ c = 0 := fun e => ⟨by subst e; exact ints_nil h, hn e⟩
  have HZ := hide hz
  clear h hi0 hi1 hi2 hi3 hn hz
  obtain ⟨L, hL⟩ : ∃ L, L = l.length := ⟨_, rfl⟩
  have HL := hide hL
  have hLb : L ≤ 1048576 := by rw [hL]; exact hl
  rw [← hL]
  clear hL
  go_enter Try.func116, Try.ntmps116
  go_wp2_with (first | (at_builtin; refine append_list (w.alloc (.cells #[] 3)) rfl _ _ 22 rfl w.heap.size 3 i0 _ 1 8 Try.underlying22 HI.out.1 HI.out.2.1 HI.out.2.2.1 HI.out.2.2.2 (by first | rfl | decide) (by decide) (by decide) _ rfl (World.ownsRow_made w #[] 0 (Nat.le_refl _) (by unfold maxLen; omega) rfl) w.heap.size rfl a L c (intVs l) rfl (fun h => by rw [HL.out]; exact HZ.out h) (by rw [HL.out]; simp [intVs]) (by have := ints_news H.out; exact this) (intVs_cell l) (by rw [HL.out]; exact hl) (by simp) ?_; intro v' W' hown hgr) | fail)
  have hb := hide (((Below.refl w.heap.size w).alloc (Nat.le_refl _) (.cells #[] 3)).grown hgr (by simp) (by intro k hk; cases hk; exact Nat.le_refl _))
  have O := Ow.of (lo := w.heap.size) (w' := W') (l := l) (v := v') (by unfold Is; rw [← HL.out]; exact hown) hb.out.size
  obtain ⟨a', c', rfl⟩ := O.form
  rw [← HL.out] at O
  have O := hide O
  obtain ⟨hi, hhi⟩ : ∃ hi, hi = W'.heap.size := ⟨_, rfl⟩
  rw [← hhi] at O
  rw [← HL.out]
  clear hown hgr hhi 
  go_loopw [4] (fun x wr => ∃ (i : Nat) (m : List Int), 1 ≤ i ∧ x = .int .i64 i ∧ i ≤ L + 1 ∧ Hid (SrtO l i m) ∧ Hid (Ow wr (.slice a' L c') m w.heap.size hi) ∧ Hid (Below w.heap.size w wr)) (fun x _ => L + 1 - (intOf x).toNat)
  case atStart => exact ⟨1, l, Nat.le_refl _, rfl, by omega, SrtO.first l, O.out, hb.out⟩
  case round =>
    obtain ⟨i, m, hi1, rfl, hiL, hm, o, hb'⟩ := hrel
    clear O hb
    have hlen := hide (show m.length = L by
      obtain ⟨S, D, rfl, -, -, h5⟩ := hm.out
      rw [HL.out]; exact h5.length_eq)
    by_cases hlt : i < L
    · have HII := hide (hm.out.start (by rw [hlen.out]; exact hlt))
      clear hm
      go_wp2_with fail
      go_loopw [5] (fun x wi => ∃ (k : Nat) (n : List Int), x = .int .i64 k ∧ Hid (SrtI l i k n) ∧ Hid (Ow wi (.slice a' L c') n w.heap.size hi) ∧ Hid (Below w.heap.size w wi)) (fun x _ => (intOf x).toNat)
      case atStart => exact ⟨i, m, rfl, HII.out, o.out, hb'.out⟩
      case round =>
        obtain ⟨k, n, rfl, hI, o2, hb2⟩ := hrel
        clear o hb' HII
        have hll := hI.out.len
        have HN := hide (show n.length = L by rw [hll.1, HL.out])
        have hkn : k < L := by have := hll.2.1; rw [HN.out] at this; exact this
        have hki := hll.2.2
        clear hll
        by_cases hk0 : k = 0
        · subst hk0
          have hd := hide (hI.out.done (.inl rfl))
          clear hI
          go_wp2_with fail
          go_quiet (fail)
          go_wp2_with fail
          go_roundw
          case rel => exact ⟨i + 1, n, by omega, by go_num, by omega, hd.out, o2.out.below (below_drewN (Below.refl _ _) _), below_drewN hb2.out _⟩
          case measure => simp [intOf]; omega
        · obtain ⟨k, rfl⟩ : ∃ k', k = k' + 1 := ⟨k - 1, by omega⟩
          have t1 : decide (0 < k + 1) = true := by simp
          obtain ⟨g, rfl, hc⟩ := o2.out.atS (by rw [HN.out]; omega)
          have e0 := hc k (by rw [HN.out]; omega)
          have e1 := hc (k + 1) (by rw [HN.out]; exact hkn)
          obtain ⟨y, hy⟩ : ∃ y, y = n.getD k 0 := ⟨_, rfl⟩
          obtain ⟨x, hx⟩ : ∃ x, x = n.getD (k + 1) 0 := ⟨_, rfl⟩
          rw [show n[k]'(by rw [HN.out]; omega) = y by rw [hy]; simp [List.getD, show k < n.length by rw [HN.out]; omega]] at e0
          rw [show n[k + 1]'(by rw [HN.out]; exact hkn) = x by rw [hx]; simp [List.getD, show k + 1 < n.length by rw [HN.out]; exact hkn]] at e1
          have HY := hide hy
          have HX := hide hx
          clear hc hy hx hk0
          by_cases hgt : x < y
          · have t2 : decide (x < y) = true := by simp [hgt]
            have hs := hide (hI.out.step (by rw [← HX.out, ← HY.out]; exact hgt))
            clear hI hgt
            go_wp2_with fail
            go_quiet (fail)
            go_wp2_with fail
            go_at_call 84
            refine (sSwap_ow _ n w.heap.size hi k (k + 1) _ (o2.out.below (below_drewN (Below.refl _ _) _)) (by rw [HN.out]; omega) (by rw [HN.out]; exact hkn)).mono ?_
            rintro e w3 ⟨⟨u, rfl⟩, o3, sg⟩
            have O3 := hide o3
            have B3 := hide ((below_drewN hb2.out _).trans sg.below)
            clear o3 sg
            go_wp2_with fail
            go_roundw
            case rel => exact ⟨k, swapAt n k (k + 1), by go_num, hs.out, O3.out, B3.out⟩
            case measure => simp [intOf]
          · have t2 : decide (x < y) = false := by simp [hgt]
            have hd := hide (hI.out.done (.inr ⟨k, rfl, by rw [← HX.out, ← HY.out]; omega⟩))
            clear hI hgt
            go_wp2_with fail
            go_quiet (fail)
            go_wp2_with fail
            go_roundw
            case rel => exact ⟨i + 1, n, by omega, by go_num, by omega, hd.out, o2.out.below (below_drewN (Below.refl _ _) _), below_drewN hb2.out _⟩
            case measure => simp [intOf]; omega
    · have hf := hide (hm.out.fin (by rw [hlen.out]; omega))
      rw [hf.out] at o
      go_wp2_with fail
      go_ret
      exact ⟨_, _, rfl, o.out, hb'.out⟩

end Go.Proofs.Ytepkkeclkdlheaa
