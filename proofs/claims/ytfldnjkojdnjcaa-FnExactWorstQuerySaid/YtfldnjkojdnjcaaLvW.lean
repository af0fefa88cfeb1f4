/- What WorstQuery returns, of the reference and of the program (promise 5). -/
import Derived.Test.YtfldnjkojdnjcaaLvM
import Derived.Test.YtfldnjkojdnjcaaPrs
namespace Go.Proofs.Ytfldnjkojdnjcaa
open Go.RowKit Go.ChangeShapes
set_option linter.unusedSimpArgs false
set_option linter.unusedVariables false
set_option maxRecDepth 100000

set_option maxHeartbeats 8000000 in
theorem sWq_any (a : Option Addr) (c : Nat) (l : List Int) (w : World) (B : Nat) (h : Ints w B (.slice a l.length c) l) (hB : B ≤ w.heap.size) (hl : l.length ≤ 1048576) :
    Calls Try.prog 36 #[.slice a l.length c] w (RetI1 w (wqK l l.length)) := by
  have HA := hide (fun (W : World) (hb : Below w.heap.size w W) k hk => (h.below hb hB).at' k hk)
  have HR := hide (fun k => wqK_range l k)
  have HN := hide (fun k hk => wqK_new (l := l) (k := k) hk)
  have HO := hide (fun k hk => wqK_old (l := l) (k := k) hk)
  obtain ⟨L, hL⟩ : ∃ L, L = l.length := ⟨_, rfl⟩
  rw [← hL] at HA hl ⊢
  have HL := hide hL
  clear h hL
  go_enter Try.func36, Try.ntmps36
  go_wp2_with fail
  go_loopw [3, 4] (fun b x wr => ∃ k : Nat, k ≤ L ∧ x = .int .i64 (k : Int) ∧ b = .int .i64 (wqK l k) ∧ Hid (Below w.heap.size w wr)) (fun _ x _ => L - (intOf x).toNat)
  case atStart => exact ⟨0, by omega, rfl, rfl, Below.refl _ _⟩
  case round =>
    obtain ⟨k, hk, rfl, rfl, hb⟩ := hrel
    obtain ⟨b, hbb⟩ : ∃ b, b = wqK l k := ⟨_, rfl⟩
    by_cases hlt : k < L
    · obtain ⟨g, o, rfl, ec⟩ := HA.out wr hb.out k hlt
      have hr := HR.out k
      have hn := HN.out k
      have ho := HO.out k
      rw [← hbb] at hr hn ho
      rw [← hbb]
      have e1 : wr.cell? ⟨g, o + k, none⟩ = some (.int .i64 (l.getD k 0)) := ec
      obtain ⟨x, hx⟩ : ∃ x, x = l.getD k 0 := ⟨_, rfl⟩
      rw [← hx] at e1 hn ho
      by_cases c0 : b < 0
      · have t0 : decide (b < 0) = true := decide_eq_true c0
        have hnn := hide (hn (.inl c0))
        clear hn ho hr ec hx hbb
        go_wp2_with fail
        go_region
        all_goals go_wp2_with fail
        all_goals exact ⟨⟨k + 1, by omega, by go_num, by rw [hnn.out], by first | exact hb.out.drew | exact hb.out⟩, by simp [intOf]; omega⟩
      · have t0 : decide (b < 0) = false := decide_eq_false c0
        obtain ⟨j, hj⟩ : ∃ j : Nat, b = (j : Int) := ⟨b.toNat, by omega⟩
        subst hj
        obtain ⟨g', o', e, ec'⟩ := HA.out wr hb.out j (by omega)
        obtain ⟨rfl, rfl⟩ : g = g' ∧ o = o' := by simpa using e
        have e2 : wr.cell? ⟨g, o + j, none⟩ = some (.int .i64 (l.getD j 0)) := ec'
        obtain ⟨y, hy⟩ : ∃ y, y = l.getD j 0 := ⟨_, rfl⟩
        rw [← hy] at e2
        simp only [Int.toNat_natCast, ← hy] at hn ho
        by_cases c1 : y < x
        · have t1 : decide (y < x) = true := decide_eq_true c1
          have hnn := hide (hn (.inr c1))
          clear hn ho ec ec' e hx hy c0 hbb
          go_wp2_with fail
          go_region
          all_goals go_wp2_with fail
          all_goals exact ⟨⟨k + 1, by omega, by go_num, by rw [hnn.out], by first | exact hb.out.drew | exact hb.out⟩, by simp [intOf]; omega⟩
        · have t1 : decide (y < x) = false := decide_eq_false c1
          have hnn := hide (ho (by omega))
          clear hn ho ec ec' e hx hy c0 hbb
          go_wp2_with fail
          go_region
          all_goals go_wp2_with fail
          all_goals exact ⟨⟨k + 1, by omega, by go_num, by rw [hnn.out], by first | exact hb.out.drew | exact hb.out⟩, by simp [intOf]; omega⟩
    · have hkL : k = L := by omega
      subst hkL
      go_wp2_with fail
      go_ret
      exact ⟨rfl, hb.out⟩

set_option maxHeartbeats 8000000 in
theorem iWq_any (a : Option Addr) (c : Nat) (l : List Int) (w : World) (B : Nat) (h : Ints w B (.slice a l.length c) l) (hB : B ≤ w.heap.size) (hl : l.length ≤ 1048576) :
    Calls Try.prog 38 #[.slice a l.length c] w (RetI1 w (wqK l l.length)) := by
  have HA := hide (fun (W : World) (hb : Below w.heap.size w W) k hk => (h.below hb hB).at' k hk)
  have HR := hide (fun k => wqK_range l k)
  have HN := hide (fun k hk => wqK_new (l := l) (k := k) hk)
  have HO := hide (fun k hk => wqK_old (l := l) (k := k) hk)
  obtain ⟨L, hL⟩ : ∃ L, L = l.length := ⟨_, rfl⟩
  rw [← hL] at HA hl ⊢
  have HL := hide hL
  clear h hL
  go_enter Try.func38, Try.ntmps38
  go_wp2_with fail
  go_loopw [3, 8] (fun b x wr => ∃ k : Nat, k ≤ L ∧ x = .int .i64 (k : Int) ∧ b = .int .i64 (wqK l k) ∧ Hid (Below w.heap.size w wr)) (fun _ x _ => L - (intOf x).toNat)
  case atStart => exact ⟨0, by omega, rfl, rfl, Below.refl _ _⟩
  case round =>
    obtain ⟨k, hk, rfl, rfl, hb⟩ := hrel
    obtain ⟨b, hbb⟩ : ∃ b, b = wqK l k := ⟨_, rfl⟩
    by_cases hlt : k < L
    · obtain ⟨g, o, rfl, ec⟩ := HA.out wr hb.out k hlt
      have hr := HR.out k
      have hn := HN.out k
      have ho := HO.out k
      rw [← hbb] at hr hn ho
      rw [← hbb]
      have e1 : wr.cell? ⟨g, o + k, none⟩ = some (.int .i64 (l.getD k 0)) := ec
      obtain ⟨x, hx⟩ : ∃ x, x = l.getD k 0 := ⟨_, rfl⟩
      rw [← hx] at e1 hn ho
      by_cases c0 : b < 0
      · have t0 : decide (b < 0) = true := decide_eq_true c0
        have hnn := hide (hn (.inl c0))
        clear hn ho hr ec hx hbb
        go_wp2_with fail
        exact ⟨⟨k + 1, by omega, by go_num, by rw [hnn.out], by first | exact hb.out.drew | exact hb.out⟩, by simp [intOf]; omega⟩
      · have t0 : decide (b < 0) = false := decide_eq_false c0
        obtain ⟨j, hj⟩ : ∃ j : Nat, b = (j : Int) := ⟨b.toNat, by omega⟩
        subst hj
        obtain ⟨g', o', e, ec'⟩ := HA.out wr hb.out j (by omega)
        obtain ⟨rfl, rfl⟩ : g = g' ∧ o = o' := by simpa using e
        have e2 : wr.cell? ⟨g, o + j, none⟩ = some (.int .i64 (l.getD j 0)) := ec'
        obtain ⟨y, hy⟩ : ∃ y, y = l.getD j 0 := ⟨_, rfl⟩
        rw [← hy] at e2
        simp only [Int.toNat_natCast, ← hy] at hn ho
        by_cases c1 : y < x
        · have t1 : decide (y < x) = true := decide_eq_true c1
          have hnn := hide (hn (.inr c1))
          clear hn ho ec ec' e hx hy c0 hbb
          go_wp2_with fail
          exact ⟨⟨k + 1, by omega, by go_num, by rw [hnn.out], by first | exact hb.out.drew | exact hb.out⟩, by simp [intOf]; omega⟩
        · have t1 : decide (y < x) = false := decide_eq_false c1
          have hnn := hide (ho (by omega))
          clear hn ho ec ec' e hx hy c0 hbb
          go_wp2_with fail
          exact ⟨⟨k + 1, by omega, by go_num, by rw [hnn.out], by first | exact hb.out.drew | exact hb.out⟩, by simp [intOf]; omega⟩
    · have hkL : k = L := by omega
      subst hkL
      go_wp2_with fail
      go_ret
      exact ⟨rfl, hb.out⟩

end Go.Proofs.Ytfldnjkojdnjcaa
