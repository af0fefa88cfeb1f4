/- Columns of the call's own, their rows in any order (OC): the laws' markCracker and heldCracker. -/
import Derived.Test.YtepkkeclkdlheaaCkL
namespace Go.Proofs.Ytepkkeclkdlheaa
open Go.RowKit Go.ChangeShapes
set_option linter.unusedSimpArgs false
set_option linter.unusedVariables false
set_option maxRecDepth 100000

theorem Seg.refl (lo hi : Nat) (w : World) : Seg lo hi w w := ⟨Below.refl _ _, fun _ _ _ => rfl⟩

theorem Seg.trans {lo hi : Nat} {a b c : World} (h : Seg lo hi a b) (k : Seg lo hi b c) : Seg lo hi a c :=
  ⟨h.below.trans k.below, fun x hx hl => (k.over x hx (Nat.lt_of_lt_of_le hl h.below.size)).trans (h.over x hx hl)⟩

theorem Seg.mono {a b lo hi : Nat} {w w' : World} (h : Seg a b w w') (h1 : lo ≤ a) (h2 : b ≤ hi) : Seg lo hi w w' :=
  ⟨h.below.mono h1, fun x hx hl => h.over x (Nat.le_trans h2 hx) hl⟩

theorem Seg.of_below {lo hi : Nat} {w w' : World} (h : Below w.heap.size w w') (hlo : lo ≤ w.heap.size) : Seg lo hi w w' :=
  ⟨h.mono hlo, fun x _ hl => h.block x hl⟩

/-- The pivots that a mark from k on leaves. -/
def mkP (k : Int) (n : Nat) : List Pv := (List.range n).map fun (j : Nat) => (k + 2 * (j : Int), k + 2 * (j : Int) + 1)

theorem mkP_length (k : Int) (n : Nat) : (mkP k n).length = n := by simp [mkP]
theorem mkP_get (k : Int) (n j : Nat) (h : j < n) : (mkP k n)[j]'(by rw [mkP_length]; exact h) = (k + 2 * (j : Int), k + 2 * (j : Int) + 1) := by simp [mkP]

theorem set_step {α : Type} (A B : List α) (j : Nat) (hA : j < A.length) (hB : j < B.length) : (A.take j ++ B.drop j).set j A[j] = A.take (j + 1) ++ B.drop (j + 1) := by
  rw [List.set_append_right _ _ (by simp; omega), show j - (A.take j).length = 0 by simp; omega, List.drop_eq_getElem_cons hB, List.set_cons_zero, List.take_succ_eq_append_getElem hA, List.append_assoc, List.singleton_append]

/-- A number is returned, v's own pivots now read as ps, only their stretch has turned. -/
def RetMP (w : World) (v : Value) (lo hi : Nat) (x : Int) (ps : List Pv) (e : Ending) (w' : World) : Prop := e = .returned (.int .i64 x) ∧ Owp w' v ps lo hi ∧ Seg lo hi w w'

set_option maxHeartbeats 2000000 in
theorem markPs_ow (v : Value) (ps : List Pv) (lo hi : Nat) (k : Int) (w : World) (h : Owp w v ps lo hi) (h0 : 0 ≤ k) (h1 : k + 2 * ps.length ≤ 4611686018427387904) :
    Calls Try.prog 111 #[v, .int .i64 k] w (RetMP w v lo hi (k + 2 * ps.length) (mkP k ps.length)) := by
  have H := hide h
  obtain ⟨a, cap, rfl⟩ := h.own.form
  clear h
  go_enter Try.func111, Try.ntmps111
  go_wp2
  go_loopw [1, 5] (fun x i wr => ∃ (j : Nat) (m : List Pv), j ≤ ps.length ∧ i = .int .i64 j ∧ x = .int .i64 (k + 2 * j) ∧ Hid (m = (mkP k ps.length).take j ++ ps.drop j) ∧ Hid (Owp wr (.slice a ps.length cap) m lo hi) ∧ Hid (Seg lo hi w wr)) (fun _ i _ => ps.length - (intOf i).toNat)
  case atStart => exact ⟨0, ps, by omega, rfl, by simp, by show _ = _; simp, H.out, Seg.refl _ _ _⟩
  case round =>
    obtain ⟨j, m, hj, rfl, rfl, hmm, ho, hw⟩ := hrel
    have hml : m.length = ps.length := by rw [hmm.out]; simp [mkP_length]; omega
    by_cases hlt : j < ps.length
    · have hjm : j < m.length := by omega
      obtain ⟨g, rfl⟩ : ∃ g, a = some ⟨g, 0, none⟩ := by
        rcases ho.out.own.2 with ⟨hv, hn⟩ | ⟨g, cap', cur, hv, _⟩
        · omega
        · simp only [Value.slice.injEq] at hv
          exact ⟨g, hv.1⟩
      obtain ⟨q0, q1, f0, f1, hg1, hg2⟩ := Op.cell ho.out.own j hjm
      have hg3 := ho.out.lt g rfl
      obtain ⟨y, hy⟩ : ∃ y, y = m[j].1 := ⟨_, rfl⟩
      obtain ⟨y', hy'⟩ : ∃ y, y = m[j].2 := ⟨_, rfl⟩
      rw [← hy] at q0
      rw [← hy'] at q1
      have HM := hide hml
      clear hy hy' hml
      have q1' : (wr.setCell ⟨g, j * 2, none⟩ (.int .i64 (k + 2 * (j : Int)))).cell? ⟨g, j * 2 + 1, none⟩ = some (.int .i64 y') := by
        rw [World.cell?_setCell_other _ _ _ _ (by simp)]; exact q1
      have f1' : (wr.setCell ⟨g, j * 2, none⟩ (.int .i64 (k + 2 * (j : Int)))).frozen? ⟨g, j * 2 + 1, none⟩ = false := by simpa using f1
      go_wp2_with fail
      go_roundw
      case rel =>
        refine ⟨j + 1, m.set j (k + 2 * j, k + 2 * j + 1), by omega, by go_num, by go_num, ?_, ?_, ?_⟩
        · show _ = _
          rw [hmm.out, ← mkP_get k ps.length j hlt]
          exact set_step _ _ j (by rw [mkP_length]; exact hlt) hlt
        · exact ⟨Op.put ho.out.own j _ _ hjm, ho.out.lt, ho.out.le, by simpa using ho.out.top⟩
        · exact (hw.out.trans ((Seg.setCell wr g (j * 2) _).mono hg1 (by omega))).trans ((Seg.setCell _ g (j * 2 + 1) _).mono hg1 (by omega))
      case measure => simp [intOf]; omega
    · have hje : j = ps.length := by omega
      subst hje
      have hmf : m = mkP k ps.length := by rw [hmm.out, List.take_of_length_le (by rw [mkP_length]; exact Nat.le_refl _)]; simp
      subst hmf
      go_wp2
      go_ret
      exact ⟨rfl, ho.out, hw.out⟩

set_option maxHeartbeats 2000000 in
theorem heldPs_ow (v : Value) (n : Nat) (lo hi : Nat) (k : Int) (w : World) (h : Owp w v (mkP k n) lo hi) (h0 : 0 ≤ k) (h1 : k + 2 * n ≤ 4611686018427387904) :
    Calls Try.prog 113 #[v, .int .i64 k] w fun e w' => e = .returned (.int .i64 (k + 2 * n)) ∧ w = w' := by
  have H := hide h
  obtain ⟨a, cap, rfl⟩ := h.own.form
  rw [mkP_length] at H ⊢
  clear h
  go_enter Try.func113, Try.ntmps113
  go_wp2
  go_loopw [1, 5] (fun x i wr => ∃ (j : Nat), j ≤ n ∧ i = .int .i64 j ∧ x = .int .i64 (k + 2 * j) ∧ w = wr) (fun _ i _ => n - (intOf i).toNat)
  case atStart => exact ⟨0, by omega, rfl, by simp, rfl⟩
  case round =>
    obtain ⟨j, hj, rfl, rfl, rfl⟩ := hrel
    by_cases hlt : j < n
    · obtain ⟨g, rfl⟩ : ∃ g, a = some ⟨g, 0, none⟩ := by
        rcases H.out.own.2 with ⟨hv, hn⟩ | ⟨g, cap', cur, hv, _⟩
        · rw [mkP_length] at hn; omega
        · simp only [Value.slice.injEq] at hv
          exact ⟨g, hv.1⟩
      obtain ⟨q0, q1, -⟩ := Op.cell H.out.own j (by rw [mkP_length]; exact hlt)
      rw [mkP_get k n j hlt] at q0 q1
      simp only at q0 q1
      have t1 : (k + 2 * (j : Int) != k + 2 * (j : Int)) = false := by simp
      have t2 : (k + 2 * (j : Int) + 1 != k + 2 * (j : Int) + 1) = false := by simp
      go_wp2_with fail
      go_roundw
      case rel => exact ⟨j + 1, by omega, by go_num, by go_num, trivial⟩
      case measure => simp [intOf]; omega
    · have hje : j = n := by omega
      subst hje
      go_wp2
      go_ret
      exact ⟨rfl, rfl⟩

/-- A column of the call's own that reads as l, r, ps: its rows lie apart, from block lo on, below hi. -/
structure OC (w : World) (x y z : Value) (l r : List Int) (ps : List Pv) (lo hi n1 h1 n2 h2 n3 h3 : Nat) : Prop where
  x : Ow w x l n1 h1
  y : Ow w y r n2 h2
  z : Owp w z ps n3 h3
  low : lo ≤ n1 ∧ lo ≤ n2 ∧ lo ≤ n3
  high : h1 ≤ hi ∧ h2 ≤ hi ∧ h3 ≤ hi
  apart : (h1 ≤ n2 ∨ h2 ≤ n1) ∧ (h1 ≤ n3 ∨ h3 ≤ n1) ∧ (h2 ≤ n3 ∨ h3 ≤ n2)
  top : lo ≤ hi ∧ hi ≤ w.heap.size

theorem OC.below {w w' : World} {x y z : Value} {l r : List Int} {ps : List Pv} {lo hi n1 h1 n2 h2 n3 h3 : Nat} (h : OC w x y z l r ps lo hi n1 h1 n2 h2 n3 h3) (hb : Below w.heap.size w w') : OC w' x y z l r ps lo hi n1 h1 n2 h2 n3 h3 :=
  ⟨h.x.below hb, h.y.below hb, h.z.below hb, h.low, h.high, h.apart, h.top.1, Nat.le_trans h.top.2 hb.size⟩

theorem OC.seg {w w' : World} {x y z : Value} {l r : List Int} {ps : List Pv} {lo hi n1 h1 n2 h2 n3 h3 a b : Nat} (h : OC w x y z l r ps lo hi n1 h1 n2 h2 n3 h3) (s : Seg a b w w') (d : hi ≤ a ∨ b ≤ lo) : OC w' x y z l r ps lo hi n1 h1 n2 h2 n3 h3 := by
  obtain ⟨q1, q2, q3⟩ := h.low
  obtain ⟨p1, p2, p3⟩ := h.high
  exact ⟨h.x.seg s (by omega), h.y.seg s (by omega), h.z.seg s (by omega), h.low, h.high, h.apart, h.top.1, Nat.le_trans h.top.2 s.below.size⟩

theorem OC.ck {w : World} {x y z : Value} {l r : List Int} {ps : List Pv} {lo hi n1 h1 n2 h2 n3 h3 : Nat} (h : OC w x y z l r ps lo hi n1 h1 n2 h2 n3 h3) (hl : ∀ x ∈ l, I64 x) (hr : ∀ x ∈ r, I64 x) (hp : ps.length ≤ 9223372036854775807) (hp2 : ∀ p ∈ ps, I64 p.1 ∧ I64 p.2) : Ck w w.heap.size (.agg #[x, y, z]) l r ps :=
  ⟨x, y, z, rfl, h.x.ints hl, h.y.ints hr, h.z.own.pvs (Nat.le_refl _) hp hp2, h.x.cap, h.y.cap, h.z.cap⟩

theorem Ow.form {w : World} {v : Value} {l : List Int} {lo hi : Nat} (h : Ow w v l lo hi) : ∃ a cap, v = .slice a l.length cap := by
  obtain ⟨⟨F, h, _⟩, _, _⟩ := h
  obtain ⟨a, cap, e, _⟩ := h.form
  exact ⟨a, cap, e⟩

/-- A number is returned, the column's own elements now read as l, r, ps, only their stretch has turned. -/
def RetMC (w : World) (x y z : Value) (lo hi n1 h1 n2 h2 n3 h3 : Nat) (k : Int) (l r : List Int) (ps : List Pv) (e : Ending) (w' : World) : Prop := e = .returned (.int .i64 k) ∧ OC w' x y z l r ps lo hi n1 h1 n2 h2 n3 h3 ∧ Seg lo hi w w'

set_option maxHeartbeats 2000000 in
theorem markCracker_oc (x y z : Value) (l r : List Int) (ps : List Pv) (lo hi n1 h1 n2 h2 n3 h3 : Nat) (k : Int) (w : World) (h : OC w x y z l r ps lo hi n1 h1 n2 h2 n3 h3) (k0 : 0 ≤ k) (k1 : k + l.length + r.length + 2 * ps.length ≤ 4611686018427387904) :
    Calls Try.prog 44 #[.agg #[x, y, z], .int .i64 k] w (RetMC w x y z lo hi n1 h1 n2 h2 n3 h3 (k + l.length + r.length + 2 * ps.length) (mkI k l.length) (mkI (k + l.length) r.length) (mkP (k + l.length + r.length) ps.length)) := by
  obtain ⟨a1, c1, rfl⟩ := h.x.form
  obtain ⟨a2, c2, rfl⟩ := h.y.form
  obtain ⟨a3, c3, rfl⟩ := h.z.own.form
  obtain ⟨ql1, ql2, ql3⟩ := h.low
  obtain ⟨qh1, qh2, qh3⟩ := h.high
  obtain ⟨qa1, qa2, qa3⟩ := h.apart
  obtain ⟨qt1, qt2⟩ := h.top
  have hx0 := h.x.le
  have hy0 := h.y.le
  have hz0 := h.z.le
  have X := hide (Kn.one w #[.slice a1 l.length c1, .slice a2 r.length c2, .slice a3 ps.length c3] 25)
  obtain ⟨w1, hw1⟩ : ∃ w1, w1 = w.alloc (.cells #[.slice a1 l.length c1, .slice a2 r.length c2, .slice a3 ps.length c3] 25) := ⟨_, rfl⟩
  rw [← hw1] at X
  have O := hide (h.below X.out.below)
  have S1 := hide (Seg.of_below (hi := hi) X.out.below (Nat.le_trans qt1 qt2))
  have hn1 := hide (X.out.lt 0 rfl)
  have G := hide (X.out.mem 0 rfl)
  clear h
  have d0 : w1.cell? ⟨w.heap.size, 0, none⟩ = some (.slice a1 l.length c1) := X.out.cell 0 0 rfl rfl
  go_enter Try.func44, Try.ntmps44
  go_wp2_with fail
  rw [← hw1]
  clear hw1
  go_at_call 20
  refine (markIntS_ow _ l n1 h1 k _ O.out.x k0 (by omega)).mono ?_
  rintro e w2 ⟨rfl, X1, s⟩
  have X1 := hide X1
  have Y1 := hide (O.out.y.seg s (by omega))
  have Z1 := hide (O.out.z.seg s (by omega))
  have G := hide ((s.over w.heap.size (by omega) hn1.out).trans G.out)
  have S2 := hide (S1.out.trans (s.mono ql1 qh1))
  have hn2 := hide (Nat.lt_of_lt_of_le hn1.out s.below.size)
  clear d0 X s
  have d1 : w2.cell? ⟨w.heap.size, 1, none⟩ = some (.slice a2 r.length c2) := cell_of_row w2 w.heap.size 1 _ _ (0, 0) G.out
  go_wp2_with fail
  go_at_call 20
  refine (markIntS_ow _ r n2 h2 (k + l.length) _ Y1.out (by omega) (by omega)).mono ?_
  rintro e w3 ⟨rfl, Y2, s⟩
  have Y2 := hide Y2
  have X2 := hide (X1.out.seg s (by omega))
  have Z2 := hide (Z1.out.seg s (by omega))
  have G := hide ((s.over w.heap.size (by omega) hn2.out).trans G.out)
  have S3 := hide (S2.out.trans (s.mono ql2 qh2))
  have hn3 := hide (Nat.lt_of_lt_of_le hn2.out s.below.size)
  clear d1 s
  have d2 : w3.cell? ⟨w.heap.size, 2, none⟩ = some (.slice a3 ps.length c3) := cell_of_row w3 w.heap.size 2 _ _ (0, 0) G.out
  go_wp2_with fail
  go_at_call 111
  refine (markPs_ow _ ps n3 h3 (k + l.length + r.length) _ Z2.out (by omega) (by omega)).mono ?_
  rintro e w4 ⟨rfl, Z3, s⟩
  have Z3 := hide Z3
  have X3 := hide (X2.out.seg s (by omega))
  have Y3 := hide (Y2.out.seg s (by omega))
  have S4 := hide (S3.out.trans (s.mono ql3 qh3))
  clear d2 s
  go_wp2_with fail
  go_ret
  exact ⟨rfl, ⟨X3.out, Y3.out, Z3.out, ⟨ql1, ql2, ql3⟩, ⟨qh1, qh2, qh3⟩, ⟨qa1, qa2, qa3⟩, qt1, Nat.le_trans qt2 S4.out.below.size⟩, S4.out⟩

set_option maxHeartbeats 2000000 in
theorem heldCracker_oc (x y z : Value) (l r p : Nat) (lo hi n1 h1 n2 h2 n3 h3 : Nat) (k : Int) (w : World) (h : OC w x y z (mkI k l) (mkI (k + l) r) (mkP (k + l + r) p) lo hi n1 h1 n2 h2 n3 h3) (k0 : 0 ≤ k) (k1 : k + l + r + 2 * p ≤ 4611686018427387904) :
    Calls Try.prog 46 #[.agg #[x, y, z], .int .i64 k] w (RetI1 w (k + l + r + 2 * p)) := by
  obtain ⟨a1, c1, hx⟩ := h.x.form
  obtain ⟨a2, c2, hy⟩ := h.y.form
  obtain ⟨a3, c3, hz⟩ := h.z.own.form
  rw [mkI_length] at hx hy
  rw [mkP_length] at hz
  subst hx hy hz
  have X := hide (Kn.one w #[.slice a1 l c1, .slice a2 r c2, .slice a3 p c3] 25)
  obtain ⟨w1, hw1⟩ : ∃ w1, w1 = w.alloc (.cells #[.slice a1 l c1, .slice a2 r c2, .slice a3 p c3] 25) := ⟨_, rfl⟩
  rw [← hw1] at X
  have O := hide (h.below X.out.below)
  clear h
  have d0 : w1.cell? ⟨w.heap.size, 0, none⟩ = some (.slice a1 l c1) := X.out.cell 0 0 rfl rfl
  have d1 : w1.cell? ⟨w.heap.size, 1, none⟩ = some (.slice a2 r c2) := X.out.cell 0 1 rfl rfl
  have d2 : w1.cell? ⟨w.heap.size, 2, none⟩ = some (.slice a3 p c3) := X.out.cell 0 2 rfl rfl
  have t1 : decide (k + (l : Int) < 0) = false := by simp; omega
  have t2 : decide (k + (l : Int) + (r : Int) < 0) = false := by simp; omega
  have t3 : decide (k + (l : Int) + (r : Int) + 2 * (p : Int) < 0) = false := by simp; omega
  go_enter Try.func46, Try.ntmps46
  go_wp2_with fail
  rw [← hw1]
  clear hw1
  go_at_call 50
  refine (heldIntS_ow _ l n1 h1 k _ O.out.x k0 (by omega)).mono ?_
  rintro e wa ⟨rfl, rfl⟩
  go_wp2_with fail
  go_at_call 50
  refine (heldIntS_ow _ r n2 h2 (k + l) _ O.out.y (by omega) (by omega)).mono ?_
  rintro e wa ⟨rfl, rfl⟩
  go_wp2_with fail
  go_at_call 113
  refine (heldPs_ow _ p n3 h3 (k + l + r) _ O.out.z (by omega) (by omega)).mono ?_
  rintro e wa ⟨rfl, rfl⟩
  go_wp2_with fail
  go_ret
  exact ⟨rfl, X.out.below⟩

end Go.Proofs.Ytepkkeclkdlheaa
