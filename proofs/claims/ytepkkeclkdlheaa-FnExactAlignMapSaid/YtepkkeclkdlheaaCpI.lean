/- copyColumn of the program: a column's copy (promise 3). -/
import Derived.Test.YtepkkeclkdlheaaCln
namespace Go.Proofs.Ytepkkeclkdlheaa
open Go.RowKit Go.ChangeShapes
set_option linter.unusedSimpArgs false
set_option linter.unusedVariables false
set_option maxRecDepth 100000

theorem seg3 (W : World) (b : Nat) (x y z : Value) : Seg b (b + 1) W (((W.setCell ⟨b, 0, none⟩ x).setCell ⟨b, 1, none⟩ y).setCell ⟨b, 2, none⟩ z) :=
  ((Seg.setCell W b 0 x).trans (Seg.setCell _ b 1 y)).trans (Seg.setCell _ b 2 z)

set_option maxHeartbeats 8000000 in
theorem iCopy_any (v : Value) (l r : List Int) (ps : List Pv) (w : World) (B : Nat) (hv : Ck w B v l r ps) (hB : B ≤ w.heap.size) (hl : l.length ≤ 1048576) (hr : r.length ≤ 1048576) (hp : ps.length ≤ 1048576) :
    Calls Try.prog 103 #[v] w (RetOC w l r ps) := by
  obtain ⟨a1, c1, a2, c2, a3, c3, rfl, i1, i2, i3⟩ := hv.form
  obtain ⟨z1, z2, z3⟩ := hv.nils
  have Z1 := hide z1
  have Z2 := hide z2
  have Z3 := hide z3
  have HI := hide (fun (W : World) (h : Below w.heap.size w W) => And.intro (i1.below h hB) (And.intro (i2.below h hB) (i3.below h hB)))
  have C1 := hide (fun (W : World) (h : Below w.heap.size w W) => clone_i a1 c1 l W B (HI.out _ h).1 Z1.out (Nat.le_trans hB h.size) hl)
  have C2 := hide (fun (W : World) (h : Below w.heap.size w W) => clone_i a2 c2 r W B (HI.out _ h).2.1 Z2.out (Nat.le_trans hB h.size) hr)
  have C3 := hide (fun (W : World) (h : Below w.heap.size w W) => clone_p a3 c3 ps W B (HI.out _ h).2.2 Z3.out (Nat.le_trans hB h.size) hp)
  clear hv i1 i2 i3 z1 z2 z3
  have X := hide (Kn.two w #[.slice a1 l.length c1, .slice a2 r.length c2, .slice a3 ps.length c3] #[.slice none 0 0, .slice none 0 0, .slice none 0 0] 25 25)
  obtain ⟨w1, hw1⟩ : ∃ w1, w1 = (w.alloc (.cells #[.slice a1 l.length c1, .slice a2 r.length c2, .slice a3 ps.length c3] 25)).alloc (.cells #[.slice none 0 0, .slice none 0 0, .slice none 0 0] 25) := ⟨_, rfl⟩
  have hz := hide (show w1.heap.size = w.heap.size + 1 + 1 by rw [hw1]; simp)
  rw [← hw1] at X
  go_enter Try.func103, Try.ntmps103
  go_wp2_with fail
  rw [← hw1]
  clear hw1
  obtain ⟨n, hn⟩ : ∃ n, n = w.heap.size := ⟨_, rfl⟩
  have d0 : w1.cell? ⟨w.heap.size, 0, none⟩ = some (.slice a1 l.length c1) := X.out.cell 0 0 rfl rfl
  have d1 : w1.cell? ⟨w.heap.size, 1, none⟩ = some (.slice a2 r.length c2) := X.out.cell 0 1 rfl rfl
  have d2 : w1.cell? ⟨w.heap.size, 2, none⟩ = some (.slice a3 ps.length c3) := X.out.cell 0 2 rfl rfl
  have f0 := X.out.free 1 0 rfl
  have f1 := X.out.free 1 1 rfl
  have f2 := X.out.free 1 2 rfl
  have e0 : w1.cell? ⟨w.heap.size + 1, 0, none⟩ = some (.slice none 0 0) := X.out.cell 1 0 rfl rfl
  have e1 : w1.cell? ⟨w.heap.size + 1, 1, none⟩ = some (.slice none 0 0) := X.out.cell 1 1 rfl rfl
  have e2 : w1.cell? ⟨w.heap.size + 1, 2, none⟩ = some (.slice none 0 0) := X.out.cell 1 2 rfl rfl
  have XD := hide X.out.drew
  have O1 := hide True.intro
  have O2 := hide True.intro
  have O3 := hide True.intro
  have S0 := hide (Nat.le_refl w1.heap.size)
  go_region_held3 (fun w' => w'.cell? ⟨w.heap.size, 0, none⟩ = some (.slice a1 l.length c1) ∧ w'.cell? ⟨w.heap.size, 1, none⟩ = some (.slice a2 r.length c2) ∧ w'.cell? ⟨w.heap.size, 2, none⟩ = some (.slice a3 ps.length c3) ∧ w'.frozen? ⟨w.heap.size + 1, 0, none⟩ = false ∧ w'.frozen? ⟨w.heap.size + 1, 1, none⟩ = false ∧ w'.frozen? ⟨w.heap.size + 1, 2, none⟩ = false) (first | exact ⟨d0, d1, d2, f0, f1, f2⟩ | go_keep) (first
    | (go_at_call 78; (with_reducible refine (C1.out _ XD.out.below).mono ?_); rintro e wa ⟨u1, rfl, O1, hb⟩; obtain ⟨g1, k1, rfl⟩ := O1.form; have O1 := hide (Ow.of O1 hb.size); (first | have O2 := hide (O2.out.below hb) | skip); (first | have O3 := hide (O3.out.below hb) | skip); have q1 := XD.out.below.size; have q2 := hb.size; have XD := hide (XD.out.up hb); have d0 := XD.out.cell 0 0 rfl rfl; have d1 := XD.out.cell 0 1 rfl rfl; have d2 := XD.out.cell 0 2 rfl rfl; have f0 := XD.out.free 1 0 rfl; have f1 := XD.out.free 1 1 rfl; have f2 := XD.out.free 1 2 rfl; have e0 := XD.out.cell 1 0 rfl rfl; have e1 := XD.out.cell 1 1 rfl rfl; have e2 := XD.out.cell 1 2 rfl rfl)
    | (go_at_call 78; (with_reducible refine (C2.out _ XD.out.below).mono ?_); rintro e wa ⟨u2, rfl, O2, hb⟩; obtain ⟨g2, k2, rfl⟩ := O2.form; have O2 := hide (Ow.of O2 hb.size); (first | have O1 := hide (O1.out.below hb) | skip); (first | have O3 := hide (O3.out.below hb) | skip); have q1 := XD.out.below.size; have q3 := hb.size; have XD := hide (XD.out.up hb); have d0 := XD.out.cell 0 0 rfl rfl; have d1 := XD.out.cell 0 1 rfl rfl; have d2 := XD.out.cell 0 2 rfl rfl; have f0 := XD.out.free 1 0 rfl; have f1 := XD.out.free 1 1 rfl; have f2 := XD.out.free 1 2 rfl; have e0 := XD.out.cell 1 0 rfl rfl; have e1 := XD.out.cell 1 1 rfl rfl; have e2 := XD.out.cell 1 2 rfl rfl)
    | (go_at_call 154; refine (C3.out _ XD.out.below).mono ?_; rintro e wa ⟨u3, rfl, O3, hb⟩; obtain ⟨g3, k3, rfl⟩ := O3.form; have O3 := hide (Owp.of O3 hb.size); (first | have O1 := hide (O1.out.below hb) | skip); (first | have O2 := hide (O2.out.below hb) | skip); have q1 := XD.out.below.size; have q4 := hb.size; have XD := hide (XD.out.up hb); have d0 := XD.out.cell 0 0 rfl rfl; have d1 := XD.out.cell 0 1 rfl rfl; have d2 := XD.out.cell 0 2 rfl rfl; have f0 := XD.out.free 1 0 rfl; have f1 := XD.out.free 1 1 rfl; have f2 := XD.out.free 1 2 rfl; have e0 := XD.out.cell 1 0 rfl rfl; have e1 := XD.out.cell 1 1 rfl rfl; have e2 := XD.out.cell 1 2 rfl rfl))
  go_wp2_with fail
  have Z := ((XD.out.set 1 0 rfl (.slice g1 l.length k1)).set 1 1 rfl (.slice g2 r.length k2)).set 1 2 rfl (.slice g3 ps.length k3)
  have z0 := Z.cell 1 0 rfl rfl
  have z1 := Z.cell 1 1 rfl rfl
  have z2 := Z.cell 1 2 rfl rfl
  have hz := hz.out
  have q5 : w1.drew.heap.size = w1.heap.size := rfl
  have O1 := O1.out.seg (seg3 _ (w.heap.size + 1) (.slice g1 l.length k1) (.slice g2 r.length k2) (.slice g3 ps.length k3)) (.inr (by omega))
  have O2 := O2.out.seg (seg3 _ (w.heap.size + 1) (.slice g1 l.length k1) (.slice g2 r.length k2) (.slice g3 ps.length k3)) (.inr (by omega))
  have O3 := O3.out.seg (seg3 _ (w.heap.size + 1) (.slice g1 l.length k1) (.slice g2 r.length k2) (.slice g3 ps.length k3)) (.inr (by omega))
  exact bodyPost_ret (v := .agg #[.slice g1 l.length k1, .slice g2 r.length k2, .slice g3 ps.length k3]) (by simp [results, Try.results103, go_sem, z0, z1, z2]) rfl
    ⟨_, _, _, w1.drew.heap.size, _, _, _, _, _, _, _, rfl, by omega, (seg3 _ _ _ _ _).below.size, ⟨O1, O2, O3, ⟨Nat.le_refl _, by omega, by omega⟩, ⟨by omega, by omega, Nat.le_refl _⟩, ⟨.inl (Nat.le_refl _), .inl (by omega), .inl (Nat.le_refl _)⟩, by omega, (seg3 _ _ _ _ _).below.size⟩, Z.below⟩

end Go.Proofs.Ytepkkeclkdlheaa
