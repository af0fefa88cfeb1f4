/- Several texts in one: DrM, DrH, DrN. -/
import Derived.Test.YtfldnjkojdnjcaaCe
/- l7Settings, l7Any of the reference: drawn settings (promise 4). Written by gen_drm.py. -/
namespace Go.Proofs.Ytfldnjkojdnjcaa
open Go.RowKit Go.ChangeShapes
set_option linter.unusedSimpArgs false
set_option linter.unusedVariables false
set_option maxRecDepth 100000

/-- Drawn settings. -/
def RetDSt (B : Nat) (a : Option Addr) (len cap g : Nat) (w : World) (e : Ending) (w' : World) : Prop := ∃ p t s : Int, (I64 p ∧ I64 t ∧ I64 s) ∧ e = .returned (.agg #[.int .i64 p, .int .i64 t, .int .i64 s]) ∧ Rd B a len cap w' g ∧ Only [g] w w'

set_option maxHeartbeats 4000000 in
theorem st7_d (B : Nat) (a : Option Addr) (len cap g : Nat) (w : World) (h : Rd B a len cap w g) : Calls Try.prog 71 #[.pointer (some ⟨g, 0, none⟩)] w (RetDSt B a len cap g w) := by
  have hlt := h.lt
  have R := hide (h.alloc (.cells #[.int .i64 0, .int .i64 0, .int .i64 0] 32))
  have X := hide (Kd.one [g] w #[.int .i64 0, .int .i64 0, .int .i64 0] 32)
  obtain ⟨w1, hw1⟩ : ∃ w1, w1 = w.alloc (.cells #[.int .i64 0, .int .i64 0, .int .i64 0] 32) := ⟨_, rfl⟩
  rw [← hw1] at R X
  have HGm := hide (show ∀ b ∈ [g], b < w.heap.size from by intro b hb; rw [List.mem_singleton.1 hb]; exact hlt)
  have HLT := hide hlt
  clear h hlt
  have PA := hide (fun (W : World) (hr : Rd B a len cap W g) => show Calls Try.prog 50 #[.pointer (some ⟨g, 0, none⟩), .slice (some ⟨W.heap.size, 0, none⟩) 5 5] (W.alloc (.cells #[.int .i64 1, .int .i64 2, .int .i64 3, .int .i64 5, .int .i64 64] 3)) (RetD B a len cap g (W.alloc (.cells #[.int .i64 1, .int .i64 2, .int .i64 3, .int .i64 5, .int .i64 64] 3)) (· ∈ [(1 : Int), 2, 3, 5, 64])) from pickI_d B a len cap g _ (hr.alloc (.cells ([(1 : Int), 2, 3, 5, 64].map (Value.int .i64)).toArray 3)) [(1 : Int), 2, 3, 5, 64] W.heap.size 5 5 rfl (by omega) (by omega) (by have := hr.lt; omega) (by simp) (litsI W [(1 : Int), 2, 3, 5, 64] 3))
  go_enter Try.func71, Try.ntmps71
  go_wp2_with fail
  rw [← hw1]
  clear hw1
  go_at_call 44
  refine (below_d B a len cap g _ R.out 3 (by omega) (by omega)).mono ?_
  rintro e w2 ⟨p, hp, rfl, hr, ho⟩
  have R := hide hr
  have X := hide (X.out.drawn ho HGm.out)
  have hp := hide hp
  clear hr ho
  go_wp2_with fail
  go_at_call 50
  have X := hide (X.out.up (below1 w2 (.cells #[.int .i64 1, .int .i64 2, .int .i64 3, .int .i64 5, .int .i64 64] 3)))
  refine (PA.out _ R.out).mono ?_
  rintro e w3 ⟨t, ht, rfl, hr, ho⟩
  have R := hide hr
  have X := hide (X.out.drawn ho HGm.out)
  have ht := hide ht
  clear hr ho PA
  go_wp2_with fail
  go_at_call 44
  refine (below_d B a len cap g _ R.out 10007 (by omega) (by omega)).mono ?_
  rintro e w4 ⟨s, hs, rfl, hr, ho⟩
  have R := hide hr
  have X := hide (X.out.drawn ho HGm.out)
  have hs := hide hs
  clear hr ho
  have r0 := X.out.cell 0 0 rfl rfl
  have r1 := X.out.cell 0 1 rfl rfl
  have r2 := X.out.cell 0 2 rfl rfl
  have f0 := X.out.free 0 0 rfl
  have f1 := X.out.free 0 1 rfl
  have f2 := X.out.free 0 2 rfl
  go_wp2_with fail
  have Z := ((X.out.set 0 0 rfl (.int .i64 p)).set 0 1 rfl (.int .i64 t)).set 0 2 rfl (.int .i64 s)
  have z0 := Z.cell 0 0 rfl rfl
  have z1 := Z.cell 0 1 rfl rfl
  have z2 := Z.cell 0 2 rfl rfl
  have hne : w.heap.size ≠ g := by have := HLT.out; omega
  have R9 := ((R.out.poke (m := w.heap.size) (j := 0) (x := .int .i64 p) (by have := HLT.out; omega)).poke (m := w.heap.size) (j := 1) (x := .int .i64 t) (by have := HLT.out; omega)).poke (m := w.heap.size) (j := 2) (x := .int .i64 s) (by have := HLT.out; omega)
  have ht4 := ht.out
  have htb : I64 t := by simp at ht4; exact ⟨by omega, by omega⟩
  have hp4 := hp.out
  have hs4 := hs.out
  exact bodyPost_ret (v := .agg #[.int .i64 p, .int .i64 t, .int .i64 s]) (by simp [results, Try.results71, go_sem, z0, z1, z2]) rfl ⟨p, t, s, ⟨⟨by omega, by omega⟩, htb, ⟨by omega, by omega⟩⟩, rfl, R9, Z.only⟩

set_option maxHeartbeats 8000000 in
theorem any7_d (B : Nat) (a : Option Addr) (len cap g : Nat) (w : World) (h : Rd B a len cap w g) : Calls Try.prog 43 #[.pointer (some ⟨g, 0, none⟩)] w (RetDSt B a len cap g w) := by
  have hlt := h.lt
  have R := hide (h.alloc (.cells #[.int .i64 0, .int .i64 0, .int .i64 0] 32))
  have X := hide (Kd.one [g] w #[.int .i64 0, .int .i64 0, .int .i64 0] 32)
  obtain ⟨w1, hw1⟩ : ∃ w1, w1 = w.alloc (.cells #[.int .i64 0, .int .i64 0, .int .i64 0] 32) := ⟨_, rfl⟩
  rw [← hw1] at R X
  have HGm := hide (show ∀ b ∈ [g], b < w.heap.size from by intro b hb; rw [List.mem_singleton.1 hb]; exact hlt)
  have HLT := hide hlt
  clear h hlt
  have PP := hide (fun (W : World) (hr : Rd B a len cap W g) => show Calls Try.prog 50 #[.pointer (some ⟨g, 0, none⟩), .slice (some ⟨W.heap.size, 0, none⟩) 2 2] (W.alloc (.cells #[.int .i64 (-1), .int .i64 3] 3)) (RetD B a len cap g (W.alloc (.cells #[.int .i64 (-1), .int .i64 3] 3)) (· ∈ [(-1 : Int), 3])) from pickI_d B a len cap g _ (hr.alloc (.cells ([(-1 : Int), 3].map (Value.int .i64)).toArray 3)) [(-1 : Int), 3] W.heap.size 2 2 rfl (by omega) (by omega) (by have := hr.lt; omega) (by simp) (litsI W [(-1 : Int), 3] 3))
  have PT := hide (fun (W : World) (hr : Rd B a len cap W g) => show Calls Try.prog 50 #[.pointer (some ⟨g, 0, none⟩), .slice (some ⟨W.heap.size, 0, none⟩) 4 4] (W.alloc (.cells #[.int .i64 0, .int .i64 1, .int .i64 64, .int .i64 65] 3)) (RetD B a len cap g (W.alloc (.cells #[.int .i64 0, .int .i64 1, .int .i64 64, .int .i64 65] 3)) (· ∈ [(0 : Int), 1, 64, 65])) from pickI_d B a len cap g _ (hr.alloc (.cells ([(0 : Int), 1, 64, 65].map (Value.int .i64)).toArray 3)) [(0 : Int), 1, 64, 65] W.heap.size 4 4 rfl (by omega) (by omega) (by have := hr.lt; omega) (by simp) (litsI W [(0 : Int), 1, 64, 65] 3))
  have PS := hide (fun (W : World) (hr : Rd B a len cap W g) => show Calls Try.prog 50 #[.pointer (some ⟨g, 0, none⟩), .slice (some ⟨W.heap.size, 0, none⟩) 4 4] (W.alloc (.cells #[.int .i64 (-1), .int .i64 0, .int .i64 10006, .int .i64 10007] 3)) (RetD B a len cap g (W.alloc (.cells #[.int .i64 (-1), .int .i64 0, .int .i64 10006, .int .i64 10007] 3)) (· ∈ [(-1 : Int), 0, 10006, 10007])) from pickI_d B a len cap g _ (hr.alloc (.cells ([(-1 : Int), 0, 10006, 10007].map (Value.int .i64)).toArray 3)) [(-1 : Int), 0, 10006, 10007] W.heap.size 4 4 rfl (by omega) (by omega) (by have := hr.lt; omega) (by simp) (litsI W [(-1 : Int), 0, 10006, 10007] 3))
  go_enter Try.func43, Try.ntmps43
  go_wp2_with fail
  rw [← hw1]
  clear hw1
  go_at_call 71
  refine (st7_d B a len cap g _ R.out).mono ?_
  rintro e w2 ⟨p, t, s, hst, rfl, hr, ho⟩
  have R := hide hr
  have X := hide (X.out.drawn ho HGm.out)
  have hst := hide hst
  clear hr ho
  have X := hide (X.out.alloc #[.int .i64 p, .int .i64 t, .int .i64 s] 32)
  have HGM := hide (show g < w2.heap.size from R.out.lt)
  have R := hide (R.out.alloc (.cells #[.int .i64 p, .int .i64 t, .int .i64 s] 32))
  obtain ⟨w3, hw3⟩ : ∃ q, q = w2.alloc (.cells #[.int .i64 p, .int .i64 t, .int .i64 s] 32) := ⟨_, rfl⟩
  obtain ⟨m, hm⟩ : ∃ q, q = w2.heap.size := ⟨_, rfl⟩
  rw [← hw3, ← hm] at X
  rw [← hw3] at R
  rw [← hm] at HGM
  simp only [List.cons_append, List.nil_append] at X
  have hwm := hide (show w.heap.size < m from by have := X.out.nodup; have h2 := X.out.low 1 rfl; simp at this; omega)
  go_wp2_with fail
  rw [← hw3]
  try rw [← hm]
  clear hw3 hm
  go_at_call 44
  refine (below_d B a len cap g _ R.out 10 (by omega) (by omega)).mono ?_
  rintro e w4 ⟨n, hn, rfl, hr, ho⟩
  have R := hide hr
  have X := hide (X.out.drawn ho HGm.out)
  clear hr ho
  have hne : w.heap.size ≠ m := by have := hwm.out; omega
  have hne2 : m ≠ w.heap.size := by have := hwm.out; omega
  have r0 := X.out.cell 0 0 rfl rfl
  have f0 := X.out.free 0 0 rfl
  have c0 := X.out.cell 1 0 rfl rfl
  have d0 := X.out.free 1 0 rfl
  have r1 := X.out.cell 0 1 rfl rfl
  have f1 := X.out.free 0 1 rfl
  have c1 := X.out.cell 1 1 rfl rfl
  have d1 := X.out.free 1 1 rfl
  have r2 := X.out.cell 0 2 rfl rfl
  have f2 := X.out.free 0 2 rfl
  have c2 := X.out.cell 1 2 rfl rfl
  have d2 := X.out.free 1 2 rfl
  by_cases n0 : n = 0
  · subst n0
    clear PT PS
    go_wp2_with fail
    go_at_call 50
    have X := hide (X.out.up (below1 w4 (.cells #[.int .i64 (-1), .int .i64 3] 3)))
    refine (PP.out _ R.out).mono ?_
    rintro e w5 ⟨y, hy, rfl, hr, ho⟩
    have R := hide hr
    have X := hide (X.out.drawn ho HGm.out)
    have hy4 := hy
    have hyb : I64 y := by simp at hy4; exact ⟨by omega, by omega⟩
    have hyb := hide hyb
    clear hr ho hy hy4
    have r0 := X.out.cell 0 0 rfl rfl
    have f0 := X.out.free 0 0 rfl
    have c0 := X.out.cell 1 0 rfl rfl
    have d0 := X.out.free 1 0 rfl
    have r1 := X.out.cell 0 1 rfl rfl
    have f1 := X.out.free 0 1 rfl
    have c1 := X.out.cell 1 1 rfl rfl
    have d1 := X.out.free 1 1 rfl
    have r2 := X.out.cell 0 2 rfl rfl
    have f2 := X.out.free 0 2 rfl
    have c2 := X.out.cell 1 2 rfl rfl
    have d2 := X.out.free 1 2 rfl
    go_wp2_with fail
    have Z := (((X.out.set 1 0 rfl (.int .i64 y)).set 0 0 rfl (.int .i64 y)).set 0 1 rfl (.int .i64 t)).set 0 2 rfl (.int .i64 s)
    have R8 := R.out.poke (m := m) (j := 0) (x := .int .i64 y) (by have := HGM.out; omega)
    have z0 := Z.cell 0 0 rfl rfl
    have z1 := Z.cell 0 1 rfl rfl
    have z2 := Z.cell 0 2 rfl rfl
    have R9 := ((R8.poke (m := w.heap.size) (j := 0) (x := .int .i64 y) (by have := HLT.out; omega)).poke (m := w.heap.size) (j := 1) (x := .int .i64 t) (by have := HLT.out; omega)).poke (m := w.heap.size) (j := 2) (x := .int .i64 s) (by have := HLT.out; omega)
    exact bodyPost_ret (v := .agg #[.int .i64 y, .int .i64 t, .int .i64 s]) (by simp [results, Try.results43, go_sem, z0, z1, z2]) rfl ⟨_, _, _, ⟨hyb.out, hst.out.2.1, hst.out.2.2⟩, rfl, R9, Z.only⟩
  have t0 : (n == 0) = false := by simp [n0]
  by_cases n1 : n = 1
  · subst n1
    clear PP PS
    go_wp2_with fail
    go_at_call 50
    have X := hide (X.out.up (below1 w4 (.cells #[.int .i64 0, .int .i64 1, .int .i64 64, .int .i64 65] 3)))
    refine (PT.out _ R.out).mono ?_
    rintro e w5 ⟨y, hy, rfl, hr, ho⟩
    have R := hide hr
    have X := hide (X.out.drawn ho HGm.out)
    have hy4 := hy
    have hyb : I64 y := by simp at hy4; exact ⟨by omega, by omega⟩
    have hyb := hide hyb
    clear hr ho hy hy4
    have r0 := X.out.cell 0 0 rfl rfl
    have f0 := X.out.free 0 0 rfl
    have c0 := X.out.cell 1 0 rfl rfl
    have d0 := X.out.free 1 0 rfl
    have r1 := X.out.cell 0 1 rfl rfl
    have f1 := X.out.free 0 1 rfl
    have c1 := X.out.cell 1 1 rfl rfl
    have d1 := X.out.free 1 1 rfl
    have r2 := X.out.cell 0 2 rfl rfl
    have f2 := X.out.free 0 2 rfl
    have c2 := X.out.cell 1 2 rfl rfl
    have d2 := X.out.free 1 2 rfl
    go_wp2_with fail
    have Z := (((X.out.set 1 1 rfl (.int .i64 y)).set 0 0 rfl (.int .i64 p)).set 0 1 rfl (.int .i64 y)).set 0 2 rfl (.int .i64 s)
    have R8 := R.out.poke (m := m) (j := 1) (x := .int .i64 y) (by have := HGM.out; omega)
    have z0 := Z.cell 0 0 rfl rfl
    have z1 := Z.cell 0 1 rfl rfl
    have z2 := Z.cell 0 2 rfl rfl
    have R9 := ((R8.poke (m := w.heap.size) (j := 0) (x := .int .i64 p) (by have := HLT.out; omega)).poke (m := w.heap.size) (j := 1) (x := .int .i64 y) (by have := HLT.out; omega)).poke (m := w.heap.size) (j := 2) (x := .int .i64 s) (by have := HLT.out; omega)
    exact bodyPost_ret (v := .agg #[.int .i64 p, .int .i64 y, .int .i64 s]) (by simp [results, Try.results43, go_sem, z0, z1, z2]) rfl ⟨_, _, _, ⟨hst.out.1, hyb.out, hst.out.2.2⟩, rfl, R9, Z.only⟩
  have t1 : (n == 1) = false := by simp [n1]
  by_cases n2 : n = 2
  · subst n2
    clear PP PT
    go_wp2_with fail
    go_at_call 50
    have X := hide (X.out.up (below1 w4 (.cells #[.int .i64 (-1), .int .i64 0, .int .i64 10006, .int .i64 10007] 3)))
    refine (PS.out _ R.out).mono ?_
    rintro e w5 ⟨y, hy, rfl, hr, ho⟩
    have R := hide hr
    have X := hide (X.out.drawn ho HGm.out)
    have hy4 := hy
    have hyb : I64 y := by simp at hy4; exact ⟨by omega, by omega⟩
    have hyb := hide hyb
    clear hr ho hy hy4
    have r0 := X.out.cell 0 0 rfl rfl
    have f0 := X.out.free 0 0 rfl
    have c0 := X.out.cell 1 0 rfl rfl
    have d0 := X.out.free 1 0 rfl
    have r1 := X.out.cell 0 1 rfl rfl
    have f1 := X.out.free 0 1 rfl
    have c1 := X.out.cell 1 1 rfl rfl
    have d1 := X.out.free 1 1 rfl
    have r2 := X.out.cell 0 2 rfl rfl
    have f2 := X.out.free 0 2 rfl
    have c2 := X.out.cell 1 2 rfl rfl
    have d2 := X.out.free 1 2 rfl
    go_wp2_with fail
    have Z := (((X.out.set 1 2 rfl (.int .i64 y)).set 0 0 rfl (.int .i64 p)).set 0 1 rfl (.int .i64 t)).set 0 2 rfl (.int .i64 y)
    have R8 := R.out.poke (m := m) (j := 2) (x := .int .i64 y) (by have := HGM.out; omega)
    have z0 := Z.cell 0 0 rfl rfl
    have z1 := Z.cell 0 1 rfl rfl
    have z2 := Z.cell 0 2 rfl rfl
    have R9 := ((R8.poke (m := w.heap.size) (j := 0) (x := .int .i64 p) (by have := HLT.out; omega)).poke (m := w.heap.size) (j := 1) (x := .int .i64 t) (by have := HLT.out; omega)).poke (m := w.heap.size) (j := 2) (x := .int .i64 y) (by have := HLT.out; omega)
    exact bodyPost_ret (v := .agg #[.int .i64 p, .int .i64 t, .int .i64 y]) (by simp [results, Try.results43, go_sem, z0, z1, z2]) rfl ⟨_, _, _, ⟨hst.out.1, hst.out.2.1, hyb.out⟩, rfl, R9, Z.only⟩
  have t2 : (n == 2) = false := by simp [n2]
  clear n0 n1 n2
  go_wp2_with fail
  have Z := ((X.out.set 0 0 rfl (.int .i64 p)).set 0 1 rfl (.int .i64 t)).set 0 2 rfl (.int .i64 s)
  have z0 := Z.cell 0 0 rfl rfl
  have z1 := Z.cell 0 1 rfl rfl
  have z2 := Z.cell 0 2 rfl rfl
  have R9 := ((R.out.poke (m := w.heap.size) (j := 0) (x := .int .i64 p) (by have := HLT.out; omega)).poke (m := w.heap.size) (j := 1) (x := .int .i64 t) (by have := HLT.out; omega)).poke (m := w.heap.size) (j := 2) (x := .int .i64 s) (by have := HLT.out; omega)
  exact bodyPost_ret (v := .agg #[.int .i64 p, .int .i64 t, .int .i64 s]) (by simp [results, Try.results43, go_sem, z0, z1, z2]) rfl ⟨_, _, _, ⟨hst.out.1, hst.out.2.1, hst.out.2.2⟩, rfl, R9, Z.only⟩

end Go.Proofs.Ytfldnjkojdnjcaa

/- l6Range, DrawSelectRange: a drawn column, some of them spoilt, and a range (promise 4). Written by gen_drh.py. -/
namespace Go.Proofs.Ytfldnjkojdnjcaa
open Go.RowKit Go.ChangeShapes
set_option linter.unusedSimpArgs false
set_option linter.unusedVariables false
set_option maxRecDepth 100000

theorem Kd.belowZ {w W : World} {L : List (Nat × Array Value × TypeId)} (h : Kd [] w W L) : Below w.heap.size w W := h.only.toBelow (by simp) (Nat.le_refl _)

/-- A draw whose reader is the call's own. -/
theorem Kd.drawZ {w W W' : World} {L : List (Nat × Array Value × TypeId)} {g : Nat} (h : Kd [] w W L) (ho : Only [g] W W') (hg : w.heap.size ≤ g) (hL : ∀ e ∈ L, e.1 ≠ g) : Kd [] w W' L :=
  h.others ho (fun b hb => .inr (by simp at hb; omega)) (fun e he => by simp; exact hL e he)

theorem CPA.wfZ {l r : List Int} {ps : List Pv} (h : CPA l r ps) : Wf l r ps 100 := ⟨by have := h.nl; omega, by have := h.nr; omega, by have := h.np; omega, h.i64, h.vr, h.vp⟩

/-- A drawn column, to be read, and a range. -/
def DrSe (w : World) (e : Ending) (w' : World) : Prop := ∃ (a1 a2 a3 : Option Addr) (c1 c2 c3 : Nat) (l r : List Int) (ps : List Pv) (f t : Int),
  e = .returned (.tuple #[.agg #[.slice a1 l.length c1, .slice a2 r.length c2, .slice a3 ps.length c3], .agg #[.int .i64 f, .int .i64 t]]) ∧ CU w' (.agg #[.slice a1 l.length c1, .slice a2 r.length c2, .slice a3 ps.length c3]) l r ps ∧ Wf l r ps 100 ∧ I64 f ∧ I64 t ∧ Below w.heap.size w w'

end Go.Proofs.Ytfldnjkojdnjcaa

/- DrawMedianOf, DrawLevels, DrawNextSeed, DrawChoosePivot of the reference (promise 5). Written by gen_drn.py. -/
namespace Go.Proofs.Ytfldnjkojdnjcaa
open Go.RowKit Go.ChangeShapes
set_option linter.unusedSimpArgs false
set_option linter.unusedVariables false
set_option maxRecDepth 100000

/-- Drawn numbers. -/
def DrMd (w : World) (e : Ending) (w' : World) : Prop := ∃ v l, e = .returned v ∧ IU w' v l ∧ (∃ a c, v = .slice a l.length c ∧ (a = none → c = 0)) ∧ l.length ≤ 10 ∧ Below w.heap.size w w'
/-- Two drawn numbers. -/
def Dr2 (w : World) (e : Ending) (w' : World) : Prop := ∃ x y : Int, e = .returned (.tuple #[.int .i64 x, .int .i64 y]) ∧ I64 x ∧ I64 y ∧ Below w.heap.size w w'
/-- A drawn number. -/
def Dr1 (w : World) (e : Ending) (w' : World) : Prop := ∃ x : Int, e = .returned (.int .i64 x) ∧ I64 x ∧ Below w.heap.size w w'
/-- A drawn column, to be read, settings and two places. -/
def DrCh (w : World) (e : Ending) (w' : World) : Prop := ∃ (a1 a2 a3 : Option Addr) (c1 c2 c3 : Nat) (l r : List Int) (ps : List Pv) (p t s x y : Int),
  e = .returned (.tuple #[.agg #[.slice a1 l.length c1, .slice a2 r.length c2, .slice a3 ps.length c3], .agg #[.int .i64 p, .int .i64 t, .int .i64 s], .int .i64 x, .int .i64 y]) ∧ CU w' (.agg #[.slice a1 l.length c1, .slice a2 r.length c2, .slice a3 ps.length c3]) l r ps ∧ Wf l r ps 100 ∧ I64 x ∧ I64 y ∧ Below w.heap.size w w'

theorem Only.belowG {w wa w' : World} {g : Nat} (hb : Below w.heap.size w wa) (ho : Only [g] wa w') (hg : w.heap.size ≤ g) : Below w.heap.size w w' :=
  hb.trans (ho.toBelow (by simp; exact hg) hb.size)

set_option maxHeartbeats 2000000 in
theorem drMd_any (a : Option Addr) (len cap : Nat) (w : World) (hcode : CodeAt w a len cap) (hlen : len ≤ 1048576) : Calls Try.prog 9 #[.slice a len cap] w (DrMd w) := by
  have H := hide hcode
  clear hcode
  go_enter Try.func9, Try.ntmps9
  go_wp2_with fail
  refine (new_any a len cap _ H.out hlen).mono ?_
  rintro e wa ⟨g, rfl, hr, hb⟩
  have HG := hide (show w.heap.size ≤ g from hr.high)
  have R := hide hr
  have hb := hide hb
  clear hr
  go_wp2_with fail
  go_at_call 40
  refine (vals_d _ a len cap g _ R.out 10 (by omega)).mono ?_
  rintro e wb ⟨gl, capl, l, rfl, hi, hn, hv, -, ho⟩
  have HB := hide (Only.belowG hb.out ho HG.out)
  have HI := hide (show IU wb (.slice (some ⟨gl, 0, none⟩) l.length capl) l from hi.ints (Nat.le_refl _) (by omega) (fun x hx => ⟨by have := hv x hx; omega, by have := hv x hx; omega⟩))
  clear hi hv ho hb
  go_wp2_with fail
  exact bodyPost_ret (v := .slice (some ⟨gl, 0, none⟩) l.length capl) (by simp [results, Try.results9, go_sem]) rfl ⟨_, l, rfl, HI.out, ⟨_, _, rfl, by intro h; cases h⟩, by omega, HB.out⟩

set_option maxHeartbeats 4000000 in
theorem drLev_any (a : Option Addr) (len cap : Nat) (w : World) (hcode : CodeAt w a len cap) (hlen : len ≤ 1048576) : Calls Try.prog 16 #[.slice a len cap] w (Dr2 w) := by
  have H := hide hcode
  clear hcode
  go_enter Try.func16, Try.ntmps16
  go_wp2_with fail
  refine (new_any a len cap _ H.out hlen).mono ?_
  rintro e wa ⟨g, rfl, hr, hb⟩
  have HG := hide (show w.heap.size ≤ g from hr.high)
  have HB := hide hb
  have R := hide hr
  clear hr hb
  have PN := hide (fun (W : World) (hr : Rd w.heap.size a len cap W g) => show Calls Try.prog 50 #[.pointer (some ⟨g, 0, none⟩), .slice (some ⟨W.heap.size, 0, none⟩) 7 7] (W.alloc (.cells #[.int .i64 (-1), .int .i64 0, .int .i64 1, .int .i64 7, .int .i64 64, .int .i64 1000, .int .i64 9223372036854775807] 3)) (RetD w.heap.size a len cap g (W.alloc (.cells #[.int .i64 (-1), .int .i64 0, .int .i64 1, .int .i64 7, .int .i64 64, .int .i64 1000, .int .i64 9223372036854775807] 3)) (· ∈ [(-1 : Int), 0, 1, 7, 64, 1000, 9223372036854775807])) from pickI_d w.heap.size a len cap g _ (hr.alloc (.cells ([(-1 : Int), 0, 1, 7, 64, 1000, 9223372036854775807].map (Value.int .i64)).toArray 3)) [(-1 : Int), 0, 1, 7, 64, 1000, 9223372036854775807] W.heap.size 7 7 rfl (by omega) (by omega) (by have := hr.lt; omega) (by simp) (litsI W [(-1 : Int), 0, 1, 7, 64, 1000, 9223372036854775807] 3))
  have PT := hide (fun (W : World) (hr : Rd w.heap.size a len cap W g) => show Calls Try.prog 50 #[.pointer (some ⟨g, 0, none⟩), .slice (some ⟨W.heap.size, 0, none⟩) 5 5] (W.alloc (.cells #[.int .i64 (-1), .int .i64 0, .int .i64 1, .int .i64 3, .int .i64 64] 3)) (RetD w.heap.size a len cap g (W.alloc (.cells #[.int .i64 (-1), .int .i64 0, .int .i64 1, .int .i64 3, .int .i64 64] 3)) (· ∈ [(-1 : Int), 0, 1, 3, 64])) from pickI_d w.heap.size a len cap g _ (hr.alloc (.cells ([(-1 : Int), 0, 1, 3, 64].map (Value.int .i64)).toArray 3)) [(-1 : Int), 0, 1, 3, 64] W.heap.size 5 5 rfl (by omega) (by omega) (by have := hr.lt; omega) (by simp) (litsI W [(-1 : Int), 0, 1, 3, 64] 3))
  go_wp2_with fail
  go_at_call 50
  refine (PN.out _ R.out).mono ?_
  rintro e wb ⟨x, hx, rfl, hr, ho⟩
  have HB := hide (Only.belowG (HB.out.trans ((below1 wa (.cells #[.int .i64 (-1), .int .i64 0, .int .i64 1, .int .i64 7, .int .i64 64, .int .i64 1000, .int .i64 9223372036854775807] 3)).mono HB.out.size)) ho HG.out)
  have R := hide hr
  have hx4 := hx
  have hxb : I64 x := by simp at hx4; exact ⟨by omega, by omega⟩
  have hxb := hide hxb
  clear hr ho hx hx4 PN
  go_wp2_with fail
  go_at_call 50
  refine (PT.out _ R.out).mono ?_
  rintro e wc ⟨y, hy, rfl, hr, ho⟩
  have HB := hide (Only.belowG (HB.out.trans ((below1 wb (.cells #[.int .i64 (-1), .int .i64 0, .int .i64 1, .int .i64 3, .int .i64 64] 3)).mono HB.out.size)) ho HG.out)
  have hy4 := hy
  have hyb : I64 y := by simp at hy4; exact ⟨by omega, by omega⟩
  have hyb := hide hyb
  clear hr ho hy hy4 PT
  go_wp2_with fail
  exact bodyPost_ret (v := .tuple #[.int .i64 x, .int .i64 y]) (by simp [results, Try.results16, go_sem]) rfl ⟨x, y, rfl, hxb.out, hyb.out, HB.out⟩

set_option maxHeartbeats 4000000 in
theorem drSd_any (a : Option Addr) (len cap : Nat) (w : World) (hcode : CodeAt w a len cap) (hlen : len ≤ 1048576) : Calls Try.prog 17 #[.slice a len cap] w (Dr1 w) := by
  have H := hide hcode
  clear hcode
  go_enter Try.func17, Try.ntmps17
  go_wp2_with fail
  refine (new_any a len cap _ H.out hlen).mono ?_
  rintro e wa ⟨g, rfl, hr, hb⟩
  have HG := hide (show w.heap.size ≤ g from hr.high)
  have HB := hide hb
  have R := hide hr
  clear hr hb
  have PS := hide (fun (W : World) (hr : Rd w.heap.size a len cap W g) => show Calls Try.prog 50 #[.pointer (some ⟨g, 0, none⟩), .slice (some ⟨W.heap.size, 0, none⟩) 7 7] (W.alloc (.cells #[.int .i64 0, .int .i64 1, .int .i64 10006, .int .i64 10007, .int .i64 (-1), .int .i64 9223372036854775807, .int .i64 55] 3)) (RetD w.heap.size a len cap g (W.alloc (.cells #[.int .i64 0, .int .i64 1, .int .i64 10006, .int .i64 10007, .int .i64 (-1), .int .i64 9223372036854775807, .int .i64 55] 3)) (· ∈ [(0 : Int), 1, 10006, 10007, -1, 9223372036854775807, 55])) from pickI_d w.heap.size a len cap g _ (hr.alloc (.cells ([(0 : Int), 1, 10006, 10007, -1, 9223372036854775807, 55].map (Value.int .i64)).toArray 3)) [(0 : Int), 1, 10006, 10007, -1, 9223372036854775807, 55] W.heap.size 7 7 rfl (by omega) (by omega) (by have := hr.lt; omega) (by simp) (litsI W [(0 : Int), 1, 10006, 10007, -1, 9223372036854775807, 55] 3))
  go_wp2_with fail
  go_at_call 50
  refine (PS.out _ R.out).mono ?_
  rintro e wb ⟨x, hx, rfl, hr, ho⟩
  have HB := hide (Only.belowG (HB.out.trans ((below1 wa (.cells #[.int .i64 0, .int .i64 1, .int .i64 10006, .int .i64 10007, .int .i64 (-1), .int .i64 9223372036854775807, .int .i64 55] 3)).mono HB.out.size)) ho HG.out)
  have hx4 := hx
  have hxb : I64 x := by simp at hx4; exact ⟨by omega, by omega⟩
  have hxb := hide hxb
  clear hr ho hx hx4 PS
  go_wp2_with fail
  exact bodyPost_ret (v := .int .i64 x) (by simp [results, Try.results17, go_sem]) rfl ⟨x, rfl, hxb.out, HB.out⟩

set_option maxHeartbeats 8000000 in
theorem drCh_any (a : Option Addr) (len cap : Nat) (w : World) (hcode : CodeAt w a len cap) (hlen : len ≤ 1048576) : Calls Try.prog 13 #[.slice a len cap] w (DrCh w) := by
  have X := hide ((Kd.one [] w #[.slice none 0 0, .slice none 0 0, .slice none 0 0] 30).alloc #[.int .i64 0, .int .i64 0, .int .i64 0] 32)
  obtain ⟨w1, hw1⟩ : ∃ w1, w1 = (w.alloc (.cells #[.slice none 0 0, .slice none 0 0, .slice none 0 0] 30)).alloc (.cells #[.int .i64 0, .int .i64 0, .int .i64 0] 32) := ⟨_, rfl⟩
  rw [← hw1] at X
  simp only [List.cons_append, List.nil_append, World.size_alloc] at X
  have H := hide (hcode.below X.out.belowZ (Nat.le_refl _))
  have hz := hide (X.out.lt 1 rfl)
  clear hcode
  go_enter Try.func13, Try.ntmps13
  go_wp2_with fail
  rw [← hw1]
  clear hw1
  refine (new_any a len cap _ H.out hlen).mono ?_
  rintro e wa ⟨g, rfl, hr, hb⟩
  have R := hide hr
  have X := hide (X.out.up hb)
  have HG := hide (show w.heap.size + 1 < g from Nat.lt_of_lt_of_le hz.out hr.high)
  clear hr hb H
  go_wp2_with fail
  go_at_call 42
  refine (anyC_d _ a len cap g _ R.out).mono ?_
  rintro e wb ⟨a1, a2, a3, c1, c2, c3, l, r, ps, lo, rfl, hc, hlo, hA, hr, ho⟩
  have HLO := hide (Nat.lt_of_lt_of_le R.out.lt hlo)
  have HGM := hide (show g < wb.heap.size from hr.lt)
  have R := hide hr
  have X := hide (X.out.drawZ ho (by have := HG.out; omega) (by
    intro e he
    have := HG.out
    simp only [List.mem_cons, List.not_mem_nil, or_false] at he
    rcases he with rfl | rfl
    · simp only; omega
    · simp only; omega))
  have O := hide hc
  have HA := hide hA
  clear hr ho hc hlo hA
  have bl := below1 wb (.cells #[.slice a1 l.length c1, .slice a2 r.length c2, .slice a3 ps.length c3] 30)
  have X := hide (X.out.alloc #[.slice a1 l.length c1, .slice a2 r.length c2, .slice a3 ps.length c3] 30)
  have R := hide (R.out.alloc (.cells #[.slice a1 l.length c1, .slice a2 r.length c2, .slice a3 ps.length c3] 30))
  have O := hide (O.out.below bl)
  clear bl
  obtain ⟨wc, hwc⟩ : ∃ q, q = wb.alloc (.cells #[.slice a1 l.length c1, .slice a2 r.length c2, .slice a3 ps.length c3] 30) := ⟨_, rfl⟩
  obtain ⟨m, hm⟩ : ∃ q, q = wb.heap.size := ⟨_, rfl⟩
  rw [← hwc] at X R O
  rw [← hm] at X HGM
  simp only [List.cons_append, List.nil_append] at X
  go_wp2_with fail
  rw [← hwc]
  try rw [← hm]
  clear hwc hm
  have HNE := hide (show ∀ e ∈ ([(w.heap.size, #[.slice none 0 0, .slice none 0 0, .slice none 0 0], 30), (w.heap.size + 1, #[.int .i64 0, .int .i64 0, .int .i64 0], 32), (m, #[.slice a1 l.length c1, .slice a2 r.length c2, .slice a3 ps.length c3], 30)] : List (Nat × Array Value × TypeId)), e.1 ≠ g by
    intro e he
    have := HG.out
    have := HGM.out
    simp only [List.mem_cons, List.not_mem_nil, or_false] at he
    rcases he with rfl | rfl | rfl <;> simp only <;> omega)
  go_at_call 43
  refine (any7_d _ a len cap g _ R.out).mono ?_
  rintro e wd ⟨p, t, s, -, rfl, hr, ho⟩
  have R := hide hr
  have X := hide (X.out.drawZ ho (by have := HG.out; omega) HNE.out)
  have O := hide (O.out.only ho HLO.out)
  have HMD := hide (show m < wd.heap.size from X.out.lt 2 rfl)
  clear hr ho HNE
  have bl := below1 wd (.cells #[.int .i64 p, .int .i64 t, .int .i64 s] 32)
  have X := hide (X.out.alloc #[.int .i64 p, .int .i64 t, .int .i64 s] 32)
  have R := hide (R.out.alloc (.cells #[.int .i64 p, .int .i64 t, .int .i64 s] 32))
  have O := hide (O.out.below bl)
  clear bl
  obtain ⟨we, hwe⟩ : ∃ q, q = wd.alloc (.cells #[.int .i64 p, .int .i64 t, .int .i64 s] 32) := ⟨_, rfl⟩
  obtain ⟨m2, hm2⟩ : ∃ q, q = wd.heap.size := ⟨_, rfl⟩
  rw [← hwe] at X R O
  rw [← hm2] at X HMD
  simp only [List.cons_append, List.nil_append] at X
  go_wp2_with fail
  rw [← hwe]
  try rw [← hm2]
  clear hwe hm2
  have HMM := hide (show m < m2 from HMD.out)
  have HNE := hide (show ∀ e ∈ ([(w.heap.size, #[.slice none 0 0, .slice none 0 0, .slice none 0 0], 30), (w.heap.size + 1, #[.int .i64 0, .int .i64 0, .int .i64 0], 32), (m, #[.slice a1 l.length c1, .slice a2 r.length c2, .slice a3 ps.length c3], 30), (m2, #[.int .i64 p, .int .i64 t, .int .i64 s], 32)] : List (Nat × Array Value × TypeId)), e.1 ≠ g by
    intro e he
    have := HG.out
    have := HGM.out
    have := HMM.out
    simp only [List.mem_cons, List.not_mem_nil, or_false] at he
    rcases he with rfl | rfl | rfl | rfl <;> simp only <;> omega)
  go_at_call 44
  refine (below_d _ a len cap g _ R.out 5 (by omega) (by omega)).mono ?_
  rintro e wf ⟨x0, hx0, rfl, hr, ho⟩
  have R := hide hr
  have X := hide (X.out.drawZ ho (by have := HG.out; omega) HNE.out)
  have O := hide (O.out.only ho HLO.out)
  clear hr ho
  go_wp2_with fail
  go_at_call 44
  refine (below_d _ a len cap g _ R.out 2 (by omega) (by omega)).mono ?_
  rintro e wg ⟨y0, hy0, rfl, hr, ho⟩
  have R := hide hr
  have X := hide (X.out.drawZ ho (by have := HG.out; omega) HNE.out)
  have O := hide (O.out.only ho HLO.out)
  clear hr ho
  have wx : wrap64 (x0 - y0) = x0 - y0 := IntWalk.wrap64_in _ (by omega)
  have hxr := hide (show -1 ≤ x0 - y0 ∧ x0 - y0 ≤ 4 by omega)
  have KS := hide (fun (W : World) (h : Kd [] w W [(w.heap.size, #[.slice none 0 0, .slice none 0 0, .slice none 0 0], 30), (w.heap.size + 1, #[.int .i64 0, .int .i64 0, .int .i64 0], 32), (m, #[.slice a1 l.length c1, .slice a2 r.length c2, .slice a3 ps.length c3], 30), (m2, #[.int .i64 p, .int .i64 t, .int .i64 s], 32)]) => show W.cell? ⟨m, 0, none⟩ = some (.slice a1 l.length c1) ∧ W.cell? ⟨m, 1, none⟩ = some (.slice a2 r.length c2) ∧ W.cell? ⟨m, 2, none⟩ = some (.slice a3 ps.length c3) ∧ W.cell? ⟨m2, 0, none⟩ = some (.int .i64 p) ∧ W.cell? ⟨m2, 1, none⟩ = some (.int .i64 t) ∧ W.cell? ⟨m2, 2, none⟩ = some (.int .i64 s) ∧ W.cell? ⟨w.heap.size, 0, none⟩ = some (.slice none 0 0) ∧ W.cell? ⟨w.heap.size, 1, none⟩ = some (.slice none 0 0) ∧ W.cell? ⟨w.heap.size, 2, none⟩ = some (.slice none 0 0) ∧ W.frozen? ⟨w.heap.size, 0, none⟩ = false ∧ W.frozen? ⟨w.heap.size, 1, none⟩ = false ∧ W.frozen? ⟨w.heap.size, 2, none⟩ = false ∧ W.cell? ⟨w.heap.size + 1, 0, none⟩ = some (.int .i64 0) ∧ W.cell? ⟨w.heap.size + 1, 1, none⟩ = some (.int .i64 0) ∧ W.cell? ⟨w.heap.size + 1, 2, none⟩ = some (.int .i64 0) ∧ W.frozen? ⟨w.heap.size + 1, 0, none⟩ = false ∧ W.frozen? ⟨w.heap.size + 1, 1, none⟩ = false ∧ W.frozen? ⟨w.heap.size + 1, 2, none⟩ = false from ⟨h.cell 2 0 rfl rfl, h.cell 2 1 rfl rfl, h.cell 2 2 rfl rfl, h.cell 3 0 rfl rfl, h.cell 3 1 rfl rfl, h.cell 3 2 rfl rfl, h.cell 0 0 rfl rfl, h.cell 0 1 rfl rfl, h.cell 0 2 rfl rfl, h.free 0 0 rfl, h.free 0 1 rfl, h.free 0 2 rfl, h.cell 1 0 rfl rfl, h.cell 1 1 rfl rfl, h.cell 1 2 rfl rfl, h.free 1 0 rfl, h.free 1 1 rfl, h.free 1 2 rfl⟩)
  have hm0 := X.out.low 2 rfl
  have hgm := HGM.out
  have hg1 := HG.out
  have hmm := HMM.out
  have hne1 : w.heap.size + 1 ≠ m := by omega
  have hne2 : m ≠ w.heap.size + 1 := by omega
  have hne3 : w.heap.size ≠ m := by omega
  have hne4 : m ≠ w.heap.size := by omega
  have hne5 : w.heap.size + 1 ≠ m2 := by omega
  have hne6 : m2 ≠ w.heap.size + 1 := by omega
  have hne7 : w.heap.size ≠ m2 := by omega
  have hne8 : m2 ≠ w.heap.size := by omega
  clear hm0 hgm hg1 hmm
  obtain ⟨c10, -⟩ := KS.out _ X.out
  go_upto_region 5 with fail
  obtain ⟨x, hx⟩ : ∃ q, q = x0 - y0 := ⟨_, rfl⟩
  try rw [wx]
  rw [← hx] at hxr
  rw [← hx]
  clear c10 wx hx hx0 hy0
  have R := hide (R.out.drew')
  have X := hide X.out.drew
  have O := hide (O.out.below (Below.refl _ _).drew)
  obtain ⟨c10, c11, c12, c20, c21, c22, c00, c01, c02, f00, f01, f02, r00, r01, r02, g00, g01, g02⟩ := KS.out _ X.out
  go_region_with (first
    | (go_at_call 44; refine (below_d _ a len cap g _ R.out 9 (by omega) (by omega)).mono ?_; rintro e wq ⟨y1, hy1, rfl, hr, ho⟩; have hy1 := hide hy1; replace R := hide hr; replace X := hide (X.out.drawZ ho (by have := HG.out; omega) HNE.out); replace O := hide (O.out.only ho HLO.out); clear hr ho c10 c11 c12 c20 c21 c22 c00 c01 c02 f00 f01 f02 r00 r01 r02 g00 g01 g02; obtain ⟨c10, c11, c12, c20, c21, c22, c00, c01, c02, f00, f01, f02, r00, r01, r02, g00, g01, g02⟩ := KS.out _ X.out))
  all_goals
    have hxr2 := hxr.out
    have hy2 := hy1.out
    have wy : IntKind.i64.wrap (x + y1) = x + y1 := by rw [IntWalk.i64_left, IntWalk.wrap64_in _ (by omega)]
    have wy2 : wrap64 (x + y1) = x + y1 := IntWalk.wrap64_in _ (by omega)
    have HXI := hide (show I64 x ∧ I64 (x + y1) from ⟨⟨by omega, by omega⟩, ⟨by omega, by omega⟩⟩)
    clear hxr2 hy2
    have Z := (((((X.out.set 0 0 rfl (.slice a1 l.length c1)).set 0 1 rfl (.slice a2 r.length c2)).set 0 2 rfl (.slice a3 ps.length c3)).set 1 0 rfl (.int .i64 p)).set 1 1 rfl (.int .i64 t)).set 1 2 rfl (.int .i64 s)
    have z0 := Z.cell 0 0 rfl rfl
    have z1 := Z.cell 0 1 rfl rfl
    have z2 := Z.cell 0 2 rfl rfl
    have z3 := Z.cell 1 0 rfl rfl
    have z4 := Z.cell 1 1 rfl rfl
    have z5 := Z.cell 1 2 rfl rfl
    have Q9 := (O.out.seg (seg3 _ w.heap.size (.slice a1 l.length c1) (.slice a2 r.length c2) (.slice a3 ps.length c3)) (by have := HG.out; have := HLO.out; omega)).seg (seg3 _ (w.heap.size + 1) (.int .i64 p) (.int .i64 t) (.int .i64 s)) (by have := HG.out; have := HLO.out; omega)
    clear c10 c11 c12 c20 c21 c22 c00 c01 c02 f00 f01 f02 r00 r01 r02 g00 g01 g02
    rename ∀ (a : Act) (w' : World), Code.wp _ Code.ret _ a w' → _ => HK
    refine HK _ _ ?_
    refine wp_ret ?_
    exact bodyPost_ret (v := .tuple #[.agg #[.slice a1 l.length c1, .slice a2 r.length c2, .slice a3 ps.length c3], .agg #[.int .i64 p, .int .i64 t, .int .i64 s], .int .i64 x, .int .i64 (x + y1)]) (by simp [results, Try.results13, go_sem, z0, z1, z2, z3, z4, z5, wy]) rfl ⟨a1, a2, a3, c1, c2, c3, l, r, ps, p, t, s, x, x + y1, rfl, Q9.cu, HA.out.wfZ, HXI.out.1, HXI.out.2, Z.belowZ⟩

end Go.Proofs.Ytfldnjkojdnjcaa
