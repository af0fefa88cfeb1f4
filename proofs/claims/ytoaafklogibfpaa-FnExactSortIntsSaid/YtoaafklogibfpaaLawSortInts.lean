/- The law FnExactSortInts holds: whatever the arguments, the call returns true, and they read afterwards as before. -/
import Derived.Test.YtoaafklogibfpaaRows
import Derived.WalkKit
import Derived.ProofKit
import Derived.OpenShut
import Derived.ShutString
import Derived.ChangeOld
import Derived.Below
import Derived.Test.YtoaafklogibfpaaRbw
namespace Go.Proofs.Ytoaafklogibfpaa.fnExactSortInts
open Go.ChangeShapes Go.WideShapes Go.ChangeAt Go.RowKit
open Go.ChangeMaps (open_string shut_string)
set_option linter.unusedVariables false
set_option linter.unusedSimpArgs false

theorem own : ownKnob Try.prog.godebug = none := by kernel_rfl
theorem laidOut : laidOutB Try.prog = true := by kernel_rfl

theorem Is.nilcap {w : World} {base : Nat} {e : TypeId} {a : Option Addr} {n c : Nat} {l : List Int} (h : Is w base e (.slice a n c) l) : a = none → c = 0 := by
  intro ha
  subst ha
  rcases h.2 with ⟨e, _⟩ | ⟨g, cap, cur, e, _⟩
  · injection e
  · injection e with e1; cases e1

set_option maxRecDepth 100000 in
set_option maxHeartbeats 8000000 in
theorem walk (w : World) (v0 : Value) (w0 : ∃ l, Ints w w.heap.size v0 l) :
    Calls Try.prog 9 #[v0] w fun e w' => e = .returned (.bool true) ∧ Below w.heap.size w w' := by
  obtain ⟨l, hl⟩ := w0
  obtain ⟨a, cap, rfl, hlen, wl, -⟩ := id hl
  have V := hide hl
  clear hl
  by_cases hbig : ¬(l.length ≤ 1048576)
  · have b0 : decide ((1048576 : Int) < (l.length : Int)) = true := by simp; omega
    go_enter Try.func9, Try.ntmps9
    go_wp2_with fail
    go_ret
    exact ⟨rfl, Below.refl _ _⟩
  have hbig : l.length ≤ 1048576 := by omega
  have b0 : decide ((1048576 : Int) < (l.length : Int)) = false := by simp; omega
  · skip
    have T := hide (fun (W : World) (h : Below w.heap.size w W) => toIntS_own _ l W w.heap.size (V.out.below h (Nat.le_refl _)) h.size hbig)
    have HSP := hide (fun (W : World) (lo : Nat) (v : Value) (h : Is W lo 3 v l) => show Calls Try.prog 46 #[v] W (RetOw W (sortL l)) by
      obtain ⟨a', c', rfl⟩ := h.form
      have := sSort_any a' c' l W W.heap.size (h.ints (by obtain ⟨_, _, _, e⟩ := (OI.of h).1.form; exact Nat.le_refl _) hlen wl) (Is.nilcap h) (Nat.le_refl _) hbig
      exact this)
    have HIP := hide (fun (W : World) (lo : Nat) (v : Value) (h : Is W lo 3 v l) => show Calls Try.prog 48 #[v] W (RetOw W (sortL l)) by
      obtain ⟨a', c', rfl⟩ := h.form
      have := iSort_any a' c' l W W.heap.size (h.ints (by obtain ⟨_, _, _, e⟩ := (OI.of h).1.form; exact Nat.le_refl _) hlen wl) (Is.nilcap h) (Nat.le_refl _) hbig
      exact this.mono fun e w' ⟨v, rfl', O, hb⟩ => ⟨v, _, rfl', Ow.of O hb.size, hb⟩)
    have hs1 : (sortL l).length ≤ 1048576 := by rw [sortL_length]; exact hbig
    have hs2 : ∀ x ∈ sortL l, I64 x := fun x hx => wl x (sortL_mem.1 hx)
    obtain ⟨s, hs⟩ : ∃ q, q = sortL l := ⟨_, rfl⟩
    rw [← hs] at HSP HIP hs1 hs2
    clear hs
    have CI0 := hide (fun (W : World) (v : Value) (lo hi : Nat) (h : Ow W v l lo hi) => h.ints wl)
    obtain ⟨M0, hM0⟩ : ∃ M : Int, M = 1 + (l.length : Int) := ⟨_, rfl⟩
    have HM0 := hide (fun (W : World) (v : Value) (lo hi : Nat) (h : Ow W v l lo hi) => show Calls Try.prog 42 #[v, .int .i64 1] W (RetMS W v lo hi M0 (mkI 1 l.length)) by rw [hM0]; exact markIntS_ow v l lo hi 1 W h (by omega) (by omega))
    have hK : decide (M0 < 0) = false := by simp; omega
    have CI := hide (fun (W : World) (v : Value) (lo hi : Nat) (h : Ow W v s lo hi) => h.ints hs2)
    obtain ⟨M, hM⟩ : ∃ M : Int, M = 1 + (s.length : Int) := ⟨_, rfl⟩
    have HMk := hide (fun (W : World) (v : Value) (lo hi : Nat) (h : Ow W v s lo hi) => show Calls Try.prog 42 #[v, .int .i64 1] W (RetMS W v lo hi M (mkI 1 s.length)) by rw [hM]; exact markIntS_ow v s lo hi 1 W h (by omega) (by omega))
    have HHd := hide (fun (W : World) (v : Value) (lo hi : Nat) (h : Ow W v (mkI 1 s.length) lo hi) => show Calls Try.prog 43 #[v, .int .i64 1] W (fun e w' => e = .returned (.int .i64 M) ∧ W = w') by rw [hM]; exact heldIntS_ow v s.length lo hi 1 W h (by omega) (by omega))
    have hMn : decide (M < 0) = false := by simp; omega
    have hMM : (M != M) = false := by simp
    clear hM0 hM hs1 hs2 wl hlen
    have X := hide (Kn.start w)
    go_enter Try.func9, Try.ntmps9
    go_wp2_with fail
    go_at_call 47
    refine (T.out _ X.out.below).mono ?_
    rintro e w1 ⟨va, rfl, Ia, hb⟩
    have X := hide (X.out.up hb)
    have N0 := hide hb.size
    clear hb
    go_wp2_with fail
    go_at_call 46
    refine (HSP.out _ _ _ Ia).mono ?_
    rintro e w2 ⟨vA, hiA, rfl, CA, hb⟩
    have HAh := hide CA.top
    have CA := hide CA
    have X := hide (X.out.up hb)
    have N1 := hide hb.size
    clear hb
    clear Ia
    go_wp2_with fail
    go_at_call 47
    refine (T.out _ X.out.below).mono ?_
    rintro e w3 ⟨vx, rfl, Ix, hb⟩
    have CX := hide (Ow.of Ix hb.size)
    have IX := hide Ix
    have X := hide (X.out.up hb)
    have CA := hide (CA.out.below hb)
    have N3 := hide hb.size
    clear hb
    go_wp2_with fail
    go_at_call 48
    refine (HIP.out _ _ _ IX.out).mono ?_
    rintro e w4 ⟨vG, hiG, rfl, CG, hb⟩
    have HGh := hide CG.top
    have CG := hide CG
    have X := hide (X.out.up hb)
    have CA := hide (CA.out.below hb)
    have CX := hide (CX.out.below hb)
    have N4 := hide hb.size
    clear hb
    clear Ix IX
    go_wp2_with fail
    go_at_call 41
    refine (eqIntS_alike _ _ s _ _ (CI.out _ _ _ _ CG.out) (CI.out _ _ _ _ CA.out)).mono ?_
    rintro e w5 ⟨rfl, hb⟩
    have X := hide (X.out.up hb)
    have CA := hide (CA.out.below hb)
    have CX := hide (CX.out.below hb)
    have CG := hide (CG.out.below hb)
    have N6 := hide hb.size
    clear hb
    go_wp2_with fail
    go_at_call 47
    refine (T.out _ X.out.below).mono ?_
    rintro e w6 ⟨vb, rfl, Ib, hb⟩
    have CB := Ow.of Ib hb.size
    have X := hide (X.out.up hb)
    have CA := hide (CA.out.below hb)
    have CX := hide (CX.out.below hb)
    have CG := hide (CG.out.below hb)
    have N7 := hide hb.size
    clear hb
    go_wp2_with fail
    go_at_call 41
    refine (eqIntS_alike _ _ l _ _ (CI0.out _ _ _ _ CX.out) (CI0.out _ _ _ _ CB)).mono ?_
    rintro e w7 ⟨rfl, hb⟩
    have X := hide (X.out.up hb)
    have CA := hide (CA.out.below hb)
    have CX := hide (CX.out.below hb)
    have CG := hide (CG.out.below hb)
    have N8 := hide hb.size
    clear hb
    clear Ib CB
    go_wp2_with fail
    go_at_call 42
    refine (HM0.out _ _ _ _ CX.out).mono ?_
    rintro e w8 ⟨rfl, -, s⟩
    have qN0 := N0.out
    have qN1 := N1.out
    have qHAh := HAh.out
    have qN3 := N3.out
    have qN4 := N4.out
    have qHGh := HGh.out
    have qN6 := N6.out
    have qN7 := N7.out
    have qN8 := N8.out
    have tCA := CA.out.le
    have tCG := CG.out.le
    have tCX := CX.out.le
    have X := hide (X.out.seg s (by omega) (by simp <;> omega))
    have CA := hide (CA.out.seg s (by omega))
    have CG := hide (CG.out.seg s (by omega))
    have N9 := hide s.below.size
    clear s qN0 qN1 qHAh qN3 qN4 qHGh qN6 qN7 qN8 tCA tCX tCG
    clear CX
    go_wp2_with fail
    go_at_call 41
    refine (eqIntS_alike _ _ s _ _ (CI.out _ _ _ _ CG.out) (CI.out _ _ _ _ CA.out)).mono ?_
    rintro e w9 ⟨rfl, hb⟩
    have X := hide (X.out.up hb)
    have CA := hide (CA.out.below hb)
    have CG := hide (CG.out.below hb)
    have N10 := hide hb.size
    clear hb
    go_wp2_with fail
    go_at_call 42
    refine (HMk.out _ _ _ _ CG.out).mono ?_
    rintro e w10 ⟨rfl, CG2, s⟩
    have qN0 := N0.out
    have qN1 := N1.out
    have qHAh := HAh.out
    have qN3 := N3.out
    have qN4 := N4.out
    have qHGh := HGh.out
    have qN6 := N6.out
    have qN7 := N7.out
    have qN8 := N8.out
    have qN9 := N9.out
    have qN10 := N10.out
    have tCA := CA.out.le
    have tCG := CG.out.le
    have X := hide (X.out.seg s (by omega) (by simp <;> omega))
    have CA := hide (CA.out.seg s (by omega))
    have N11 := hide s.below.size
    clear s qN0 qN1 qHAh qN3 qN4 qHGh qN6 qN7 qN8 qN9 qN10 tCA tCG
    have CG := hide CG2
    go_wp2_with fail
    go_at_call 43
    refine (HHd.out _ _ _ _ CG.out).mono ?_
    rintro e wq ⟨rfl, rfl⟩
    go_wp2_with fail
    go_at_call 47
    refine (T.out _ X.out.below).mono ?_
    rintro e w11 ⟨vh, rfl, Ih, hb⟩
    have X := hide (X.out.up hb)
    have CA := hide (CA.out.below hb)
    have CG := hide (CG.out.below hb)
    have N12 := hide hb.size
    clear hb
    go_wp2_with fail
    go_at_call 48
    refine (HIP.out _ _ _ Ih).mono ?_
    rintro e w12 ⟨vH, hiH, rfl, CH, hb⟩
    have HHh := hide CH.top
    have CH := hide CH
    have X := hide (X.out.up hb)
    have CA := hide (CA.out.below hb)
    have CG := hide (CG.out.below hb)
    have N13 := hide hb.size
    clear hb
    go_wp2_with fail
    go_at_call 41
    refine (eqIntS_alike _ _ s _ _ (CI.out _ _ _ _ CH.out) (CI.out _ _ _ _ CA.out)).mono ?_
    rintro e w13 ⟨rfl, hb⟩
    have X := hide (X.out.up hb)
    have CA := hide (CA.out.below hb)
    have CG := hide (CG.out.below hb)
    have CH := hide (CH.out.below hb)
    have N15 := hide hb.size
    clear hb
    go_wp2_with fail
    go_at_call 43
    refine (HHd.out _ _ _ _ CG.out).mono ?_
    rintro e wq ⟨rfl, rfl⟩
    go_wp2_with fail
    go_ret
    exact ⟨rfl, X.out.below⟩

set_option maxRecDepth 100000 in
theorem lifted (os : Os) (started : os.Started) (H : Type) (enc : TypeId × Value → H) :
    ReturnsInHanded {} Try.checked os 9 .any (Rows.fnExactSortIntsSpec.pre6 enc Try.prog Try.f9 Rows.fnExactSortIntsRow.domain false) (Rows.fnExactSortIntsSpec.post enc Try.prog Try.f9 false true false false) := by
  refine returnsInHanded_of_change (C := Try.checked) own started (by kernel_rfl) Try.func9
    (ChangeSpec.witness6 (enc := enc) (C := Try.checked) false ⟨#[], #[.slice none 0 0], []⟩ 8 (by kernel_rfl) (by kernel_rfl) (by kernel_rfl) (by kernel_rfl)) ?_
  intro W base args ds gs before hval0 hW hcnd _
  have hval : ∀ (j : Nat) t v, Try.f9.params[j]? = some t → args[j]? = some v → Value.okWide Try.prog W .any base t v := hval0
  have hW' := hW
  obtain ⟨p, q, hA0, hV, rfl, hfz, hnd⟩ := hW
  have hA : DataW.TrodAll enc Try.prog W 0 (fun _ => true) true Try.f9.params.toList args.toList ds p := hA0
  rw [Try.params9] at hA hval
  obtain ⟨v0, vs0, d0, ds0, p0, q0, hargs, rfl, rfl, h0, r0⟩ := trodAll_cons hA
  obtain ⟨rfl, rfl, rfl⟩ := trodAll_nil r0
  obtain rfl : args = #[v0] := by cases args; simp_all
  obtain ⟨rfl, rfl⟩ := trodVars_none hV
  have k0 := h0
  have lt0 : ∀ x ∈ p0, x.block < W.heap.size := by obtain ⟨m, hm⟩ := k0; exact DataW.trod_lt m _ _ _ hm
  have w0 := open_intS (hval 0 22 v0 rfl rfl) h0
  clear hA0 hval0
  refine (walk W v0 w0).mono fun e W' ⟨he, bel⟩ => ?_
  subst he
  exact ⟨_, rfl, _, _, _, [], _, [], hW', trodAll_mk1 (shut_bool Try.underlying4 _), (trodAll_cons_mk (Below.trod laidOut (by kernel_rfl) (of_decide_eq_true (by kernel_rfl)) k0 bel lt0) trodAll_mk0), rfl, bel.frame _, fun h => by cases h⟩

theorem over : Rows.fnExactSortIntsRow.holds Try.pinned (OpenSpec.ofChange Rows.fnExactSortIntsSpec) :=
  OpenClaim.holds_of_wide 9 Try.f9 rfl rfl rfl rfl rfl rfl rfl ⟨rfl, rfl, rfl, rfl, rfl⟩ rfl rfl rfl rfl rfl (by kernel_rfl) Try.func9 (by kernel_rfl)
    (of_decide_eq_true (by kernel_rfl)) (by unfold Func.isWrapper; first | (rw [if_pos (by decide +kernel)]; kernel_rfl) | (rw [if_neg (by decide +kernel)]; exact ⟨rfl, rfl⟩))
    (fun os started H enc _ => lifted os started H enc)

/-- The statement. -/
theorem proved : Rows.FnExactSortIntsSaid := over
#print axioms proved
end Go.Proofs.Ytoaafklogibfpaa.fnExactSortInts
