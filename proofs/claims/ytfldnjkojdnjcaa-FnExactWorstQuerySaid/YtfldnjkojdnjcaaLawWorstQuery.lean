/- The law FnExactWorstQuery holds: whatever the arguments, the call returns true, and they read afterwards as before. -/
import Derived.Test.YtfldnjkojdnjcaaRows
import Derived.WalkKit
import Derived.ProofKit
import Derived.OpenShut
import Derived.ShutString
import Derived.ChangeOld
import Derived.Below
import Derived.Test.YtfldnjkojdnjcaaLvW
import Derived.Test.YtfldnjkojdnjcaaRbw
namespace Go.Proofs.Ytfldnjkojdnjcaa.fnExactWorstQuery
open Go.ChangeShapes Go.WideShapes Go.ChangeAt Go.RowKit
open Go.ChangeMaps (open_string shut_string)
set_option linter.unusedVariables false
set_option linter.unusedSimpArgs false

theorem own : ownKnob Try.prog.godebug = none := by kernel_rfl
theorem laidOut : laidOutB Try.prog = true := by kernel_rfl

set_option maxRecDepth 100000 in
set_option maxHeartbeats 4000000 in
theorem walk (w : World) (v0 : Value) (w0 : ∃ l, Ints w w.heap.size v0 l) :
    Calls Try.prog 7 #[v0] w fun e w' => e = .returned (.bool true) ∧ Below w.heap.size w w' := by
  obtain ⟨l, hl⟩ := w0
  obtain ⟨a, cap, rfl, hlen, wl, -⟩ := id hl
  have V := hide hl
  clear hl
  by_cases hbig : ¬(l.length ≤ 1048576)
  · have b0 : decide ((1048576 : Int) < (l.length : Int)) = true := by simp; omega
    go_enter Try.func7, Try.ntmps7
    go_wp2_with fail
    go_ret
    exact ⟨rfl, Below.refl _ _⟩
  have hbig : l.length ≤ 1048576 := by omega
  have b0 : decide ((1048576 : Int) < (l.length : Int)) = false := by simp; omega
  · skip
    have T := hide (fun (W : World) (h : Below w.heap.size w W) => toIntS_own _ l W w.heap.size (V.out.below h (Nat.le_refl _)) h.size hbig)
    have HSP := hide (fun (W : World) (lo : Nat) (v : Value) (h : Is W lo 3 v l) => show Calls Try.prog 36 #[v] W (RetI1 W (wqK l l.length)) by
      obtain ⟨a', c', rfl⟩ := h.form
      have := sWq_any a' c' l W W.heap.size (h.ints (by obtain ⟨_, _, _, e⟩ := (OI.of h).1.form; exact Nat.le_refl _) hlen wl) (Nat.le_refl _) hbig
      exact this)
    have HIP := hide (fun (W : World) (lo : Nat) (v : Value) (h : Is W lo 3 v l) => show Calls Try.prog 38 #[v] W (RetI1 W (wqK l l.length)) by
      obtain ⟨a', c', rfl⟩ := h.form
      have := iWq_any a' c' l W W.heap.size (h.ints (by obtain ⟨_, _, _, e⟩ := (OI.of h).1.form; exact Nat.le_refl _) hlen wl) (Nat.le_refl _) hbig
      exact this)
    obtain ⟨s, hs⟩ : ∃ q, q = wqK l l.length := ⟨_, rfl⟩
    rw [← hs] at HSP HIP
    clear hs
    have hss : (s != s) = false := by simp
    have CI0 := hide (fun (W : World) (v : Value) (lo hi : Nat) (h : Ow W v l lo hi) => h.ints wl)
    clear wl hlen
    have X := hide (Kn.start w)
    go_enter Try.func7, Try.ntmps7
    go_wp2_with fail
    go_at_call 37
    refine (T.out _ X.out.below).mono ?_
    rintro e w1 ⟨va, rfl, Ia, hb⟩
    have X := hide (X.out.up hb)
    clear hb
    go_wp2_with fail
    go_at_call 36
    refine (HSP.out _ _ _ Ia).mono ?_
    rintro e w2 ⟨rfl, hb⟩
    have X := hide (X.out.up hb)
    clear hb
    clear Ia
    go_wp2_with fail
    go_at_call 37
    refine (T.out _ X.out.below).mono ?_
    rintro e w3 ⟨vx, rfl, Ix, hb⟩
    have CX := hide (Ow.of Ix hb.size)
    have IX := hide Ix
    have X := hide (X.out.up hb)
    clear hb
    go_wp2_with fail
    go_at_call 38
    refine (HIP.out _ _ _ IX.out).mono ?_
    rintro e w4 ⟨rfl, hb⟩
    have X := hide (X.out.up hb)
    have CX := hide (CX.out.below hb)
    clear hb
    clear Ix IX
    go_wp2_with fail
    go_at_call 37
    refine (T.out _ X.out.below).mono ?_
    rintro e w5 ⟨vy, rfl, Iy, hb⟩
    have CY := hide (Ow.of Iy hb.size)
    have X := hide (X.out.up hb)
    have CX := hide (CX.out.below hb)
    clear hb
    go_wp2_with fail
    go_at_call 39
    refine (eqIntS_alike _ _ l _ _ (CI0.out _ _ _ _ CX.out) (CI0.out _ _ _ _ CY.out)).mono ?_
    rintro e w6 ⟨rfl, hb⟩
    have X := hide (X.out.up hb)
    clear hb
    go_wp2_with fail
    go_ret
    exact ⟨rfl, X.out.below⟩

set_option maxRecDepth 100000 in
theorem lifted (os : Os) (started : os.Started) (H : Type) (enc : TypeId × Value → H) :
    ReturnsInHanded {} Try.checked os 7 .any (Rows.fnExactWorstQuerySpec.pre6 enc Try.prog Try.f7 Rows.fnExactWorstQueryRow.domain false) (Rows.fnExactWorstQuerySpec.post enc Try.prog Try.f7 false true false false) := by
  refine returnsInHanded_of_change (C := Try.checked) own started (by kernel_rfl) Try.func7
    (ChangeSpec.witness6 (enc := enc) (C := Try.checked) false ⟨#[], #[.slice none 0 0], []⟩ 8 (by kernel_rfl) (by kernel_rfl) (by kernel_rfl) (by kernel_rfl)) ?_
  intro W base args ds gs before hval0 hW hcnd _
  have hval : ∀ (j : Nat) t v, Try.f7.params[j]? = some t → args[j]? = some v → Value.okWide Try.prog W .any base t v := hval0
  have hW' := hW
  obtain ⟨p, q, hA0, hV, rfl, hfz, hnd⟩ := hW
  have hA : DataW.TrodAll enc Try.prog W 0 (fun _ => true) true Try.f7.params.toList args.toList ds p := hA0
  rw [Try.params7] at hA hval
  obtain ⟨v0, vs0, d0, ds0, p0, q0, hargs, rfl, rfl, h0, r0⟩ := trodAll_cons hA
  obtain ⟨rfl, rfl, rfl⟩ := trodAll_nil r0
  obtain rfl : args = #[v0] := by cases args; simp_all
  obtain ⟨rfl, rfl⟩ := trodVars_none hV
  have k0 := h0
  have lt0 : ∀ x ∈ p0, x.block < W.heap.size := by obtain ⟨m, hm⟩ := k0; exact DataW.trod_lt m _ _ _ hm
  have w0 := open_intS (hval 0 24 v0 rfl rfl) h0
  clear hA0 hval0
  refine (walk W v0 w0).mono fun e W' ⟨he, bel⟩ => ?_
  subst he
  exact ⟨_, rfl, _, _, _, [], _, [], hW', trodAll_mk1 (shut_bool Try.underlying4 _), (trodAll_cons_mk (Below.trod laidOut (by kernel_rfl) (of_decide_eq_true (by kernel_rfl)) k0 bel lt0) trodAll_mk0), rfl, bel.frame _, fun h => by cases h⟩

theorem over : Rows.fnExactWorstQueryRow.holds Try.pinned (OpenSpec.ofChange Rows.fnExactWorstQuerySpec) :=
  OpenClaim.holds_of_wide 7 Try.f7 rfl rfl rfl rfl rfl rfl rfl ⟨rfl, rfl, rfl, rfl, rfl⟩ rfl rfl rfl rfl rfl (by kernel_rfl) Try.func7 (by kernel_rfl)
    (of_decide_eq_true (by kernel_rfl)) (by unfold Func.isWrapper; first | (rw [if_pos (by decide +kernel)]; kernel_rfl) | (rw [if_neg (by decide +kernel)]; exact ⟨rfl, rfl⟩))
    (fun os started H enc _ => lifted os started H enc)

/-- The statement. -/
theorem proved : Rows.FnExactWorstQuerySaid := over
#print axioms proved
end Go.Proofs.Ytfldnjkojdnjcaa.fnExactWorstQuery
