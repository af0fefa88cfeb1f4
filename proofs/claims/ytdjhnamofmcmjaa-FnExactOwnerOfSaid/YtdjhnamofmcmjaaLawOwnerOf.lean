/- The law FnExactOwnerOf holds: whatever the arguments, the call returns true, and they read afterwards as before. -/
import Derived.Test.YtdjhnamofmcmjaaRows
import Derived.WalkKit
import Derived.ProofKit
import Derived.OpenShut
import Derived.ShutString
import Derived.ChangeOld
import Derived.Below
import Derived.Test.YtdjhnamofmcmjaaCh
namespace Go.Proofs.Ytdjhnamofmcmjaa.fnExactOwnerOf
open Go.ChangeShapes Go.WideShapes Go.ChangeAt Go.RowKit
open Go.ChangeMaps (open_string shut_string)
set_option linter.unusedVariables false
set_option linter.unusedSimpArgs false

theorem own : ownKnob Try.prog.godebug = none := by kernel_rfl
theorem laidOut : laidOutB Try.prog = true := by kernel_rfl

set_option maxRecDepth 100000 in
set_option maxHeartbeats 4000000 in
theorem walk (w : World) (v0 : Value) (w0 : ∃ cs, Cgs w w.heap.size v0 cs) (aq : Int) (wq : (Lit.int .i64 aq).wf = true) :
    Calls Try.prog 7 #[v0, .int .i64 aq] w fun e w' => e = .returned (.bool true) ∧ Below w.heap.size w w' := by
  obtain ⟨cs, hl⟩ := w0
  obtain ⟨a, cap, rfl⟩ := hl.form
  have wok := hl.ok
  have V := hide hl
  clear hl
  have hsz := hide (fun (W : World) (h : Below w.heap.size w W) => szChargeS_any _ cs 1048576 W w.heap.size (V.out.below h (Nat.le_refl _)) (by omega) (by omega))
  obtain ⟨z1, hz1⟩ : ∃ z : Int, z = (if 1048576 - (cs.length : Int) < 0 then -1 else 1048576 - (cs.length : Int)) := ⟨_, rfl⟩
  rw [← hz1] at hsz
  have X := hide (Kn.start w)
  by_cases hneg : z1 < 0
  · have b0 : decide (z1 < 0) = true := by simp; omega
    clear hz1
    go_enter Try.func7, Try.ntmps7
    go_wp2_with fail
    go_at_call 17
    refine (hsz.out _ X.out.below).mono ?_
    rintro e w1 ⟨rfl, rfl⟩
    go_wp2_with fail
    go_ret
    exact ⟨rfl, Below.refl _ _⟩
  have hbig : cs.length ≤ 1048576 := by split at hz1 <;> omega
  have b0 : decide (z1 < 0) = false := by simp; omega
  clear hz1
  have T := hide (fun (W : World) (h : Below w.heap.size w W) => toChargeS_own _ cs W w.heap.size (V.out.below h (Nat.le_refl _)) h.size hbig)
  have HC := hide (fun (W : World) (lo : Nat) (v : Value) (h : Lg W lo v cs) => h.cgs (Nat.le_refl _) (by omega) wok)
  have HSP := hide (fun (W : World) (v : Value) (h : Cgs W W.heap.size v cs) => show Calls Try.prog 30 #[v, .int .i64 aq] W (RetI1 W (cgO cs aq)) from sOwO_any v cs aq W.heap.size W h (Nat.le_refl _) hbig)
  have HIP := hide (fun (W : World) (v : Value) (h : Cgs W W.heap.size v cs) => show Calls Try.prog 31 #[v, .int .i64 aq] W (RetI1 W (cgO cs aq)) from iOwO_any v cs aq W.heap.size W h (Nat.le_refl _) hbig)
  obtain ⟨s, hs⟩ : ∃ q, q = cgO cs aq := ⟨_, rfl⟩
  rw [← hs] at HSP HIP
  clear hs wok
  have hss : (s != s) = false := by simp
  go_enter Try.func7, Try.ntmps7
  go_wp2_with fail
  go_at_call 17
  refine (hsz.out _ X.out.below).mono ?_
  rintro e wz ⟨rfl, rfl⟩
  go_wp2_with fail
  go_at_call 20
  refine (T.out _ X.out.below).mono ?_
  rintro e w1 ⟨va, rfl, Ia, hb⟩
  have X := hide (X.out.up hb)
  have Ia := hide (HC.out _ _ _ Ia)
  clear hb
  go_wp2_with fail
  go_at_call 30
  refine (HSP.out _ _ Ia.out).mono ?_
  rintro e w2 ⟨rfl, hb⟩
  have X := hide (X.out.up hb)
  clear hb Ia
  go_wp2_with fail
  go_at_call 20
  refine (T.out _ X.out.below).mono ?_
  rintro e w3 ⟨vx, rfl, Ix, hb⟩
  have X := hide (X.out.up hb)
  have Ix := hide (HC.out _ _ _ Ix)
  clear hb
  go_wp2_with fail
  go_at_call 31
  refine (HIP.out _ _ Ix.out).mono ?_
  rintro e w4 ⟨rfl, hb⟩
  have X := hide (X.out.up hb)
  have Ix := hide (Ix.out.up hb)
  clear hb
  go_wp2_with fail
  go_at_call 20
  refine (T.out _ X.out.below).mono ?_
  rintro e w5 ⟨vy, rfl, Iy, hb⟩
  have X := hide (X.out.up hb)
  have Ix := hide (Ix.out.up hb)
  have Iy := hide (HC.out _ _ _ Iy)
  clear hb
  go_wp2_with fail
  go_at_call 23
  refine (eqChargeS_same _ _ cs _ _ Ix.out Iy.out (Nat.le_refl _)).mono ?_
  rintro e w6 ⟨rfl, hb⟩
  have X := hide (X.out.up hb)
  clear hb
  go_wp2_with fail
  go_ret
  exact ⟨rfl, X.out.below⟩

set_option maxRecDepth 100000 in
theorem lifted (os : Os) (started : os.Started) (H : Type) (enc : TypeId × Value → H) :
    ReturnsInHanded {} Try.checked os 7 .any (Rows.fnExactOwnerOfSpec.pre6 enc Try.prog Try.f7 Rows.fnExactOwnerOfRow.domain false) (Rows.fnExactOwnerOfSpec.post enc Try.prog Try.f7 false true false false) := by
  refine returnsInHanded_of_change (C := Try.checked) own started (by kernel_rfl) Try.func7
    (ChangeSpec.witness6 (enc := enc) (C := Try.checked) false ⟨#[], #[.slice none 0 0, .int .i64 0], []⟩ 8 (by kernel_rfl) (by kernel_rfl) (by kernel_rfl) (by kernel_rfl)) ?_
  intro W base args ds gs before hval0 hW hcnd _
  have hval : ∀ (j : Nat) t v, Try.f7.params[j]? = some t → args[j]? = some v → Value.okWide Try.prog W .any base t v := hval0
  have hW' := hW
  obtain ⟨p, q, hA0, hV, rfl, hfz, hnd⟩ := hW
  have hA : DataW.TrodAll enc Try.prog W 0 (fun _ => true) true Try.f7.params.toList args.toList ds p := hA0
  rw [Try.params7] at hA hval
  obtain ⟨v0, vs0, d0, ds0, p0, q0, hargs, rfl, rfl, h0, r0⟩ := trodAll_cons hA
  obtain ⟨v1, vs1, d1, ds1, p1, q1, rfl, rfl, rfl, h1, r1⟩ := trodAll_cons r0
  obtain ⟨rfl, rfl, rfl⟩ := trodAll_nil r1
  obtain rfl : args = #[v0, v1] := by cases args; simp_all
  obtain ⟨rfl, rfl⟩ := trodVars_none hV
  have k0 := h0
  have lt0 : ∀ x ∈ p0, x.block < W.heap.size := by obtain ⟨m, hm⟩ := k0; exact DataW.trod_lt m _ _ _ hm
  have k1 := h1
  have lt1 : ∀ x ∈ p1, x.block < W.heap.size := by obtain ⟨m, hm⟩ := k1; exact DataW.trod_lt m _ _ _ hm
  have w0 := open_cgs (hval 0 41 v0 rfl rfl) h0
  obtain ⟨a1, rfl, e1, f1, w1⟩ := open_int Try.underlying3 (hval 1 3 v1 rfl rfl) h1
  clear hA0 hval0
  refine (walk W v0 w0 a1 w1).mono fun e W' ⟨he, bel⟩ => ?_
  subst he
  exact ⟨_, rfl, _, _, _, [], _, [], hW', trodAll_mk1 (shut_bool Try.underlying4 _), (trodAll_cons_mk (Below.trod laidOut (by kernel_rfl) (of_decide_eq_true (by kernel_rfl)) k0 bel lt0) (trodAll_cons_mk (Below.trod laidOut (by kernel_rfl) (of_decide_eq_true (by kernel_rfl)) k1 bel lt1) trodAll_mk0)), rfl, bel.frame _, fun h => by cases h⟩

theorem over : Rows.fnExactOwnerOfRow.holds Try.pinned (OpenSpec.ofChange Rows.fnExactOwnerOfSpec) :=
  OpenClaim.holds_of_wide 7 Try.f7 rfl rfl rfl rfl rfl rfl rfl ⟨rfl, rfl, rfl, rfl, rfl⟩ rfl rfl rfl rfl rfl (by kernel_rfl) Try.func7 (by kernel_rfl)
    (of_decide_eq_true (by kernel_rfl)) (by unfold Func.isWrapper; first | (rw [if_pos (by decide +kernel)]; kernel_rfl) | (rw [if_neg (by decide +kernel)]; exact ⟨rfl, rfl⟩))
    (fun os started H enc _ => lifted os started H enc)

/-- The statement. -/
theorem proved : Rows.FnExactOwnerOfSaid := over
#print axioms proved
end Go.Proofs.Ytdjhnamofmcmjaa.fnExactOwnerOf
