/- The law FnExactRippleInsert holds: whatever the arguments, the call returns true, and they read afterwards as before. -/
import Derived.Test.YtajfhalalnlejaaRows
import Derived.WalkKit
import Derived.ProofKit
import Derived.OpenShut
import Derived.ShutString
import Derived.ChangeOld
import Derived.Below
import Derived.Test.YtajfhalalnlejaaRiL
import Derived.Test.YtajfhalalnlejaaOck
namespace Go.Proofs.Ytajfhalalnlejaa.fnExactRippleInsert
open Go.ChangeShapes Go.WideShapes Go.ChangeAt Go.RowKit
open Go.ChangeMaps (open_string shut_string)
set_option linter.unusedVariables false
set_option linter.unusedSimpArgs false

theorem own : ownKnob Try.prog.godebug = none := by kernel_rfl
theorem laidOut : laidOutB Try.prog = true := by kernel_rfl

theorem Kn.join {w u W : World} {L M : List (Nat × Array Value × TypeId)} (h : Kn w u L) (k : Kn u W M) : Kn w W (L ++ M) := by
  have h2 := h.up k.below
  refine ⟨h2.below, fun e he => ?_, fun e he => ?_, ?_⟩
  · rcases List.mem_append.1 he with he | he
    · exact h2.hold e he
    · exact k.hold e he
  · rcases List.mem_append.1 he with he | he
    · exact h.high e he
    · exact Nat.le_trans h.below.size (k.high e he)
  · rw [List.map_append, List.nodup_append]
    refine ⟨h.nodup, k.nodup, fun a ha b hb => ?_⟩
    obtain ⟨e, he, rfl⟩ := List.mem_map.1 ha
    obtain ⟨f, hf, rfl⟩ := List.mem_map.1 hb
    have h3 := (Array.getElem?_eq_some_iff.1 (h.hold e he)).1
    have h4 := k.high f hf
    omega

theorem Kn.put3s {w W : World} {g : Nat} {x y z : Value} {t : TypeId} (h : Kn w W [(g, #[x, y, z], t)]) (a b c : Value) :
    Kn w (((W.setCell ⟨g, 0, none⟩ a).setCell ⟨g, 1, none⟩ b).setCell ⟨g, 2, none⟩ c) [(g, #[a, b, c], t)] := ((h.set 0 0 rfl a).set 0 1 rfl b).set 0 2 rfl c

theorem below_upA {W W' : World} {o : Obj} (hb : Below (W.alloc o).heap.size (W.alloc o) W') : Below W.heap.size W W' := (below1 W o).trans (hb.mono (by simp))
theorem lt_alloc {W : World} {o : Obj} {lo : Nat} (h : (W.alloc o).heap.size ≤ lo) : W.heap.size < lo := by
  simp at h
  omega

theorem le_al {W : World} {o : Obj} {n : Nat} (h : n ≤ W.heap.size) : n ≤ (W.alloc o).heap.size := by
  simp
  omega

theorem le_s3 {W : World} {a b c : Addr} {x y z : Value} {n : Nat} (h : n ≤ W.heap.size) : n ≤ (((W.setCell a x).setCell b y).setCell c z).heap.size := by
  simpa using h

theorem below_upD {W W' : World} {o : Obj} (hb : Below (W.alloc o).drew.heap.size (W.alloc o).drew W') : Below W.heap.size W W' := (below1 W o).drew.trans (hb.mono (by simp))

set_option maxRecDepth 100000 in
set_option maxHeartbeats 40000000 in
theorem walk (w : World) (v0 : Value) (w0 : ∃ l r ps, Ck w w.heap.size v0 l r ps) (v1 : Value) (w1' : ∃ f t : Int, v1 = .agg #[.int .i64 f, .int .i64 t] ∧ I64 f ∧ I64 t) :
    Calls Try.prog 4 #[v0, v1] w fun e w' => e = .returned (.bool true) ∧ Below w.heap.size w w' := by
  obtain ⟨l, r, ps, hv⟩ := w0
  obtain ⟨pv, pa, rfl, hpv, hpa⟩ := w1'
  obtain ⟨a1, c1, a2, c2, a3, c3, rfl, -⟩ := hv.form
  obtain ⟨wl, wr, wpl, wp⟩ := hv.wf
  have V := hide hv
  clear hv
  have X := hide (Kn.two w #[.slice a1 l.length c1, .slice a2 r.length c2, .slice a3 ps.length c3] #[.int .i64 pv, .int .i64 pa] 42 44)
  obtain ⟨wC, hwC⟩ : ∃ q, q = (w.alloc (.cells #[.slice a1 l.length c1, .slice a2 r.length c2, .slice a3 ps.length c3] 42)).alloc (.cells #[.int .i64 pv, .int .i64 pa] 44) := ⟨_, rfl⟩
  have N0 := hide (show wC.heap.size = w.heap.size + 1 + 1 by rw [hwC]; simp)
  rw [← hwC] at X
  have hsz := hide (fun (W : World) (h : Below w.heap.size w W) => szCracker_any _ l r ps 1048576 W w.heap.size (V.out.below h (Nat.le_refl _)) h.size (by omega) (by omega))
  obtain ⟨z1, hz1⟩ : ∃ z, z = szC (l.length + r.length + ps.length) 1048576 := ⟨_, rfl⟩
  rw [← hz1] at hsz
  unfold szC at hz1
  by_cases hneg : z1 < 0
  · have b0 : decide (z1 < 0) = true := by simp; omega
    clear hz1
    go_enter Try.func4, Try.ntmps4
    have c00 : wC.cell? ⟨w.heap.size, 0, none⟩ = some (.slice a1 l.length c1) := X.out.cell 0 0 rfl rfl
    have c01 : wC.cell? ⟨w.heap.size, 1, none⟩ = some (.slice a2 r.length c2) := X.out.cell 0 1 rfl rfl
    have c02 : wC.cell? ⟨w.heap.size, 2, none⟩ = some (.slice a3 ps.length c3) := X.out.cell 0 2 rfl rfl
    rw [hwC] at c00 c01 c02
    go_wp2_with fail
    rw [← hwC]
    clear hwC c00 c01 c02
    go_at_call 21
    refine (hsz.out _ X.out.below).mono ?_
    rintro e w1 ⟨rfl, hb⟩
    have X := hide (X.out.up hb)
    have N1 := hide hb.size
    clear hb
    go_wp2_with fail
    go_ret
    exact ⟨rfl, X.out.below⟩
  have hbig : l.length + r.length + ps.length ≤ 1048576 := by split at hz1 <;> omega
  have b0 : decide (z1 < 0) = false := by simp; omega
  clear hz1 hneg
  · skip
    have T := hide (fun (W : World) (h : Below w.heap.size w W) => toCracker_own _ l r ps W w.heap.size (V.out.below h (Nat.le_refl _)) h.size (by omega) (by omega) (by omega))
    have TA := hide (fun (W : World) (h : Below w.heap.size w W) => toCracker_any _ l r ps W w.heap.size (V.out.below h (Nat.le_refl _)) h.size (by omega) (by omega) (by omega))
    have HSP := hide (fun (W : World) (v : Value) (h : Ck W W.heap.size v l r ps) => sRi_any v l r ps pv pa W h (by omega) (by omega) (by omega) wl wr wp hpv hpa)
    have HIP := hide (fun (W : World) (v : Value) (h : Ck W W.heap.size v l r ps) => iRi_any v l r ps pv pa W h (by omega) (by omega) (by omega) wl wr wp hpv hpa)
    obtain ⟨hn1, hn2, hn3, hn4, hn5, hn6⟩ := ri_wf (l := l) (r := r) (ps := ps) (v := pv) (row := pa) (by omega) (by omega) (by omega) wl wr wp hpv hpa
    obtain ⟨nl, hnl⟩ : ∃ q, q = riL l r ps pv pa := ⟨_, rfl⟩
    obtain ⟨nr, hnr⟩ : ∃ q, q = riR l r ps pv pa := ⟨_, rfl⟩
    obtain ⟨np, hnp⟩ : ∃ q, q = riP l r ps pv pa := ⟨_, rfl⟩
    obtain ⟨nn, hnn⟩ : ∃ q, q = riN l r ps pv pa := ⟨_, rfl⟩
    obtain ⟨t, ht⟩ : ∃ q, q = riOk l r ps pv pa := ⟨_, rfl⟩
    rw [← hnl, ← hnr, ← hnp, ← hnn, ← ht] at HSP HIP
    rw [← hnl] at hn1 hn4
    rw [← hnr] at hn2 hn5
    rw [← hnp] at hn3 hn6
    clear hnl hnr hnp hnn ht
    have CK := hide (fun (W : World) (x y z : Value) (lo hi p1 q1 p2 q2 p3 q3 : Nat) (h : OC W x y z nl nr np lo hi p1 q1 p2 q2 p3 q3) => h.ck hn4 hn5 (by omega) hn6)
    have hTnn : ((nn : Int) != (nn : Int)) = false := by simp
    have CK0 := hide (fun (W : World) (x y z : Value) (lo hi p1 q1 p2 q2 p3 q3 : Nat) (h : OC W x y z l r ps lo hi p1 q1 p2 q2 p3 q3) => h.ck wl wr (by omega) wp)
    obtain ⟨M0, hM0⟩ : ∃ M : Int, M = 1 + (l.length : Int) + (r.length : Int) + 2 * (ps.length : Int) := ⟨_, rfl⟩
    have HM0 := hide (fun (W : World) (x y z : Value) (lo hi p1 q1 p2 q2 p3 q3 : Nat) (h : OC W x y z l r ps lo hi p1 q1 p2 q2 p3 q3) => show Calls Try.prog 19 #[.agg #[x, y, z], .int .i64 1] W (RetMC W x y z lo hi p1 q1 p2 q2 p3 q3 M0 (mkI 1 l.length) (mkI (1 + l.length) r.length) (mkP (1 + l.length + r.length) ps.length)) by rw [hM0]; exact markCracker_oc x y z l r ps lo hi p1 q1 p2 q2 p3 q3 1 W h (by omega) (by omega))
    have hK : decide (M0 < 0) = false := by simp; omega
    obtain ⟨M, hM⟩ : ∃ M : Int, M = 1 + (nl.length : Int) + (nr.length : Int) + 2 * (np.length : Int) := ⟨_, rfl⟩
    have HMk := hide (fun (W : World) (x y z : Value) (lo hi p1 q1 p2 q2 p3 q3 : Nat) (h : OC W x y z nl nr np lo hi p1 q1 p2 q2 p3 q3) => show Calls Try.prog 19 #[.agg #[x, y, z], .int .i64 1] W (RetMC W x y z lo hi p1 q1 p2 q2 p3 q3 M (mkI 1 nl.length) (mkI (1 + nl.length) nr.length) (mkP (1 + nl.length + nr.length) np.length)) by rw [hM]; exact markCracker_oc x y z nl nr np lo hi p1 q1 p2 q2 p3 q3 1 W h (by omega) (by omega))
    have HHd := hide (fun (W : World) (x y z : Value) (lo hi p1 q1 p2 q2 p3 q3 : Nat) (h : OC W x y z (mkI 1 nl.length) (mkI (1 + nl.length) nr.length) (mkP (1 + nl.length + nr.length) np.length) lo hi p1 q1 p2 q2 p3 q3) => show Calls Try.prog 20 #[.agg #[x, y, z], .int .i64 1] W (RetI1 W M) by rw [hM]; exact heldCracker_oc x y z nl.length nr.length np.length lo hi p1 q1 p2 q2 p3 q3 1 W h (by omega) (by omega))
    have hMn : decide (M < 0) = false := by simp; omega
    have hMM : (M != M) = false := by simp
    have hT : (t != t) = false := by simp
    clear hM0 hM hn1 hn2 hn3 hn4 hn5 hn6 wl wr wpl wp hpv hpa
    go_enter Try.func4, Try.ntmps4
    have c00 : wC.cell? ⟨w.heap.size, 0, none⟩ = some (.slice a1 l.length c1) := X.out.cell 0 0 rfl rfl
    have c01 : wC.cell? ⟨w.heap.size, 1, none⟩ = some (.slice a2 r.length c2) := X.out.cell 0 1 rfl rfl
    have c02 : wC.cell? ⟨w.heap.size, 2, none⟩ = some (.slice a3 ps.length c3) := X.out.cell 0 2 rfl rfl
    rw [hwC] at c00 c01 c02
    go_wp2_with fail
    rw [← hwC]
    clear hwC c00 c01 c02
    go_at_call 21
    refine (hsz.out _ X.out.below).mono ?_
    rintro e w1 ⟨rfl, hb⟩
    have X := hide (X.out.up hb)
    have N1 := hide hb.size
    clear hb
    have c00 : w1.cell? ⟨w.heap.size, 0, none⟩ = some (.slice a1 l.length c1) := X.out.cell 0 0 rfl rfl
    have c01 : w1.cell? ⟨w.heap.size, 1, none⟩ = some (.slice a2 r.length c2) := X.out.cell 0 1 rfl rfl
    have c02 : w1.cell? ⟨w.heap.size, 2, none⟩ = some (.slice a3 ps.length c3) := X.out.cell 0 2 rfl rfl
    have c10 : w1.cell? ⟨w.heap.size + 1, 0, none⟩ = some (.int .i64 pv) := X.out.cell 1 0 rfl rfl
    have c11 : w1.cell? ⟨w.heap.size + 1, 1, none⟩ = some (.int .i64 pa) := X.out.cell 1 1 rfl rfl
    go_upto_region 5 with fail
    have X1 := X
    go_cut [6, 7, 8] (fun s b0 b1 wx => ∃ (W' : World) (g k1 k2 k3 lo hi p1 q1 p2 q2 p3 q3 : Nat) (g1 g2 g3 : Option Addr), W' = wx ∧ s = .pointer (some ⟨g, 0, none⟩) ∧ b0 = .int .i64 (nn : Int) ∧ b1 = .bool t ∧ Hid (Kn w1 wx [(g, #[.slice (g1 : Option Addr) nl.length k1, .slice g2 nr.length k2, .slice g3 np.length k3], 27)]) ∧ Hid (OC wx (.slice g1 nl.length k1) (.slice g2 nr.length k2) (.slice g3 np.length k3) nl nr np lo hi p1 q1 p2 q2 p3 q3) ∧ Hid (w1.heap.size ≤ lo) ∧ Hid (hi ≤ wx.heap.size) ∧ Hid (g < lo ∨ hi ≤ g))
    case first =>
      clear X T HM0 hK HMk HHd hMn hMM hT hTnn CK  N0 N1 HIP CK0
      have KS := hide (fun (w' : World) (M : List (Nat × Array Value × TypeId)) (h : Kn w1 w' M) => show w'.cell? ⟨w.heap.size, 0, none⟩ = some (.slice a1 l.length c1) ∧ w'.cell? ⟨w.heap.size, 1, none⟩ = some (.slice a2 r.length c2) ∧ w'.cell? ⟨w.heap.size, 2, none⟩ = some (.slice a3 ps.length c3) ∧ w'.cell? ⟨w.heap.size + 1, 0, none⟩ = some (.int .i64 pv) ∧ w'.cell? ⟨w.heap.size + 1, 1, none⟩ = some (.int .i64 pa) from ⟨(Kn.join X1.out h).cell 0 0 rfl rfl, (Kn.join X1.out h).cell 0 1 rfl rfl, (Kn.join X1.out h).cell 0 2 rfl rfl, (Kn.join X1.out h).cell 1 0 rfl rfl, (Kn.join X1.out h).cell 1 1 rfl rfl⟩)
      have KB := hide (fun (w' : World) (M : List (Nat × Array Value × TypeId)) (h : Kn w1 w' M) => (Kn.join X1.out h).below)
      have Y0 := hide (Kn.start w1)
      have Y := hide (Y0.out.drew)
      clear X1 c00 c01 c02 c10 c11
      obtain ⟨c00, c01, c02, c10, c11⟩ := KS.out _ _ Y.out
      go_region_held3 (fun w' => w'.cell? ⟨w.heap.size, 0, none⟩ = some (.slice a1 l.length c1) ∧ w'.cell? ⟨w.heap.size, 1, none⟩ = some (.slice a2 r.length c2) ∧ w'.cell? ⟨w.heap.size, 2, none⟩ = some (.slice a3 ps.length c3) ∧ w'.cell? ⟨w.heap.size + 1, 0, none⟩ = some (.int .i64 pv) ∧ w'.cell? ⟨w.heap.size + 1, 1, none⟩ = some (.int .i64 pa)) (first | with_reducible exact KS.out _ _ Y.out | with_reducible exact KS.out _ _ (Y.out.alloc _ _) | with_reducible exact KS.out _ _ (Y0.out.alloc _ _).drew | with_reducible exact KS.out _ _ (Kn.put3s Y.out _ _ _) | go_keep) (first
        | (go_at_call 23; refine (TA.out _ (by first | with_reducible exact KB.out _ _ Y.out | with_reducible exact KB.out _ _ (Y.out.alloc _ _) | with_reducible exact KB.out _ _ (Y0.out.alloc _ _).drew)).mono ?_; rintro e wq ⟨uA1, vA1, uA2, vA2, uA3, vA3, rfl, IA, hb⟩; replace IA := hide IA; clear c00 c01 c02 c10 c11; (first | replace Y := hide (by with_reducible exact Y.out.up hb) | replace Y := hide (by with_reducible exact Y.out.upA hb) | replace Y := hide (by with_reducible exact Y0.out.upD hb)); obtain ⟨c00, c01, c02, c10, c11⟩ := KS.out _ _ Y.out; (first | clear e0 e1 e2 f0 f1 f2 f3 | skip); (first | (have e0 := Y.out.cell 0 0 rfl rfl; have e1 := Y.out.cell 0 1 rfl rfl; have e2 := Y.out.cell 0 2 rfl rfl; have f0 := Y.out.free 0 0 rfl; have f1 := Y.out.free 0 1 rfl; have f2 := Y.out.free 0 2 rfl; have f3 := Y.out.lt 0 rfl) | skip); clear hb)
        | (go_at_call 24; refine (toItem_any pv pa _).mono ?_; rintro e wq ⟨rfl, hb⟩; (first | replace IA := hide (by with_reducible exact IA.out.up hb) | replace IA := hide (by with_reducible exact IA.out.up (below_upA hb)) | replace IA := hide (by with_reducible exact IA.out.up (below_upD hb))); clear c00 c01 c02 c10 c11; (first | replace Y := hide (by with_reducible exact Y.out.up hb) | replace Y := hide (by with_reducible exact Y.out.upA hb) | replace Y := hide (by with_reducible exact Y0.out.upD hb)); obtain ⟨c00, c01, c02, c10, c11⟩ := KS.out _ _ Y.out; (first | clear e0 e1 e2 f0 f1 f2 f3 | skip); (first | (have e0 := Y.out.cell 0 0 rfl rfl; have e1 := Y.out.cell 0 1 rfl rfl; have e2 := Y.out.cell 0 2 rfl rfl; have f0 := Y.out.free 0 0 rfl; have f1 := Y.out.free 0 1 rfl; have f2 := Y.out.free 0 2 rfl; have f3 := Y.out.lt 0 rfl) | skip); clear hb)
        | (go_at_call 22; refine (HSP.out _ _ (by first | with_reducible exact IA.out | with_reducible exact IA.out.up (below1 _ _) | with_reducible exact IA.out.up (below1 _ _).drew)).mono ?_; rintro e wq ⟨x, y, z, loA, hiA, pA1, qA1, pA2, qA2, pA3, qA3, rfl, hlo, hhi, CA, hb⟩; obtain ⟨gA1, kA1, rfl⟩ := CA.x.form; obtain ⟨gA2, kA2, rfl⟩ := CA.y.form; obtain ⟨gA3, kA3, rfl⟩ := CA.z.own.form; have HAl := hide (Nat.le_trans (by first | with_reducible exact Y.out.below.size | with_reducible exact (Y.out.alloc _ _).below.size | with_reducible exact (Y0.out.alloc _ _).drew.below.size) hlo); have HAh := hide hhi; replace CA := hide CA; (first | (have hG := hide (by with_reducible exact Nat.lt_of_lt_of_le f3 hlo)) | (have hG := hide (by with_reducible exact lt_alloc hlo)) | skip); clear c00 c01 c02 c10 c11; (first | replace Y := hide (by with_reducible exact Y.out.up hb) | replace Y := hide (by with_reducible exact Y.out.upA hb) | replace Y := hide (by with_reducible exact Y0.out.upD hb)); obtain ⟨c00, c01, c02, c10, c11⟩ := KS.out _ _ Y.out; (first | clear e0 e1 e2 f0 f1 f2 f3 | skip); (first | (have e0 := Y.out.cell 0 0 rfl rfl; have e1 := Y.out.cell 0 1 rfl rfl; have e2 := Y.out.cell 0 2 rfl rfl; have f0 := Y.out.free 0 0 rfl; have f1 := Y.out.free 0 1 rfl; have f2 := Y.out.free 0 2 rfl; have f3 := Y.out.lt 0 rfl) | skip); clear hlo hhi hb))
      all_goals go_wp2_with fail
      all_goals go_meet
      all_goals first | exact ⟨_, _, _, _, _, _, _, _, _, _, _, _, _, _, _, _, rfl, rfl, rfl, rfl, Y.out.alloc _ _, CA.out.below (below1 _ _), HAl, le_al CA.out.top.2, .inr CA.out.top.2⟩ | exact ⟨_, _, _, _, _, _, _, _, _, _, _, _, _, _, _, _, rfl, rfl, rfl, rfl, Kn.put3s Y.out _ _ _, CA.out.seg (seg3 _ _ _ _ _) (.inr hG.out), HAl, le_s3 CA.out.top.2, .inl hG.out⟩
    case rest =>
    obtain ⟨w2, gA, kA1, kA2, kA3, loA, hiA, pA1, qA1, pA2, qA2, pA3, qA3, gA1, gA2, gA3, rfl, rfl, rfl, rfl, Y, CA, HAl, HAh, NAg⟩ := hcut
    have hbY := Y.out.below
    have NQA := hide hbY.size
    have NLA := hide (Y.out.low 0 rfl)
    have NTA := hide (Y.out.lt 0 rfl)
    have X := hide (Kn.join X1.out Y.out)
    simp only [List.cons_append, List.nil_append] at X
    clear hbY Y X1 c00 c01 c02 c10 c11
    have c00 : w2.cell? ⟨w.heap.size, 0, none⟩ = some (.slice a1 l.length c1) := X.out.cell 0 0 rfl rfl
    have c01 : w2.cell? ⟨w.heap.size, 1, none⟩ = some (.slice a2 r.length c2) := X.out.cell 0 1 rfl rfl
    have c02 : w2.cell? ⟨w.heap.size, 2, none⟩ = some (.slice a3 ps.length c3) := X.out.cell 0 2 rfl rfl
    have c10 : w2.cell? ⟨w.heap.size + 1, 0, none⟩ = some (.int .i64 pv) := X.out.cell 1 0 rfl rfl
    have c11 : w2.cell? ⟨w.heap.size + 1, 1, none⟩ = some (.int .i64 pa) := X.out.cell 1 1 rfl rfl
    have c20 : w2.cell? ⟨gA, 0, none⟩ = some (.slice gA1 nl.length kA1) := X.out.cell 2 0 rfl rfl
    have c21 : w2.cell? ⟨gA, 1, none⟩ = some (.slice gA2 nr.length kA2) := X.out.cell 2 1 rfl rfl
    have c22 : w2.cell? ⟨gA, 2, none⟩ = some (.slice gA3 np.length kA3) := X.out.cell 2 2 rfl rfl
    go_wp2_with fail
    clear c00 c01 c02 c10 c11 c20 c21 c22
    go_at_call 23
    refine (T.out _ X.out.below).mono ?_
    rintro e w3 ⟨vx, lox, rfl, hlo, OX, hb⟩
    obtain ⟨x, y, z, m1, m2, rfl, ox1, ox2, ox3⟩ := OX
    have CX := OC.of_ock ox1 ox2 ox3
    obtain ⟨gX1, kX1, rfl⟩ := CX.x.form
    obtain ⟨gX2, kX2, rfl⟩ := CX.y.form
    obtain ⟨gX3, kX3, rfl⟩ := CX.z.own.form
    have HXl := hide hlo
    clear hlo ox1 ox2 ox3
    have X := hide (X.out.up hb)
    have CA := hide (CA.out.below hb)
    have N8 := hide hb.size
    clear hb
    have CX := hide CX
    have hbl := below1 w3 (.cells #[.slice gX1 l.length kX1, .slice gX2 r.length kX2, .slice gX3 ps.length kX3] 27)
    have X := hide (X.out.alloc #[.slice gX1 l.length kX1, .slice gX2 r.length kX2, .slice gX3 ps.length kX3] 27)
    have CA := hide (CA.out.below hbl)
    have CX := hide (CX.out.below hbl)
    clear hbl
    obtain ⟨w4, hw4⟩ : ∃ q, q = w3.alloc (.cells #[.slice gX1 l.length kX1, .slice gX2 r.length kX2, .slice gX3 ps.length kX3] 27) := ⟨_, rfl⟩
    obtain ⟨b3, hb3⟩ : ∃ q, q = w3.heap.size := ⟨_, rfl⟩
    have N10 := hide (show b3 = w3.heap.size ∧ w4.heap.size = w3.heap.size + 1 by rw [hw4, hb3]; simp)
    rw [← hw4] at X CA CX
    rw [← hb3] at X
    simp only [List.cons_append, List.nil_append] at X
    have c00 : w4.cell? ⟨w.heap.size, 0, none⟩ = some (.slice a1 l.length c1) := X.out.cell 0 0 rfl rfl
    have c01 : w4.cell? ⟨w.heap.size, 1, none⟩ = some (.slice a2 r.length c2) := X.out.cell 0 1 rfl rfl
    have c02 : w4.cell? ⟨w.heap.size, 2, none⟩ = some (.slice a3 ps.length c3) := X.out.cell 0 2 rfl rfl
    have c10 : w4.cell? ⟨w.heap.size + 1, 0, none⟩ = some (.int .i64 pv) := X.out.cell 1 0 rfl rfl
    have c11 : w4.cell? ⟨w.heap.size + 1, 1, none⟩ = some (.int .i64 pa) := X.out.cell 1 1 rfl rfl
    have c20 : w4.cell? ⟨gA, 0, none⟩ = some (.slice gA1 nl.length kA1) := X.out.cell 2 0 rfl rfl
    have c21 : w4.cell? ⟨gA, 1, none⟩ = some (.slice gA2 nr.length kA2) := X.out.cell 2 1 rfl rfl
    have c22 : w4.cell? ⟨gA, 2, none⟩ = some (.slice gA3 np.length kA3) := X.out.cell 2 2 rfl rfl
    have c30 : w4.cell? ⟨b3, 0, none⟩ = some (.slice gX1 l.length kX1) := X.out.cell 3 0 rfl rfl
    have c31 : w4.cell? ⟨b3, 1, none⟩ = some (.slice gX2 r.length kX2) := X.out.cell 3 1 rfl rfl
    have c32 : w4.cell? ⟨b3, 2, none⟩ = some (.slice gX3 ps.length kX3) := X.out.cell 3 2 rfl rfl
    rw [hw4] at c00 c01 c02 c10 c11 c20 c21 c22 c30 c31 c32
    go_upto_region 7 with fail
    rw [← hw4]
    try rw [← hb3]
    rw [← hw4] at c00 c01 c02 c10 c11 c20 c21 c22 c30 c31 c32
    clear hw4 hb3
    have X1 := X
    go_cut [10, 11, 12] (fun s b0 b1 wx => ∃ (W' : World) (g k1 k2 k3 lo hi p1 q1 p2 q2 p3 q3 : Nat) (g1 g2 g3 : Option Addr), W' = wx ∧ s = .pointer (some ⟨g, 0, none⟩) ∧ b0 = .int .i64 (nn : Int) ∧ b1 = .bool t ∧ Hid (Kn w4 wx [(g, #[.slice (g1 : Option Addr) nl.length k1, .slice g2 nr.length k2, .slice g3 np.length k3], 27)]) ∧ Hid (OC wx (.slice g1 nl.length k1) (.slice g2 nr.length k2) (.slice g3 np.length k3) nl nr np lo hi p1 q1 p2 q2 p3 q3) ∧ Hid (w4.heap.size ≤ lo) ∧ Hid (hi ≤ wx.heap.size) ∧ Hid (g < lo ∨ hi ≤ g))
    case first =>
      clear X T HM0 hK HMk HHd hMn hMM hT hTnn CK CA N0 N1 NQA NLA NTA HAl HAh NAg N8 HXl N10 HSP TA
      have KS := hide (fun (w' : World) (M : List (Nat × Array Value × TypeId)) (h : Kn w4 w' M) => show w'.cell? ⟨w.heap.size, 0, none⟩ = some (.slice a1 l.length c1) ∧ w'.cell? ⟨w.heap.size, 1, none⟩ = some (.slice a2 r.length c2) ∧ w'.cell? ⟨w.heap.size, 2, none⟩ = some (.slice a3 ps.length c3) ∧ w'.cell? ⟨w.heap.size + 1, 0, none⟩ = some (.int .i64 pv) ∧ w'.cell? ⟨w.heap.size + 1, 1, none⟩ = some (.int .i64 pa) ∧ w'.cell? ⟨b3, 0, none⟩ = some (.slice gX1 l.length kX1) ∧ w'.cell? ⟨b3, 1, none⟩ = some (.slice gX2 r.length kX2) ∧ w'.cell? ⟨b3, 2, none⟩ = some (.slice gX3 ps.length kX3) from ⟨(Kn.join X1.out h).cell 0 0 rfl rfl, (Kn.join X1.out h).cell 0 1 rfl rfl, (Kn.join X1.out h).cell 0 2 rfl rfl, (Kn.join X1.out h).cell 1 0 rfl rfl, (Kn.join X1.out h).cell 1 1 rfl rfl, (Kn.join X1.out h).cell 3 0 rfl rfl, (Kn.join X1.out h).cell 3 1 rfl rfl, (Kn.join X1.out h).cell 3 2 rfl rfl⟩)
      have KB := hide (fun (w' : World) (M : List (Nat × Array Value × TypeId)) (h : Kn w4 w' M) => (Kn.join X1.out h).below)
      have Y0 := hide (Kn.start w4)
      have Y := hide (Y0.out.drew)
      clear X1 c00 c01 c02 c10 c11 c20 c21 c22 c30 c31 c32
      obtain ⟨c00, c01, c02, c10, c11, c30, c31, c32⟩ := KS.out _ _ Y.out
      go_region_held3 (fun w' => w'.cell? ⟨w.heap.size, 0, none⟩ = some (.slice a1 l.length c1) ∧ w'.cell? ⟨w.heap.size, 1, none⟩ = some (.slice a2 r.length c2) ∧ w'.cell? ⟨w.heap.size, 2, none⟩ = some (.slice a3 ps.length c3) ∧ w'.cell? ⟨w.heap.size + 1, 0, none⟩ = some (.int .i64 pv) ∧ w'.cell? ⟨w.heap.size + 1, 1, none⟩ = some (.int .i64 pa) ∧ w'.cell? ⟨b3, 0, none⟩ = some (.slice gX1 l.length kX1) ∧ w'.cell? ⟨b3, 1, none⟩ = some (.slice gX2 r.length kX2) ∧ w'.cell? ⟨b3, 2, none⟩ = some (.slice gX3 ps.length kX3)) (first | with_reducible exact KS.out _ _ Y.out | with_reducible exact KS.out _ _ (Y.out.alloc _ _) | with_reducible exact KS.out _ _ (Y0.out.alloc _ _).drew | with_reducible exact KS.out _ _ (Kn.put3s Y.out _ _ _) | go_keep) (first
        | (go_at_call 24; refine (toItem_any pv pa _).mono ?_; rintro e wq ⟨rfl, hb⟩; clear c00 c01 c02 c10 c11 c30 c31 c32; (first | replace Y := hide (by with_reducible exact Y.out.up hb) | replace Y := hide (by with_reducible exact Y.out.upA hb) | replace Y := hide (by with_reducible exact Y0.out.upD hb)); obtain ⟨c00, c01, c02, c10, c11, c30, c31, c32⟩ := KS.out _ _ Y.out; (first | clear e0 e1 e2 f0 f1 f2 f3 | skip); (first | (have e0 := Y.out.cell 0 0 rfl rfl; have e1 := Y.out.cell 0 1 rfl rfl; have e2 := Y.out.cell 0 2 rfl rfl; have f0 := Y.out.free 0 0 rfl; have f1 := Y.out.free 0 1 rfl; have f2 := Y.out.free 0 2 rfl; have f3 := Y.out.lt 0 rfl) | skip); clear hb)
        | (go_at_call 25; refine (HIP.out _ _ (CK0.out _ _ _ _ _ _ _ _ _ _ _ _ (by first | with_reducible exact CX.out.below Y.out.below | with_reducible exact CX.out.below (Y.out.alloc _ _).below | with_reducible exact CX.out.below (Y0.out.alloc _ _).drew.below))).mono ?_; rintro e wq ⟨x, y, z, loG, hiG, pG1, qG1, pG2, qG2, pG3, qG3, rfl, hlo, hhi, CG, hb⟩; obtain ⟨gG1, kG1, rfl⟩ := CG.x.form; obtain ⟨gG2, kG2, rfl⟩ := CG.y.form; obtain ⟨gG3, kG3, rfl⟩ := CG.z.own.form; have HGl := hide (Nat.le_trans (by first | with_reducible exact Y.out.below.size | with_reducible exact (Y.out.alloc _ _).below.size | with_reducible exact (Y0.out.alloc _ _).drew.below.size) hlo); have HGh := hide hhi; replace CG := hide CG; (first | (have hG := hide (by with_reducible exact Nat.lt_of_lt_of_le f3 hlo)) | (have hG := hide (by with_reducible exact lt_alloc hlo)) | skip); clear c00 c01 c02 c10 c11 c30 c31 c32; (first | replace Y := hide (by with_reducible exact Y.out.up hb) | replace Y := hide (by with_reducible exact Y.out.upA hb) | replace Y := hide (by with_reducible exact Y0.out.upD hb)); obtain ⟨c00, c01, c02, c10, c11, c30, c31, c32⟩ := KS.out _ _ Y.out; (first | clear e0 e1 e2 f0 f1 f2 f3 | skip); (first | (have e0 := Y.out.cell 0 0 rfl rfl; have e1 := Y.out.cell 0 1 rfl rfl; have e2 := Y.out.cell 0 2 rfl rfl; have f0 := Y.out.free 0 0 rfl; have f1 := Y.out.free 0 1 rfl; have f2 := Y.out.free 0 2 rfl; have f3 := Y.out.lt 0 rfl) | skip); clear hlo hhi hb))
      all_goals go_wp2_with fail
      all_goals go_meet
      all_goals first | exact ⟨_, _, _, _, _, _, _, _, _, _, _, _, _, _, _, _, rfl, rfl, rfl, rfl, Y.out.alloc _ _, CG.out.below (below1 _ _), HGl, le_al CG.out.top.2, .inr CG.out.top.2⟩ | exact ⟨_, _, _, _, _, _, _, _, _, _, _, _, _, _, _, _, rfl, rfl, rfl, rfl, Kn.put3s Y.out _ _ _, CG.out.seg (seg3 _ _ _ _ _) (.inr hG.out), HGl, le_s3 CG.out.top.2, .inl hG.out⟩
    case rest =>
    obtain ⟨w5, gG, kG1, kG2, kG3, loG, hiG, pG1, qG1, pG2, qG2, pG3, qG3, gG1, gG2, gG3, rfl, rfl, rfl, rfl, Y, CG, HGl, HGh, NGg⟩ := hcut
    have hbY := Y.out.below
    have CA := hide (CA.out.below hbY)
    have CX := hide (CX.out.below hbY)
    have NQG := hide hbY.size
    have NLG := hide (Y.out.low 0 rfl)
    have NTG := hide (Y.out.lt 0 rfl)
    have X := hide (Kn.join X1.out Y.out)
    simp only [List.cons_append, List.nil_append] at X
    clear hbY Y X1 c00 c01 c02 c10 c11 c20 c21 c22 c30 c31 c32
    have c00 : w5.cell? ⟨w.heap.size, 0, none⟩ = some (.slice a1 l.length c1) := X.out.cell 0 0 rfl rfl
    have c01 : w5.cell? ⟨w.heap.size, 1, none⟩ = some (.slice a2 r.length c2) := X.out.cell 0 1 rfl rfl
    have c02 : w5.cell? ⟨w.heap.size, 2, none⟩ = some (.slice a3 ps.length c3) := X.out.cell 0 2 rfl rfl
    have c10 : w5.cell? ⟨w.heap.size + 1, 0, none⟩ = some (.int .i64 pv) := X.out.cell 1 0 rfl rfl
    have c11 : w5.cell? ⟨w.heap.size + 1, 1, none⟩ = some (.int .i64 pa) := X.out.cell 1 1 rfl rfl
    have c20 : w5.cell? ⟨gA, 0, none⟩ = some (.slice gA1 nl.length kA1) := X.out.cell 2 0 rfl rfl
    have c21 : w5.cell? ⟨gA, 1, none⟩ = some (.slice gA2 nr.length kA2) := X.out.cell 2 1 rfl rfl
    have c22 : w5.cell? ⟨gA, 2, none⟩ = some (.slice gA3 np.length kA3) := X.out.cell 2 2 rfl rfl
    have c30 : w5.cell? ⟨b3, 0, none⟩ = some (.slice gX1 l.length kX1) := X.out.cell 3 0 rfl rfl
    have c31 : w5.cell? ⟨b3, 1, none⟩ = some (.slice gX2 r.length kX2) := X.out.cell 3 1 rfl rfl
    have c32 : w5.cell? ⟨b3, 2, none⟩ = some (.slice gX3 ps.length kX3) := X.out.cell 3 2 rfl rfl
    have c40 : w5.cell? ⟨gG, 0, none⟩ = some (.slice gG1 nl.length kG1) := X.out.cell 4 0 rfl rfl
    have c41 : w5.cell? ⟨gG, 1, none⟩ = some (.slice gG2 nr.length kG2) := X.out.cell 4 1 rfl rfl
    have c42 : w5.cell? ⟨gG, 2, none⟩ = some (.slice gG3 np.length kG3) := X.out.cell 4 2 rfl rfl
    go_wp2_with fail
    clear c00 c01 c02 c10 c11 c20 c21 c22 c30 c31 c32 c40 c41 c42
    go_at_call 14
    refine (eqCracker_same _ _ nl nr np _ _ (Nat.le_refl _) (CK.out _ _ _ _ _ _ _ _ _ _ _ _ CG.out) (CK.out _ _ _ _ _ _ _ _ _ _ _ _ CA.out)).mono ?_
    rintro e w6 ⟨rfl, hb⟩
    have X := hide (X.out.up hb)
    have CA := hide (CA.out.below hb)
    have CX := hide (CX.out.below hb)
    have CG := hide (CG.out.below hb)
    have N17 := hide hb.size
    clear hb
    have c00 : w6.cell? ⟨w.heap.size, 0, none⟩ = some (.slice a1 l.length c1) := X.out.cell 0 0 rfl rfl
    have c01 : w6.cell? ⟨w.heap.size, 1, none⟩ = some (.slice a2 r.length c2) := X.out.cell 0 1 rfl rfl
    have c02 : w6.cell? ⟨w.heap.size, 2, none⟩ = some (.slice a3 ps.length c3) := X.out.cell 0 2 rfl rfl
    have c10 : w6.cell? ⟨w.heap.size + 1, 0, none⟩ = some (.int .i64 pv) := X.out.cell 1 0 rfl rfl
    have c11 : w6.cell? ⟨w.heap.size + 1, 1, none⟩ = some (.int .i64 pa) := X.out.cell 1 1 rfl rfl
    have c20 : w6.cell? ⟨gA, 0, none⟩ = some (.slice gA1 nl.length kA1) := X.out.cell 2 0 rfl rfl
    have c21 : w6.cell? ⟨gA, 1, none⟩ = some (.slice gA2 nr.length kA2) := X.out.cell 2 1 rfl rfl
    have c22 : w6.cell? ⟨gA, 2, none⟩ = some (.slice gA3 np.length kA3) := X.out.cell 2 2 rfl rfl
    have c30 : w6.cell? ⟨b3, 0, none⟩ = some (.slice gX1 l.length kX1) := X.out.cell 3 0 rfl rfl
    have c31 : w6.cell? ⟨b3, 1, none⟩ = some (.slice gX2 r.length kX2) := X.out.cell 3 1 rfl rfl
    have c32 : w6.cell? ⟨b3, 2, none⟩ = some (.slice gX3 ps.length kX3) := X.out.cell 3 2 rfl rfl
    have c40 : w6.cell? ⟨gG, 0, none⟩ = some (.slice gG1 nl.length kG1) := X.out.cell 4 0 rfl rfl
    have c41 : w6.cell? ⟨gG, 1, none⟩ = some (.slice gG2 nr.length kG2) := X.out.cell 4 1 rfl rfl
    have c42 : w6.cell? ⟨gG, 2, none⟩ = some (.slice gG3 np.length kG3) := X.out.cell 4 2 rfl rfl
    go_wp2_with fail
    have X := hide X.out.drew
    have CA := hide (CA.out.below (Below.refl _ _).drew)
    have CX := hide (CX.out.below (Below.refl _ _).drew)
    have CG := hide (CG.out.below (Below.refl _ _).drew)
    have NQ := hide True.intro
    go_region_held3 (fun w' => w'.cell? ⟨w.heap.size, 0, none⟩ = some (.slice a1 l.length c1) ∧ w'.cell? ⟨w.heap.size, 1, none⟩ = some (.slice a2 r.length c2) ∧ w'.cell? ⟨w.heap.size, 2, none⟩ = some (.slice a3 ps.length c3) ∧ w'.cell? ⟨b3, 0, none⟩ = some (.slice gX1 l.length kX1) ∧ w'.cell? ⟨b3, 1, none⟩ = some (.slice gX2 r.length kX2) ∧ w'.cell? ⟨b3, 2, none⟩ = some (.slice gX3 ps.length kX3)) (first | exact ⟨c00, c01, c02, c30, c31, c32⟩ | go_keep) (first
      | (go_at_call 23; refine (TA.out _ X.out.below).mono ?_; rintro e wq ⟨ub1, vb1, ub2, vb2, ub3, vb3, rfl, Ib, hb⟩; have NQ := hide hb.size; have X := hide (X.out.up hb); have CA := hide (CA.out.below hb); have CX := hide (CX.out.below hb); have CG := hide (CG.out.below hb); have c00 : wq.cell? ⟨w.heap.size, 0, none⟩ = some (.slice a1 l.length c1) := X.out.cell 0 0 rfl rfl; have c01 : wq.cell? ⟨w.heap.size, 1, none⟩ = some (.slice a2 r.length c2) := X.out.cell 0 1 rfl rfl; have c02 : wq.cell? ⟨w.heap.size, 2, none⟩ = some (.slice a3 ps.length c3) := X.out.cell 0 2 rfl rfl; have c30 : wq.cell? ⟨b3, 0, none⟩ = some (.slice gX1 l.length kX1) := X.out.cell 3 0 rfl rfl; have c31 : wq.cell? ⟨b3, 1, none⟩ = some (.slice gX2 r.length kX2) := X.out.cell 3 1 rfl rfl; have c32 : wq.cell? ⟨b3, 2, none⟩ = some (.slice gX3 ps.length kX3) := X.out.cell 3 2 rfl rfl)
      | (go_at_call 14; refine (eqCracker_same _ _ l r ps _ _ (Nat.le_refl _) (CK0.out _ _ _ _ _ _ _ _ _ _ _ _ CX.out) Ib).mono ?_; rintro e wq ⟨rfl, hb⟩; have NR := hide (Nat.le_trans NQ.out hb.size); have X := hide (X.out.up hb); have CA := hide (CA.out.below hb); have CX := hide (CX.out.below hb); have CG := hide (CG.out.below hb); have c00 : wq.cell? ⟨w.heap.size, 0, none⟩ = some (.slice a1 l.length c1) := X.out.cell 0 0 rfl rfl; have c01 : wq.cell? ⟨w.heap.size, 1, none⟩ = some (.slice a2 r.length c2) := X.out.cell 0 1 rfl rfl; have c02 : wq.cell? ⟨w.heap.size, 2, none⟩ = some (.slice a3 ps.length c3) := X.out.cell 0 2 rfl rfl; have c30 : wq.cell? ⟨b3, 0, none⟩ = some (.slice gX1 l.length kX1) := X.out.cell 3 0 rfl rfl; have c31 : wq.cell? ⟨b3, 1, none⟩ = some (.slice gX2 r.length kX2) := X.out.cell 3 1 rfl rfl; have c32 : wq.cell? ⟨b3, 2, none⟩ = some (.slice gX3 ps.length kX3) := X.out.cell 3 2 rfl rfl))
    have c00 : wq.cell? ⟨w.heap.size, 0, none⟩ = some (.slice a1 l.length c1) := X.out.cell 0 0 rfl rfl
    have c01 : wq.cell? ⟨w.heap.size, 1, none⟩ = some (.slice a2 r.length c2) := X.out.cell 0 1 rfl rfl
    have c02 : wq.cell? ⟨w.heap.size, 2, none⟩ = some (.slice a3 ps.length c3) := X.out.cell 0 2 rfl rfl
    have c10 : wq.cell? ⟨w.heap.size + 1, 0, none⟩ = some (.int .i64 pv) := X.out.cell 1 0 rfl rfl
    have c11 : wq.cell? ⟨w.heap.size + 1, 1, none⟩ = some (.int .i64 pa) := X.out.cell 1 1 rfl rfl
    have c20 : wq.cell? ⟨gA, 0, none⟩ = some (.slice gA1 nl.length kA1) := X.out.cell 2 0 rfl rfl
    have c21 : wq.cell? ⟨gA, 1, none⟩ = some (.slice gA2 nr.length kA2) := X.out.cell 2 1 rfl rfl
    have c22 : wq.cell? ⟨gA, 2, none⟩ = some (.slice gA3 np.length kA3) := X.out.cell 2 2 rfl rfl
    have c30 : wq.cell? ⟨b3, 0, none⟩ = some (.slice gX1 l.length kX1) := X.out.cell 3 0 rfl rfl
    have c31 : wq.cell? ⟨b3, 1, none⟩ = some (.slice gX2 r.length kX2) := X.out.cell 3 1 rfl rfl
    have c32 : wq.cell? ⟨b3, 2, none⟩ = some (.slice gX3 ps.length kX3) := X.out.cell 3 2 rfl rfl
    have c40 : wq.cell? ⟨gG, 0, none⟩ = some (.slice gG1 nl.length kG1) := X.out.cell 4 0 rfl rfl
    have c41 : wq.cell? ⟨gG, 1, none⟩ = some (.slice gG2 nr.length kG2) := X.out.cell 4 1 rfl rfl
    have c42 : wq.cell? ⟨gG, 2, none⟩ = some (.slice gG3 np.length kG3) := X.out.cell 4 2 rfl rfl
    go_wp2_with fail
    clear c00 c01 c02 c10 c11 c20 c21 c22 c30 c31 c32 c40 c41 c42
    go_at_call 19
    refine (HM0.out _ _ _ _ _ _ _ _ _ _ _ _ CX.out).mono ?_
    rintro e w7 ⟨rfl, -, s⟩
    have qN0 := N0.out
    have qN1 := N1.out
    have qNQA := NQA.out
    have qNLA := NLA.out
    have qNTA := NTA.out
    have qHAl := HAl.out
    have qHAh := HAh.out
    have qNAg := NAg.out
    have qN8 := N8.out
    have qHXl := HXl.out
    have qN10 := N10.out
    have qNQG := NQG.out
    have qNLG := NLG.out
    have qNTG := NTG.out
    have qHGl := HGl.out
    have qHGh := HGh.out
    have qNGg := NGg.out
    have qN17 := N17.out
    have qNR := NR.out
    have tCA := CA.out.top.1
    have tCG := CG.out.top.1
    have tCX := CX.out.top.1
    have X := hide (X.out.seg s (by omega) (by simp; omega))
    have CA := hide (CA.out.seg s (by omega))
    have CG := hide (CG.out.seg s (by omega))
    have N19 := hide s.below.size
    clear s qN0 qN1 qNQA qNLA qNTA qHAl qHAh qNAg qN8 qHXl qN10 qNQG qNLG qNTG qHGl qHGh qNGg qN17 qNR tCA tCX tCG
    clear CX
    have c00 : w7.cell? ⟨w.heap.size, 0, none⟩ = some (.slice a1 l.length c1) := X.out.cell 0 0 rfl rfl
    have c01 : w7.cell? ⟨w.heap.size, 1, none⟩ = some (.slice a2 r.length c2) := X.out.cell 0 1 rfl rfl
    have c02 : w7.cell? ⟨w.heap.size, 2, none⟩ = some (.slice a3 ps.length c3) := X.out.cell 0 2 rfl rfl
    have c10 : w7.cell? ⟨w.heap.size + 1, 0, none⟩ = some (.int .i64 pv) := X.out.cell 1 0 rfl rfl
    have c11 : w7.cell? ⟨w.heap.size + 1, 1, none⟩ = some (.int .i64 pa) := X.out.cell 1 1 rfl rfl
    have c20 : w7.cell? ⟨gA, 0, none⟩ = some (.slice gA1 nl.length kA1) := X.out.cell 2 0 rfl rfl
    have c21 : w7.cell? ⟨gA, 1, none⟩ = some (.slice gA2 nr.length kA2) := X.out.cell 2 1 rfl rfl
    have c22 : w7.cell? ⟨gA, 2, none⟩ = some (.slice gA3 np.length kA3) := X.out.cell 2 2 rfl rfl
    have c30 : w7.cell? ⟨b3, 0, none⟩ = some (.slice gX1 l.length kX1) := X.out.cell 3 0 rfl rfl
    have c31 : w7.cell? ⟨b3, 1, none⟩ = some (.slice gX2 r.length kX2) := X.out.cell 3 1 rfl rfl
    have c32 : w7.cell? ⟨b3, 2, none⟩ = some (.slice gX3 ps.length kX3) := X.out.cell 3 2 rfl rfl
    have c40 : w7.cell? ⟨gG, 0, none⟩ = some (.slice gG1 nl.length kG1) := X.out.cell 4 0 rfl rfl
    have c41 : w7.cell? ⟨gG, 1, none⟩ = some (.slice gG2 nr.length kG2) := X.out.cell 4 1 rfl rfl
    have c42 : w7.cell? ⟨gG, 2, none⟩ = some (.slice gG3 np.length kG3) := X.out.cell 4 2 rfl rfl
    go_wp2_with fail
    clear c00 c01 c02 c10 c11 c20 c21 c22 c30 c31 c32 c40 c41 c42
    go_at_call 14
    refine (eqCracker_same _ _ nl nr np _ _ (Nat.le_refl _) (CK.out _ _ _ _ _ _ _ _ _ _ _ _ CG.out) (CK.out _ _ _ _ _ _ _ _ _ _ _ _ CA.out)).mono ?_
    rintro e w8 ⟨rfl, hb⟩
    have X := hide (X.out.up hb)
    have CA := hide (CA.out.below hb)
    have CG := hide (CG.out.below hb)
    have N20 := hide hb.size
    clear hb
    have c00 : w8.cell? ⟨w.heap.size, 0, none⟩ = some (.slice a1 l.length c1) := X.out.cell 0 0 rfl rfl
    have c01 : w8.cell? ⟨w.heap.size, 1, none⟩ = some (.slice a2 r.length c2) := X.out.cell 0 1 rfl rfl
    have c02 : w8.cell? ⟨w.heap.size, 2, none⟩ = some (.slice a3 ps.length c3) := X.out.cell 0 2 rfl rfl
    have c10 : w8.cell? ⟨w.heap.size + 1, 0, none⟩ = some (.int .i64 pv) := X.out.cell 1 0 rfl rfl
    have c11 : w8.cell? ⟨w.heap.size + 1, 1, none⟩ = some (.int .i64 pa) := X.out.cell 1 1 rfl rfl
    have c20 : w8.cell? ⟨gA, 0, none⟩ = some (.slice gA1 nl.length kA1) := X.out.cell 2 0 rfl rfl
    have c21 : w8.cell? ⟨gA, 1, none⟩ = some (.slice gA2 nr.length kA2) := X.out.cell 2 1 rfl rfl
    have c22 : w8.cell? ⟨gA, 2, none⟩ = some (.slice gA3 np.length kA3) := X.out.cell 2 2 rfl rfl
    have c30 : w8.cell? ⟨b3, 0, none⟩ = some (.slice gX1 l.length kX1) := X.out.cell 3 0 rfl rfl
    have c31 : w8.cell? ⟨b3, 1, none⟩ = some (.slice gX2 r.length kX2) := X.out.cell 3 1 rfl rfl
    have c32 : w8.cell? ⟨b3, 2, none⟩ = some (.slice gX3 ps.length kX3) := X.out.cell 3 2 rfl rfl
    have c40 : w8.cell? ⟨gG, 0, none⟩ = some (.slice gG1 nl.length kG1) := X.out.cell 4 0 rfl rfl
    have c41 : w8.cell? ⟨gG, 1, none⟩ = some (.slice gG2 nr.length kG2) := X.out.cell 4 1 rfl rfl
    have c42 : w8.cell? ⟨gG, 2, none⟩ = some (.slice gG3 np.length kG3) := X.out.cell 4 2 rfl rfl
    go_wp2_with fail
    clear c00 c01 c02 c10 c11 c20 c21 c22 c30 c31 c32 c40 c41 c42
    go_at_call 19
    refine (HMk.out _ _ _ _ _ _ _ _ _ _ _ _ CG.out).mono ?_
    rintro e w9 ⟨rfl, CG2, s⟩
    have qN0 := N0.out
    have qN1 := N1.out
    have qNQA := NQA.out
    have qNLA := NLA.out
    have qNTA := NTA.out
    have qHAl := HAl.out
    have qHAh := HAh.out
    have qNAg := NAg.out
    have qN8 := N8.out
    have qHXl := HXl.out
    have qN10 := N10.out
    have qNQG := NQG.out
    have qNLG := NLG.out
    have qNTG := NTG.out
    have qHGl := HGl.out
    have qHGh := HGh.out
    have qNGg := NGg.out
    have qN17 := N17.out
    have qNR := NR.out
    have qN19 := N19.out
    have qN20 := N20.out
    have tCA := CA.out.top.1
    have tCG := CG.out.top.1
    have X := hide (X.out.seg s (by omega) (by simp; omega))
    have CA := hide (CA.out.seg s (by omega))
    have N21 := hide s.below.size
    clear s qN0 qN1 qNQA qNLA qNTA qHAl qHAh qNAg qN8 qHXl qN10 qNQG qNLG qNTG qHGl qHGh qNGg qN17 qNR qN19 qN20 tCA tCG
    have CG := hide CG2
    have c00 : w9.cell? ⟨w.heap.size, 0, none⟩ = some (.slice a1 l.length c1) := X.out.cell 0 0 rfl rfl
    have c01 : w9.cell? ⟨w.heap.size, 1, none⟩ = some (.slice a2 r.length c2) := X.out.cell 0 1 rfl rfl
    have c02 : w9.cell? ⟨w.heap.size, 2, none⟩ = some (.slice a3 ps.length c3) := X.out.cell 0 2 rfl rfl
    have c10 : w9.cell? ⟨w.heap.size + 1, 0, none⟩ = some (.int .i64 pv) := X.out.cell 1 0 rfl rfl
    have c11 : w9.cell? ⟨w.heap.size + 1, 1, none⟩ = some (.int .i64 pa) := X.out.cell 1 1 rfl rfl
    have c20 : w9.cell? ⟨gA, 0, none⟩ = some (.slice gA1 nl.length kA1) := X.out.cell 2 0 rfl rfl
    have c21 : w9.cell? ⟨gA, 1, none⟩ = some (.slice gA2 nr.length kA2) := X.out.cell 2 1 rfl rfl
    have c22 : w9.cell? ⟨gA, 2, none⟩ = some (.slice gA3 np.length kA3) := X.out.cell 2 2 rfl rfl
    have c30 : w9.cell? ⟨b3, 0, none⟩ = some (.slice gX1 l.length kX1) := X.out.cell 3 0 rfl rfl
    have c31 : w9.cell? ⟨b3, 1, none⟩ = some (.slice gX2 r.length kX2) := X.out.cell 3 1 rfl rfl
    have c32 : w9.cell? ⟨b3, 2, none⟩ = some (.slice gX3 ps.length kX3) := X.out.cell 3 2 rfl rfl
    have c40 : w9.cell? ⟨gG, 0, none⟩ = some (.slice gG1 nl.length kG1) := X.out.cell 4 0 rfl rfl
    have c41 : w9.cell? ⟨gG, 1, none⟩ = some (.slice gG2 nr.length kG2) := X.out.cell 4 1 rfl rfl
    have c42 : w9.cell? ⟨gG, 2, none⟩ = some (.slice gG3 np.length kG3) := X.out.cell 4 2 rfl rfl
    go_wp2_with fail
    clear c00 c01 c02 c10 c11 c20 c21 c22 c30 c31 c32 c40 c41 c42
    go_at_call 20
    refine (HHd.out _ _ _ _ _ _ _ _ _ _ _ _ CG.out).mono ?_
    rintro e w10 ⟨rfl, hb⟩
    have X := hide (X.out.up hb)
    have CA := hide (CA.out.below hb)
    have CG := hide (CG.out.below hb)
    have N22 := hide hb.size
    clear hb
    have c00 : w10.cell? ⟨w.heap.size, 0, none⟩ = some (.slice a1 l.length c1) := X.out.cell 0 0 rfl rfl
    have c01 : w10.cell? ⟨w.heap.size, 1, none⟩ = some (.slice a2 r.length c2) := X.out.cell 0 1 rfl rfl
    have c02 : w10.cell? ⟨w.heap.size, 2, none⟩ = some (.slice a3 ps.length c3) := X.out.cell 0 2 rfl rfl
    have c10 : w10.cell? ⟨w.heap.size + 1, 0, none⟩ = some (.int .i64 pv) := X.out.cell 1 0 rfl rfl
    have c11 : w10.cell? ⟨w.heap.size + 1, 1, none⟩ = some (.int .i64 pa) := X.out.cell 1 1 rfl rfl
    have c20 : w10.cell? ⟨gA, 0, none⟩ = some (.slice gA1 nl.length kA1) := X.out.cell 2 0 rfl rfl
    have c21 : w10.cell? ⟨gA, 1, none⟩ = some (.slice gA2 nr.length kA2) := X.out.cell 2 1 rfl rfl
    have c22 : w10.cell? ⟨gA, 2, none⟩ = some (.slice gA3 np.length kA3) := X.out.cell 2 2 rfl rfl
    have c30 : w10.cell? ⟨b3, 0, none⟩ = some (.slice gX1 l.length kX1) := X.out.cell 3 0 rfl rfl
    have c31 : w10.cell? ⟨b3, 1, none⟩ = some (.slice gX2 r.length kX2) := X.out.cell 3 1 rfl rfl
    have c32 : w10.cell? ⟨b3, 2, none⟩ = some (.slice gX3 ps.length kX3) := X.out.cell 3 2 rfl rfl
    have c40 : w10.cell? ⟨gG, 0, none⟩ = some (.slice gG1 nl.length kG1) := X.out.cell 4 0 rfl rfl
    have c41 : w10.cell? ⟨gG, 1, none⟩ = some (.slice gG2 nr.length kG2) := X.out.cell 4 1 rfl rfl
    have c42 : w10.cell? ⟨gG, 2, none⟩ = some (.slice gG3 np.length kG3) := X.out.cell 4 2 rfl rfl
    go_upto_region 24 with fail
    have X1 := X
    go_cut [16, 17, 18] (fun s b0 b1 wx => ∃ (W' : World) (g k1 k2 k3 lo hi p1 q1 p2 q2 p3 q3 : Nat) (g1 g2 g3 : Option Addr), W' = wx ∧ s = .pointer (some ⟨g, 0, none⟩) ∧ b0 = .int .i64 (nn : Int) ∧ b1 = .bool t ∧ Hid (Kn w10 wx [(g, #[.slice (g1 : Option Addr) nl.length k1, .slice g2 nr.length k2, .slice g3 np.length k3], 27)]) ∧ Hid (OC wx (.slice g1 nl.length k1) (.slice g2 nr.length k2) (.slice g3 np.length k3) nl nr np lo hi p1 q1 p2 q2 p3 q3) ∧ Hid (w10.heap.size ≤ lo) ∧ Hid (hi ≤ wx.heap.size) ∧ Hid (g < lo ∨ hi ≤ g))
    case first =>
      clear X T HM0 hK HMk HHd hMn hMM hT hTnn CK CA CG N0 N1 NQA NLA NTA HAl HAh NAg N8 HXl N10 NQG NLG NTG HGl HGh NGg N17 NR N19 N20 N21 N22 HSP
      have KS := hide (fun (w' : World) (M : List (Nat × Array Value × TypeId)) (h : Kn w10 w' M) => show w'.cell? ⟨w.heap.size, 0, none⟩ = some (.slice a1 l.length c1) ∧ w'.cell? ⟨w.heap.size, 1, none⟩ = some (.slice a2 r.length c2) ∧ w'.cell? ⟨w.heap.size, 2, none⟩ = some (.slice a3 ps.length c3) ∧ w'.cell? ⟨w.heap.size + 1, 0, none⟩ = some (.int .i64 pv) ∧ w'.cell? ⟨w.heap.size + 1, 1, none⟩ = some (.int .i64 pa) from ⟨(Kn.join X1.out h).cell 0 0 rfl rfl, (Kn.join X1.out h).cell 0 1 rfl rfl, (Kn.join X1.out h).cell 0 2 rfl rfl, (Kn.join X1.out h).cell 1 0 rfl rfl, (Kn.join X1.out h).cell 1 1 rfl rfl⟩)
      have KB := hide (fun (w' : World) (M : List (Nat × Array Value × TypeId)) (h : Kn w10 w' M) => (Kn.join X1.out h).below)
      have Y0 := hide (Kn.start w10)
      have Y := hide (Y0.out.drew)
      clear X1 c00 c01 c02 c10 c11 c20 c21 c22 c30 c31 c32 c40 c41 c42
      obtain ⟨c00, c01, c02, c10, c11⟩ := KS.out _ _ Y.out
      go_region_held3 (fun w' => w'.cell? ⟨w.heap.size, 0, none⟩ = some (.slice a1 l.length c1) ∧ w'.cell? ⟨w.heap.size, 1, none⟩ = some (.slice a2 r.length c2) ∧ w'.cell? ⟨w.heap.size, 2, none⟩ = some (.slice a3 ps.length c3) ∧ w'.cell? ⟨w.heap.size + 1, 0, none⟩ = some (.int .i64 pv) ∧ w'.cell? ⟨w.heap.size + 1, 1, none⟩ = some (.int .i64 pa)) (first | with_reducible exact KS.out _ _ Y.out | with_reducible exact KS.out _ _ (Y.out.alloc _ _) | with_reducible exact KS.out _ _ (Y0.out.alloc _ _).drew | with_reducible exact KS.out _ _ (Kn.put3s Y.out _ _ _) | go_keep) (first
        | (go_at_call 23; refine (TA.out _ (by first | with_reducible exact KB.out _ _ Y.out | with_reducible exact KB.out _ _ (Y.out.alloc _ _) | with_reducible exact KB.out _ _ (Y0.out.alloc _ _).drew)).mono ?_; rintro e wq ⟨uH1, vH1, uH2, vH2, uH3, vH3, rfl, IH, hb⟩; replace IH := hide IH; clear c00 c01 c02 c10 c11; (first | replace Y := hide (by with_reducible exact Y.out.up hb) | replace Y := hide (by with_reducible exact Y.out.upA hb) | replace Y := hide (by with_reducible exact Y0.out.upD hb)); obtain ⟨c00, c01, c02, c10, c11⟩ := KS.out _ _ Y.out; (first | clear e0 e1 e2 f0 f1 f2 f3 | skip); (first | (have e0 := Y.out.cell 0 0 rfl rfl; have e1 := Y.out.cell 0 1 rfl rfl; have e2 := Y.out.cell 0 2 rfl rfl; have f0 := Y.out.free 0 0 rfl; have f1 := Y.out.free 0 1 rfl; have f2 := Y.out.free 0 2 rfl; have f3 := Y.out.lt 0 rfl) | skip); clear hb)
        | (go_at_call 24; refine (toItem_any pv pa _).mono ?_; rintro e wq ⟨rfl, hb⟩; (first | replace IH := hide (by with_reducible exact IH.out.up hb) | replace IH := hide (by with_reducible exact IH.out.up (below_upA hb)) | replace IH := hide (by with_reducible exact IH.out.up (below_upD hb))); clear c00 c01 c02 c10 c11; (first | replace Y := hide (by with_reducible exact Y.out.up hb) | replace Y := hide (by with_reducible exact Y.out.upA hb) | replace Y := hide (by with_reducible exact Y0.out.upD hb)); obtain ⟨c00, c01, c02, c10, c11⟩ := KS.out _ _ Y.out; (first | clear e0 e1 e2 f0 f1 f2 f3 | skip); (first | (have e0 := Y.out.cell 0 0 rfl rfl; have e1 := Y.out.cell 0 1 rfl rfl; have e2 := Y.out.cell 0 2 rfl rfl; have f0 := Y.out.free 0 0 rfl; have f1 := Y.out.free 0 1 rfl; have f2 := Y.out.free 0 2 rfl; have f3 := Y.out.lt 0 rfl) | skip); clear hb)
        | (go_at_call 25; refine (HIP.out _ _ (by first | with_reducible exact IH.out | with_reducible exact IH.out.up (below1 _ _) | with_reducible exact IH.out.up (below1 _ _).drew)).mono ?_; rintro e wq ⟨x, y, z, loH, hiH, pH1, qH1, pH2, qH2, pH3, qH3, rfl, hlo, hhi, CH, hb⟩; obtain ⟨gH1, kH1, rfl⟩ := CH.x.form; obtain ⟨gH2, kH2, rfl⟩ := CH.y.form; obtain ⟨gH3, kH3, rfl⟩ := CH.z.own.form; have HHl := hide (Nat.le_trans (by first | with_reducible exact Y.out.below.size | with_reducible exact (Y.out.alloc _ _).below.size | with_reducible exact (Y0.out.alloc _ _).drew.below.size) hlo); have HHh := hide hhi; replace CH := hide CH; (first | (have hG := hide (by with_reducible exact Nat.lt_of_lt_of_le f3 hlo)) | (have hG := hide (by with_reducible exact lt_alloc hlo)) | skip); clear c00 c01 c02 c10 c11; (first | replace Y := hide (by with_reducible exact Y.out.up hb) | replace Y := hide (by with_reducible exact Y.out.upA hb) | replace Y := hide (by with_reducible exact Y0.out.upD hb)); obtain ⟨c00, c01, c02, c10, c11⟩ := KS.out _ _ Y.out; (first | clear e0 e1 e2 f0 f1 f2 f3 | skip); (first | (have e0 := Y.out.cell 0 0 rfl rfl; have e1 := Y.out.cell 0 1 rfl rfl; have e2 := Y.out.cell 0 2 rfl rfl; have f0 := Y.out.free 0 0 rfl; have f1 := Y.out.free 0 1 rfl; have f2 := Y.out.free 0 2 rfl; have f3 := Y.out.lt 0 rfl) | skip); clear hlo hhi hb))
      all_goals go_wp2_with fail
      all_goals go_meet
      all_goals first | exact ⟨_, _, _, _, _, _, _, _, _, _, _, _, _, _, _, _, rfl, rfl, rfl, rfl, Y.out.alloc _ _, CH.out.below (below1 _ _), HHl, le_al CH.out.top.2, .inr CH.out.top.2⟩ | exact ⟨_, _, _, _, _, _, _, _, _, _, _, _, _, _, _, _, rfl, rfl, rfl, rfl, Kn.put3s Y.out _ _ _, CH.out.seg (seg3 _ _ _ _ _) (.inr hG.out), HHl, le_s3 CH.out.top.2, .inl hG.out⟩
    case rest =>
    obtain ⟨w11, gH, kH1, kH2, kH3, loH, hiH, pH1, qH1, pH2, qH2, pH3, qH3, gH1, gH2, gH3, rfl, rfl, rfl, rfl, Y, CH, HHl, HHh, NHg⟩ := hcut
    have hbY := Y.out.below
    have CA := hide (CA.out.below hbY)
    have CG := hide (CG.out.below hbY)
    have NQH := hide hbY.size
    have NLH := hide (Y.out.low 0 rfl)
    have NTH := hide (Y.out.lt 0 rfl)
    have X := hide (Kn.join X1.out Y.out)
    simp only [List.cons_append, List.nil_append] at X
    clear hbY Y X1 c00 c01 c02 c10 c11 c20 c21 c22 c30 c31 c32 c40 c41 c42
    have c00 : w11.cell? ⟨w.heap.size, 0, none⟩ = some (.slice a1 l.length c1) := X.out.cell 0 0 rfl rfl
    have c01 : w11.cell? ⟨w.heap.size, 1, none⟩ = some (.slice a2 r.length c2) := X.out.cell 0 1 rfl rfl
    have c02 : w11.cell? ⟨w.heap.size, 2, none⟩ = some (.slice a3 ps.length c3) := X.out.cell 0 2 rfl rfl
    have c10 : w11.cell? ⟨w.heap.size + 1, 0, none⟩ = some (.int .i64 pv) := X.out.cell 1 0 rfl rfl
    have c11 : w11.cell? ⟨w.heap.size + 1, 1, none⟩ = some (.int .i64 pa) := X.out.cell 1 1 rfl rfl
    have c20 : w11.cell? ⟨gA, 0, none⟩ = some (.slice gA1 nl.length kA1) := X.out.cell 2 0 rfl rfl
    have c21 : w11.cell? ⟨gA, 1, none⟩ = some (.slice gA2 nr.length kA2) := X.out.cell 2 1 rfl rfl
    have c22 : w11.cell? ⟨gA, 2, none⟩ = some (.slice gA3 np.length kA3) := X.out.cell 2 2 rfl rfl
    have c30 : w11.cell? ⟨b3, 0, none⟩ = some (.slice gX1 l.length kX1) := X.out.cell 3 0 rfl rfl
    have c31 : w11.cell? ⟨b3, 1, none⟩ = some (.slice gX2 r.length kX2) := X.out.cell 3 1 rfl rfl
    have c32 : w11.cell? ⟨b3, 2, none⟩ = some (.slice gX3 ps.length kX3) := X.out.cell 3 2 rfl rfl
    have c40 : w11.cell? ⟨gG, 0, none⟩ = some (.slice gG1 nl.length kG1) := X.out.cell 4 0 rfl rfl
    have c41 : w11.cell? ⟨gG, 1, none⟩ = some (.slice gG2 nr.length kG2) := X.out.cell 4 1 rfl rfl
    have c42 : w11.cell? ⟨gG, 2, none⟩ = some (.slice gG3 np.length kG3) := X.out.cell 4 2 rfl rfl
    have c50 : w11.cell? ⟨gH, 0, none⟩ = some (.slice gH1 nl.length kH1) := X.out.cell 5 0 rfl rfl
    have c51 : w11.cell? ⟨gH, 1, none⟩ = some (.slice gH2 nr.length kH2) := X.out.cell 5 1 rfl rfl
    have c52 : w11.cell? ⟨gH, 2, none⟩ = some (.slice gH3 np.length kH3) := X.out.cell 5 2 rfl rfl
    go_wp2_with fail
    clear c00 c01 c02 c10 c11 c20 c21 c22 c30 c31 c32 c40 c41 c42 c50 c51 c52
    go_at_call 14
    refine (eqCracker_same _ _ nl nr np _ _ (Nat.le_refl _) (CK.out _ _ _ _ _ _ _ _ _ _ _ _ CH.out) (CK.out _ _ _ _ _ _ _ _ _ _ _ _ CA.out)).mono ?_
    rintro e w12 ⟨rfl, hb⟩
    have X := hide (X.out.up hb)
    have CA := hide (CA.out.below hb)
    have CG := hide (CG.out.below hb)
    have CH := hide (CH.out.below hb)
    have N29 := hide hb.size
    clear hb
    have c00 : w12.cell? ⟨w.heap.size, 0, none⟩ = some (.slice a1 l.length c1) := X.out.cell 0 0 rfl rfl
    have c01 : w12.cell? ⟨w.heap.size, 1, none⟩ = some (.slice a2 r.length c2) := X.out.cell 0 1 rfl rfl
    have c02 : w12.cell? ⟨w.heap.size, 2, none⟩ = some (.slice a3 ps.length c3) := X.out.cell 0 2 rfl rfl
    have c10 : w12.cell? ⟨w.heap.size + 1, 0, none⟩ = some (.int .i64 pv) := X.out.cell 1 0 rfl rfl
    have c11 : w12.cell? ⟨w.heap.size + 1, 1, none⟩ = some (.int .i64 pa) := X.out.cell 1 1 rfl rfl
    have c20 : w12.cell? ⟨gA, 0, none⟩ = some (.slice gA1 nl.length kA1) := X.out.cell 2 0 rfl rfl
    have c21 : w12.cell? ⟨gA, 1, none⟩ = some (.slice gA2 nr.length kA2) := X.out.cell 2 1 rfl rfl
    have c22 : w12.cell? ⟨gA, 2, none⟩ = some (.slice gA3 np.length kA3) := X.out.cell 2 2 rfl rfl
    have c30 : w12.cell? ⟨b3, 0, none⟩ = some (.slice gX1 l.length kX1) := X.out.cell 3 0 rfl rfl
    have c31 : w12.cell? ⟨b3, 1, none⟩ = some (.slice gX2 r.length kX2) := X.out.cell 3 1 rfl rfl
    have c32 : w12.cell? ⟨b3, 2, none⟩ = some (.slice gX3 ps.length kX3) := X.out.cell 3 2 rfl rfl
    have c40 : w12.cell? ⟨gG, 0, none⟩ = some (.slice gG1 nl.length kG1) := X.out.cell 4 0 rfl rfl
    have c41 : w12.cell? ⟨gG, 1, none⟩ = some (.slice gG2 nr.length kG2) := X.out.cell 4 1 rfl rfl
    have c42 : w12.cell? ⟨gG, 2, none⟩ = some (.slice gG3 np.length kG3) := X.out.cell 4 2 rfl rfl
    have c50 : w12.cell? ⟨gH, 0, none⟩ = some (.slice gH1 nl.length kH1) := X.out.cell 5 0 rfl rfl
    have c51 : w12.cell? ⟨gH, 1, none⟩ = some (.slice gH2 nr.length kH2) := X.out.cell 5 1 rfl rfl
    have c52 : w12.cell? ⟨gH, 2, none⟩ = some (.slice gH3 np.length kH3) := X.out.cell 5 2 rfl rfl
    go_wp2_with fail
    clear c00 c01 c02 c10 c11 c20 c21 c22 c30 c31 c32 c40 c41 c42 c50 c51 c52
    go_at_call 20
    refine (HHd.out _ _ _ _ _ _ _ _ _ _ _ _ CG.out).mono ?_
    rintro e w13 ⟨rfl, hb⟩
    have X := hide (X.out.up hb)
    have CA := hide (CA.out.below hb)
    have CG := hide (CG.out.below hb)
    have CH := hide (CH.out.below hb)
    have N30 := hide hb.size
    clear hb
    go_wp2_with fail
    go_ret
    exact ⟨rfl, X.out.below⟩

set_option maxRecDepth 100000 in
theorem lifted (os : Os) (started : os.Started) (H : Type) (enc : TypeId × Value → H) :
    ReturnsInHanded {} Try.checked os 4 .any (Rows.fnExactRippleInsertSpec.pre6 enc Try.prog Try.f4 Rows.fnExactRippleInsertRow.domain false) (Rows.fnExactRippleInsertSpec.post enc Try.prog Try.f4 false true false false) := by
  refine returnsInHanded_of_change (C := Try.checked) own started (by kernel_rfl) Try.func4
    (ChangeSpec.witness6 (enc := enc) (C := Try.checked) false ⟨#[], #[.agg #[.slice none 0 0, .slice none 0 0, .slice none 0 0], .agg #[.int .i64 0, .int .i64 0]], []⟩ 8 (by kernel_rfl) (by kernel_rfl) (by kernel_rfl) (by kernel_rfl)) ?_
  intro W base args ds gs before hval0 hW hcnd _
  have hval : ∀ (j : Nat) t v, Try.f4.params[j]? = some t → args[j]? = some v → Value.okWide Try.prog W .any base t v := hval0
  have hW' := hW
  obtain ⟨p, q, hA0, hV, rfl, hfz, hnd⟩ := hW
  have hA : DataW.TrodAll enc Try.prog W 0 (fun _ => true) true Try.f4.params.toList args.toList ds p := hA0
  rw [Try.params4] at hA hval
  obtain ⟨v0, vs0, d0, ds0, p0, q0, hargs, rfl, rfl, h0, r0⟩ := trodAll_cons hA
  obtain ⟨v1, vs1, d1, ds1, p1, q1, rfl, rfl, rfl, h1, r1⟩ := trodAll_cons r0
  obtain ⟨rfl, rfl, rfl⟩ := trodAll_nil r1
  obtain rfl : args = #[v0, v1] := by cases args; simp_all
  obtain ⟨rfl, rfl⟩ := trodVars_none hV
  have k0 := h0
  have lt0 : ∀ x ∈ p0, x.block < W.heap.size := by obtain ⟨m, hm⟩ := k0; exact DataW.trod_lt m _ _ _ hm
  have k1 := h1
  have lt1 : ∀ x ∈ p1, x.block < W.heap.size := by obtain ⟨m, hm⟩ := k1; exact DataW.trod_lt m _ _ _ hm
  have w0 := open_ck (hval 0 42 v0 rfl rfl) h0
  have w1 := open_it (hval 1 44 v1 rfl rfl) h1
  clear hA0 hval0
  refine (walk W v0 w0 v1 w1).mono fun e W' ⟨he, bel⟩ => ?_
  subst he
  exact ⟨_, rfl, _, _, _, [], _, [], hW', trodAll_mk1 (shut_bool Try.underlying4 _), (trodAll_cons_mk (Below.trod laidOut (by kernel_rfl) (of_decide_eq_true (by kernel_rfl)) k0 bel lt0) (trodAll_cons_mk (Below.trod laidOut (by kernel_rfl) (of_decide_eq_true (by kernel_rfl)) k1 bel lt1) trodAll_mk0)), rfl, bel.frame _, fun h => by cases h⟩

theorem over : Rows.fnExactRippleInsertRow.holds Try.pinned (OpenSpec.ofChange Rows.fnExactRippleInsertSpec) :=
  OpenClaim.holds_of_wide 4 Try.f4 rfl rfl rfl rfl rfl rfl rfl ⟨rfl, rfl, rfl, rfl, rfl⟩ rfl rfl rfl rfl rfl (by kernel_rfl) Try.func4 (by kernel_rfl)
    (of_decide_eq_true (by kernel_rfl)) (by unfold Func.isWrapper; first | (rw [if_pos (by decide +kernel)]; kernel_rfl) | (rw [if_neg (by decide +kernel)]; exact ⟨rfl, rfl⟩))
    (fun os started H enc _ => lifted os started H enc)

/-- The statement. -/
theorem proved : Rows.FnExactRippleInsertSaid := over
#print axioms proved
end Go.Proofs.Ytajfhalalnlejaa.fnExactRippleInsert
