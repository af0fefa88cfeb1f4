/- Several texts in one: CrI, Rf2, CmD, CmI, AlI, AlL. -/
import Derived.Test.YtepkkeclkdlheaaCrD
import Derived.Test.YtepkkeclkdlheaaZa
import Derived.Test.YtepkkeclkdlheaaRf
import Derived.Test.YtepkkeclkdlheaaMpM
import Derived.Test.YtepkkeclkdlheaaMpB
/- What CrackAt of the program returns (promise 3). Written by gen_cri.py. -/
namespace Go.Proofs.Ytepkkeclkdlheaa
open Go.RowKit Go.ChangeShapes
set_option linter.unusedSimpArgs false
set_option linter.unusedVariables false
set_option maxRecDepth 100000

set_option maxHeartbeats 8000000 in
theorem iCrack_any (u : Value) (l r : List Int) (ps : List Pv) (v : Int) (w : World) (B : Nat) (hv : Ck w B u l r ps) (hB : B ≤ w.heap.size) (hl : l.length ≤ 1048576) (hr : r.length ≤ 1048576) (hp : ps.length ≤ 1048576) (hvw : I64 v) :
    Calls Try.prog 145 #[u, .int .i64 v] w (RetOCSB w (crL l r ps v) (crR l r ps v) (crP l r ps v) (crS l r ps v) (crOk l r ps v)) := by
  obtain ⟨a1, c1, a2, c2, a3, c3, rfl, i1, i2, i3⟩ := hv.form
  obtain ⟨wl, wr, wpl, wp⟩ := hv.wf
  have V := hide hv
  have I1 := hide i1
  clear hv i1 i2 i3
  obtain ⟨t0, ht0⟩ : ∃ t, t = isCk l r ps := ⟨_, rfl⟩
  obtain ⟨bd, hbd⟩ : ∃ t, t = decide (-1000 ≤ v ∧ v ≤ 1000) := ⟨_, rfl⟩
  obtain ⟨fd, hfd⟩ : ∃ p, p = fndP ps v := ⟨_, rfl⟩
  obtain ⟨pc, hpc⟩ : ∃ p, p = pieceP l r ps v := ⟨_, rfl⟩
  obtain ⟨pt, hpt⟩ : ∃ p, p = crPt l r ps v := ⟨_, rfl⟩
  obtain ⟨L1, hL1⟩ : ∃ p, p = apL l r pt.1 := ⟨_, rfl⟩
  obtain ⟨R1, hR1⟩ : ∃ p, p = apR l r pt.1 := ⟨_, rfl⟩
  obtain ⟨P1, hP1⟩ : ∃ p, p = adP L1 R1 ps (v, pt.2) := ⟨_, rfl⟩
  obtain ⟨nl, hnl⟩ : ∃ p, p = crL l r ps v := ⟨_, rfl⟩
  obtain ⟨nr, hnr⟩ : ∃ p, p = crR l r ps v := ⟨_, rfl⟩
  obtain ⟨np, hnp⟩ : ∃ p, p = crP l r ps v := ⟨_, rfl⟩
  obtain ⟨ns, hns⟩ : ∃ p, p = crS l r ps v := ⟨_, rfl⟩
  obtain ⟨ok, hok⟩ : ∃ p, p = crOk l r ps v := ⟨_, rfl⟩
  have HOK := hide (show ok = (t0 && bd) by rw [hok, ht0, hbd]; rfl)
  have HDV := hide (show crDiv l r ps v = ((t0 && bd) && !fd.2) by rw [ht0, hbd, hfd]; rfl)
  have HNL := hide (show nl = if ((t0 && bd) && !fd.2) = true then L1 else l by rw [← HDV.out, hnl, hL1, hpt]; rfl)
  have HNR := hide (show nr = if ((t0 && bd) && !fd.2) = true then R1 else r by rw [← HDV.out, hnr, hR1, hpt]; rfl)
  have HNP := hide (show np = if ((t0 && bd) && !fd.2) = true then P1 else ps by rw [← HDV.out, hnp, hP1, hL1, hR1, hpt]; rfl)
  have HNS := hide (show ns = if ((t0 && bd) && !fd.2) = true then pt.1 else [] by rw [← HDV.out, hns, hpt]; rfl)
  rw [← hnl, ← hnr, ← hnp, ← hns, ← hok]
  have HPT := hide (show pt = partP l pc.1 pc.2 v by rw [hpt, hpc]; rfl)
  have hnum := partP_nums l pc.1 pc.2 v hl
  have hpw := partP_wf l pc.1 pc.2 v hl
  rw [← HPT.out] at hnum hpw
  have HL1 := hide (show L1.length ≤ 1048576 ∧ (∀ x ∈ L1, I64 x) by rw [hL1]; exact ⟨by rw [apL_length]; exact hl, apL_wf wl⟩)
  have HR1 := hide (show R1.length ≤ 1048576 ∧ (∀ x ∈ R1, I64 x) by rw [hR1]; exact ⟨by rw [apR_length]; exact hr, apR_wf wr⟩)
  have HNM := hide hnum
  have HPW := hide hpw
  have HWP := hide wp
  have CK := hide (fun (W : World) (h : Below w.heap.size w W) => show Calls Try.prog 82 #[.agg #[.slice a1 l.length c1, .slice a2 r.length c2, .slice a3 ps.length c3]] W (RetB1 W t0) by rw [ht0]; exact iIsCk_any _ l r ps W B (V.out.below h hB) (Nat.le_trans hB h.size))
  have CF := hide (fun (W : World) (h : Below w.heap.size w W) => show Calls Try.prog 173 #[.agg #[.slice a1 l.length c1, .slice a2 r.length c2, .slice a3 ps.length c3], .int .i64 v] W (RetPB W fd) by rw [hfd]; exact iFindP_any _ l r ps v W B (V.out.below h hB) (Nat.le_trans hB h.size))
  have CC := hide (fun (W : World) (h : Below w.heap.size w W) => iCopy_any _ l r ps W B (V.out.below h hB) (Nat.le_trans hB h.size) hl hr hp)
  have CP := hide (fun (W : World) (h : Below w.heap.size w W) => show Calls Try.prog 169 #[.agg #[.slice a1 l.length c1, .slice a2 r.length c2, .slice a3 ps.length c3], .int .i64 v] W (RetII W pc) by rw [hpc]; exact iPieceOf_any _ l r ps v W B (V.out.below h hB) (Nat.le_trans hB h.size))
  have CT := hide (fun (W : World) (h : Below w.heap.size w W) => show Calls Try.prog 174 #[.slice a1 l.length c1, .int .i64 pc.1, .int .i64 pc.2, .int .i64 v] W (RetSI W pt) by rw [HPT.out]; exact iPart_any _ l pc.1 pc.2 v W B (I1.out.below h hB) (Nat.le_trans hB h.size) hl)
  have CAp := hide (fun (W : World) (sv : Value) (h : Below w.heap.size w W) (h2 : Pvs W W.heap.size sv pt.1) => show Calls Try.prog 175 #[.agg #[.slice a1 l.length c1, .slice a2 r.length c2, .slice a3 ps.length c3], sv] W (RetOCB W L1 R1 ps (canSwap l r pt.1)) by rw [hL1, hR1]; exact iApply_any _ sv l r ps pt.1 W W.heap.size ((V.out.below h hB).mono (Nat.le_trans hB h.size)) h2 (Nat.le_refl _) hl hr hp)
  have CAd := hide (fun (W : World) (x : Value) (h : Ck W W.heap.size x L1 R1 ps) => show Calls Try.prog 176 #[x, .agg #[.int .i64 v, .int .i64 pt.2]] W (RetOCB W L1 R1 P1 (adOk L1 R1 ps (v, pt.2))) by rw [hP1]; exact iAdd_any x L1 R1 ps v pt.2 W W.heap.size h ⟨hvw, ⟨by have := HNM.out; omega, by have := HNM.out; omega⟩⟩ (Nat.le_refl _) HL1.out.1 HR1.out.1 hp)
  have HBD := hide hbd
  clear ht0 hbd hfd hpc hpt hL1 hR1 hP1 hnl hnr hnp hns hok hnum hpw wl wr wpl wp
  obtain ⟨f0, f1⟩ := fd
  obtain ⟨pa, pb⟩ := pc
  obtain ⟨sw, at0⟩ := pt
  simp only at HDV HNL HNR HNP HNS CT CAp CAd HNM HPW CP HPT
  obtain ⟨cs, hcs⟩ : ∃ t, t = canSwap l r sw := ⟨_, rfl⟩
  obtain ⟨ad, had⟩ : ∃ t, t = adOk L1 R1 ps (v, at0) := ⟨_, rfl⟩
  rw [← hcs] at CAp
  rw [← had] at CAd
  clear hcs had
  have X := hide (Kn.two w #[.slice a1 l.length c1, .slice a2 r.length c2, .slice a3 ps.length c3] #[.slice none 0 0, .slice none 0 0, .slice none 0 0] 25 25)
  obtain ⟨w1, hw1⟩ : ∃ w1, w1 = (w.alloc (.cells #[.slice a1 l.length c1, .slice a2 r.length c2, .slice a3 ps.length c3] 25)).alloc (.cells #[.slice none 0 0, .slice none 0 0, .slice none 0 0] 25) := ⟨_, rfl⟩
  have hz1 := hide (show w1.heap.size = w.heap.size + 1 + 1 by rw [hw1]; simp)
  rw [← hw1] at X
  have d0 : w1.cell? ⟨w.heap.size, 0, none⟩ = some (.slice a1 l.length c1) := X.out.cell 0 0 rfl rfl
  have d1 : w1.cell? ⟨w.heap.size, 1, none⟩ = some (.slice a2 r.length c2) := X.out.cell 0 1 rfl rfl
  have d2 : w1.cell? ⟨w.heap.size, 2, none⟩ = some (.slice a3 ps.length c3) := X.out.cell 0 2 rfl rfl
  rw [hw1] at d0 d1 d2
  go_enter Try.func145, Try.ntmps145
  go_wp2_with fail
  rw [← hw1]
  clear hw1 d0 d1 d2
  go_at_call 82
  refine (CK.out _ X.out.below).mono ?_
  rintro e w2 ⟨rfl, hb⟩
  have X := hide (X.out.up hb)
  have N2 := hide (Nat.le_trans (Nat.le_of_eq hz1.out.symm) hb.size)
  clear hb
  cases t0 with
  | false =>
    have d0 : w2.cell? ⟨w.heap.size, 0, none⟩ = some (.slice a1 l.length c1) := X.out.cell 0 0 rfl rfl
    have d1 : w2.cell? ⟨w.heap.size, 1, none⟩ = some (.slice a2 r.length c2) := X.out.cell 0 1 rfl rfl
    have d2 : w2.cell? ⟨w.heap.size, 2, none⟩ = some (.slice a3 ps.length c3) := X.out.cell 0 2 rfl rfl
    go_wp2_with fail
    go_at_call 173
    refine (CF.out _ X.out.below).mono ?_
    rintro e w3 ⟨rfl, hb⟩
    have X := hide (X.out.up hb)
    have N3 := hide (Nat.le_trans N2.out hb.size)
    clear hb d0 d1 d2
    have d0 : w3.cell? ⟨w.heap.size, 0, none⟩ = some (.slice a1 l.length c1) := X.out.cell 0 0 rfl rfl
    have d1 : w3.cell? ⟨w.heap.size, 1, none⟩ = some (.slice a2 r.length c2) := X.out.cell 0 1 rfl rfl
    have d2 : w3.cell? ⟨w.heap.size, 2, none⟩ = some (.slice a3 ps.length c3) := X.out.cell 0 2 rfl rfl
    cases f1 with
    | false =>
      obtain rfl : nl = l := by simpa [Hid] using HNL
      obtain rfl : nr = r := by simpa [Hid] using HNR
      obtain rfl : np = ps := by simpa [Hid] using HNP
      obtain rfl : ns = [] := by simpa [Hid] using HNS
      obtain rfl : ok = false := by simpa [Hid] using HOK
      go_wp2_with fail
      go_at_call 103
      refine (CC.out _ X.out.below).mono ?_
      rintro e w8 ⟨x', y', z', lo', hi', n1', h1', n2', h2', n4, h4, rfl, q1, q2, O8, hb⟩
      obtain ⟨v1, j1, rfl⟩ := O8.x.form
      obtain ⟨v2, j2, rfl⟩ := O8.y.form
      obtain ⟨v3, j4, rfl⟩ := O8.z.own.form
      have K8 := hide (X.out.up hb)
      have P3 := hide (Nat.le_trans X.out.below.size q1)
      have P5 := hide (Nat.lt_of_lt_of_le (X.out.lt 1 rfl) q1)
      have O8 := hide O8
      clear d0 d1 d2 hb q1 q2 X
      have g0 : w8.cell? ⟨w.heap.size + 1, 0, none⟩ = some (.slice none 0 0) := K8.out.cell 1 0 rfl rfl
      have g1 : w8.cell? ⟨w.heap.size + 1, 1, none⟩ = some (.slice none 0 0) := K8.out.cell 1 1 rfl rfl
      have g2 : w8.cell? ⟨w.heap.size + 1, 2, none⟩ = some (.slice none 0 0) := K8.out.cell 1 2 rfl rfl
      have f0' := K8.out.free 1 0 rfl
      have f1' := K8.out.free 1 1 rfl
      have f2' := K8.out.free 1 2 rfl
      go_wp2_with fail
      have Z := ((K8.out.set 1 0 rfl (.slice v1 nl.length j1)).set 1 1 rfl (.slice v2 nr.length j2)).set 1 2 rfl (.slice v3 np.length j4)
      have z0 := Z.cell 1 0 rfl rfl
      have z1 := Z.cell 1 1 rfl rfl
      have z2 := Z.cell 1 2 rfl rfl
      have O9 := O8.out.seg (seg3 _ (w.heap.size + 1) (.slice v1 nl.length j1) (.slice v2 nr.length j2) (.slice v3 np.length j4)) (.inr P5.out)
      exact bodyPost_ret (v := .tuple #[.agg #[.slice v1 nl.length j1, .slice v2 nr.length j2, .slice v3 np.length j4], .slice none 0 0, .bool false]) (by simp [results, Try.results145, go_sem, z0, z1, z2]) rfl
        ⟨_, _, _, _, lo', hi', n1', h1', n2', h2', n4, h4, _, _, rfl, ⟨P3.out, Z.below.size⟩, ⟨O9.top.2, Nat.le_refl _⟩, O9, Osw.nil (Nat.le_refl _), .inl O9.top.2, Z.below⟩
    | true =>
      obtain rfl : nl = l := by simpa [Hid] using HNL
      obtain rfl : nr = r := by simpa [Hid] using HNR
      obtain rfl : np = ps := by simpa [Hid] using HNP
      obtain rfl : ns = [] := by simpa [Hid] using HNS
      obtain rfl : ok = false := by simpa [Hid] using HOK
      go_wp2_with fail
      go_at_call 103
      refine (CC.out _ X.out.below).mono ?_
      rintro e w8 ⟨x', y', z', lo', hi', n1', h1', n2', h2', n4, h4, rfl, q1, q2, O8, hb⟩
      obtain ⟨v1, j1, rfl⟩ := O8.x.form
      obtain ⟨v2, j2, rfl⟩ := O8.y.form
      obtain ⟨v3, j4, rfl⟩ := O8.z.own.form
      have K8 := hide (X.out.up hb)
      have P3 := hide (Nat.le_trans X.out.below.size q1)
      have P5 := hide (Nat.lt_of_lt_of_le (X.out.lt 1 rfl) q1)
      have O8 := hide O8
      clear d0 d1 d2 hb q1 q2 X
      have g0 : w8.cell? ⟨w.heap.size + 1, 0, none⟩ = some (.slice none 0 0) := K8.out.cell 1 0 rfl rfl
      have g1 : w8.cell? ⟨w.heap.size + 1, 1, none⟩ = some (.slice none 0 0) := K8.out.cell 1 1 rfl rfl
      have g2 : w8.cell? ⟨w.heap.size + 1, 2, none⟩ = some (.slice none 0 0) := K8.out.cell 1 2 rfl rfl
      have f0' := K8.out.free 1 0 rfl
      have f1' := K8.out.free 1 1 rfl
      have f2' := K8.out.free 1 2 rfl
      go_wp2_with fail
      have Z := ((K8.out.set 1 0 rfl (.slice v1 nl.length j1)).set 1 1 rfl (.slice v2 nr.length j2)).set 1 2 rfl (.slice v3 np.length j4)
      have z0 := Z.cell 1 0 rfl rfl
      have z1 := Z.cell 1 1 rfl rfl
      have z2 := Z.cell 1 2 rfl rfl
      have O9 := O8.out.seg (seg3 _ (w.heap.size + 1) (.slice v1 nl.length j1) (.slice v2 nr.length j2) (.slice v3 np.length j4)) (.inr P5.out)
      exact bodyPost_ret (v := .tuple #[.agg #[.slice v1 nl.length j1, .slice v2 nr.length j2, .slice v3 np.length j4], .slice none 0 0, .bool false]) (by simp [results, Try.results145, go_sem, z0, z1, z2]) rfl
        ⟨_, _, _, _, lo', hi', n1', h1', n2', h2', n4, h4, _, _, rfl, ⟨P3.out, Z.below.size⟩, ⟨O9.top.2, Nat.le_refl _⟩, O9, Osw.nil (Nat.le_refl _), .inl O9.top.2, Z.below⟩
  | true =>
    cases bd with
    | false =>
      have d0 : w2.cell? ⟨w.heap.size, 0, none⟩ = some (.slice a1 l.length c1) := X.out.cell 0 0 rfl rfl
      have d1 : w2.cell? ⟨w.heap.size, 1, none⟩ = some (.slice a2 r.length c2) := X.out.cell 0 1 rfl rfl
      have d2 : w2.cell? ⟨w.heap.size, 2, none⟩ = some (.slice a3 ps.length c3) := X.out.cell 0 2 rfl rfl
      have hvb := of_decide_eq_false HBD.out.symm
      have CB := hide (fun (W : World) => bound_no v W (by omega))
      clear hvb
      go_wp2_with fail
      go_at_call 147
      refine (CB.out _).mono ?_
      rintro e wq ⟨rfl, rfl⟩
      go_wp2_with fail
      go_at_call 173
      refine (CF.out _ X.out.below).mono ?_
      rintro e w3 ⟨rfl, hb⟩
      have X := hide (X.out.up hb)
      have N3 := hide (Nat.le_trans N2.out hb.size)
      clear hb d0 d1 d2
      have d0 : w3.cell? ⟨w.heap.size, 0, none⟩ = some (.slice a1 l.length c1) := X.out.cell 0 0 rfl rfl
      have d1 : w3.cell? ⟨w.heap.size, 1, none⟩ = some (.slice a2 r.length c2) := X.out.cell 0 1 rfl rfl
      have d2 : w3.cell? ⟨w.heap.size, 2, none⟩ = some (.slice a3 ps.length c3) := X.out.cell 0 2 rfl rfl
      cases f1 with
      | false =>
        obtain rfl : nl = l := by simpa [Hid] using HNL
        obtain rfl : nr = r := by simpa [Hid] using HNR
        obtain rfl : np = ps := by simpa [Hid] using HNP
        obtain rfl : ns = [] := by simpa [Hid] using HNS
        obtain rfl : ok = false := by simpa [Hid] using HOK
        go_wp2_with fail
        go_at_call 103
        refine (CC.out _ X.out.below).mono ?_
        rintro e w8 ⟨x', y', z', lo', hi', n1', h1', n2', h2', n4, h4, rfl, q1, q2, O8, hb⟩
        obtain ⟨v1, j1, rfl⟩ := O8.x.form
        obtain ⟨v2, j2, rfl⟩ := O8.y.form
        obtain ⟨v3, j4, rfl⟩ := O8.z.own.form
        have K8 := hide (X.out.up hb)
        have P3 := hide (Nat.le_trans X.out.below.size q1)
        have P5 := hide (Nat.lt_of_lt_of_le (X.out.lt 1 rfl) q1)
        have O8 := hide O8
        clear d0 d1 d2 hb q1 q2 X
        have g0 : w8.cell? ⟨w.heap.size + 1, 0, none⟩ = some (.slice none 0 0) := K8.out.cell 1 0 rfl rfl
        have g1 : w8.cell? ⟨w.heap.size + 1, 1, none⟩ = some (.slice none 0 0) := K8.out.cell 1 1 rfl rfl
        have g2 : w8.cell? ⟨w.heap.size + 1, 2, none⟩ = some (.slice none 0 0) := K8.out.cell 1 2 rfl rfl
        have f0' := K8.out.free 1 0 rfl
        have f1' := K8.out.free 1 1 rfl
        have f2' := K8.out.free 1 2 rfl
        go_wp2_with fail
        have Z := ((K8.out.set 1 0 rfl (.slice v1 nl.length j1)).set 1 1 rfl (.slice v2 nr.length j2)).set 1 2 rfl (.slice v3 np.length j4)
        have z0 := Z.cell 1 0 rfl rfl
        have z1 := Z.cell 1 1 rfl rfl
        have z2 := Z.cell 1 2 rfl rfl
        have O9 := O8.out.seg (seg3 _ (w.heap.size + 1) (.slice v1 nl.length j1) (.slice v2 nr.length j2) (.slice v3 np.length j4)) (.inr P5.out)
        exact bodyPost_ret (v := .tuple #[.agg #[.slice v1 nl.length j1, .slice v2 nr.length j2, .slice v3 np.length j4], .slice none 0 0, .bool false]) (by simp [results, Try.results145, go_sem, z0, z1, z2]) rfl
          ⟨_, _, _, _, lo', hi', n1', h1', n2', h2', n4, h4, _, _, rfl, ⟨P3.out, Z.below.size⟩, ⟨O9.top.2, Nat.le_refl _⟩, O9, Osw.nil (Nat.le_refl _), .inl O9.top.2, Z.below⟩
      | true =>
        obtain rfl : nl = l := by simpa [Hid] using HNL
        obtain rfl : nr = r := by simpa [Hid] using HNR
        obtain rfl : np = ps := by simpa [Hid] using HNP
        obtain rfl : ns = [] := by simpa [Hid] using HNS
        obtain rfl : ok = false := by simpa [Hid] using HOK
        go_wp2_with fail
        go_at_call 103
        refine (CC.out _ X.out.below).mono ?_
        rintro e w8 ⟨x', y', z', lo', hi', n1', h1', n2', h2', n4, h4, rfl, q1, q2, O8, hb⟩
        obtain ⟨v1, j1, rfl⟩ := O8.x.form
        obtain ⟨v2, j2, rfl⟩ := O8.y.form
        obtain ⟨v3, j4, rfl⟩ := O8.z.own.form
        have K8 := hide (X.out.up hb)
        have P3 := hide (Nat.le_trans X.out.below.size q1)
        have P5 := hide (Nat.lt_of_lt_of_le (X.out.lt 1 rfl) q1)
        have O8 := hide O8
        clear d0 d1 d2 hb q1 q2 X
        have g0 : w8.cell? ⟨w.heap.size + 1, 0, none⟩ = some (.slice none 0 0) := K8.out.cell 1 0 rfl rfl
        have g1 : w8.cell? ⟨w.heap.size + 1, 1, none⟩ = some (.slice none 0 0) := K8.out.cell 1 1 rfl rfl
        have g2 : w8.cell? ⟨w.heap.size + 1, 2, none⟩ = some (.slice none 0 0) := K8.out.cell 1 2 rfl rfl
        have f0' := K8.out.free 1 0 rfl
        have f1' := K8.out.free 1 1 rfl
        have f2' := K8.out.free 1 2 rfl
        go_wp2_with fail
        have Z := ((K8.out.set 1 0 rfl (.slice v1 nl.length j1)).set 1 1 rfl (.slice v2 nr.length j2)).set 1 2 rfl (.slice v3 np.length j4)
        have z0 := Z.cell 1 0 rfl rfl
        have z1 := Z.cell 1 1 rfl rfl
        have z2 := Z.cell 1 2 rfl rfl
        have O9 := O8.out.seg (seg3 _ (w.heap.size + 1) (.slice v1 nl.length j1) (.slice v2 nr.length j2) (.slice v3 np.length j4)) (.inr P5.out)
        exact bodyPost_ret (v := .tuple #[.agg #[.slice v1 nl.length j1, .slice v2 nr.length j2, .slice v3 np.length j4], .slice none 0 0, .bool false]) (by simp [results, Try.results145, go_sem, z0, z1, z2]) rfl
          ⟨_, _, _, _, lo', hi', n1', h1', n2', h2', n4, h4, _, _, rfl, ⟨P3.out, Z.below.size⟩, ⟨O9.top.2, Nat.le_refl _⟩, O9, Osw.nil (Nat.le_refl _), .inl O9.top.2, Z.below⟩
    | true =>
      have d0 : w2.cell? ⟨w.heap.size, 0, none⟩ = some (.slice a1 l.length c1) := X.out.cell 0 0 rfl rfl
      have d1 : w2.cell? ⟨w.heap.size, 1, none⟩ = some (.slice a2 r.length c2) := X.out.cell 0 1 rfl rfl
      have d2 : w2.cell? ⟨w.heap.size, 2, none⟩ = some (.slice a3 ps.length c3) := X.out.cell 0 2 rfl rfl
      have hvb := of_decide_eq_true HBD.out.symm
      have CB := hide (fun (W : World) => bound_yes v W hvb.1 hvb.2)
      clear hvb
      go_wp2_with fail
      go_at_call 147
      refine (CB.out _).mono ?_
      rintro e wq ⟨rfl, rfl⟩
      go_wp2_with fail
      go_at_call 173
      refine (CF.out _ X.out.below).mono ?_
      rintro e w3 ⟨rfl, hb⟩
      have X := hide (X.out.up hb)
      have N3 := hide (Nat.le_trans N2.out hb.size)
      clear hb d0 d1 d2
      have d0 : w3.cell? ⟨w.heap.size, 0, none⟩ = some (.slice a1 l.length c1) := X.out.cell 0 0 rfl rfl
      have d1 : w3.cell? ⟨w.heap.size, 1, none⟩ = some (.slice a2 r.length c2) := X.out.cell 0 1 rfl rfl
      have d2 : w3.cell? ⟨w.heap.size, 2, none⟩ = some (.slice a3 ps.length c3) := X.out.cell 0 2 rfl rfl
      cases f1 with
      | true =>
        obtain rfl : nl = l := by simpa [Hid] using HNL
        obtain rfl : nr = r := by simpa [Hid] using HNR
        obtain rfl : np = ps := by simpa [Hid] using HNP
        obtain rfl : ns = [] := by simpa [Hid] using HNS
        obtain rfl : ok = true := by simpa [Hid] using HOK
        go_wp2_with fail
        go_at_call 103
        refine (CC.out _ X.out.below).mono ?_
        rintro e w8 ⟨x', y', z', lo', hi', n1', h1', n2', h2', n4, h4, rfl, q1, q2, O8, hb⟩
        obtain ⟨v1, j1, rfl⟩ := O8.x.form
        obtain ⟨v2, j2, rfl⟩ := O8.y.form
        obtain ⟨v3, j4, rfl⟩ := O8.z.own.form
        have K8 := hide (X.out.up hb)
        have P3 := hide (Nat.le_trans X.out.below.size q1)
        have P5 := hide (Nat.lt_of_lt_of_le (X.out.lt 1 rfl) q1)
        have O8 := hide O8
        clear d0 d1 d2 hb q1 q2 X
        have g0 : w8.cell? ⟨w.heap.size + 1, 0, none⟩ = some (.slice none 0 0) := K8.out.cell 1 0 rfl rfl
        have g1 : w8.cell? ⟨w.heap.size + 1, 1, none⟩ = some (.slice none 0 0) := K8.out.cell 1 1 rfl rfl
        have g2 : w8.cell? ⟨w.heap.size + 1, 2, none⟩ = some (.slice none 0 0) := K8.out.cell 1 2 rfl rfl
        have f0' := K8.out.free 1 0 rfl
        have f1' := K8.out.free 1 1 rfl
        have f2' := K8.out.free 1 2 rfl
        go_wp2_with fail
        have Z := ((K8.out.set 1 0 rfl (.slice v1 nl.length j1)).set 1 1 rfl (.slice v2 nr.length j2)).set 1 2 rfl (.slice v3 np.length j4)
        have z0 := Z.cell 1 0 rfl rfl
        have z1 := Z.cell 1 1 rfl rfl
        have z2 := Z.cell 1 2 rfl rfl
        have O9 := O8.out.seg (seg3 _ (w.heap.size + 1) (.slice v1 nl.length j1) (.slice v2 nr.length j2) (.slice v3 np.length j4)) (.inr P5.out)
        exact bodyPost_ret (v := .tuple #[.agg #[.slice v1 nl.length j1, .slice v2 nr.length j2, .slice v3 np.length j4], .slice none 0 0, .bool true]) (by simp [results, Try.results145, go_sem, z0, z1, z2]) rfl
          ⟨_, _, _, _, lo', hi', n1', h1', n2', h2', n4, h4, _, _, rfl, ⟨P3.out, Z.below.size⟩, ⟨O9.top.2, Nat.le_refl _⟩, O9, Osw.nil (Nat.le_refl _), .inl O9.top.2, Z.below⟩
      | false =>
        obtain rfl : nl = L1 := by simpa [Hid] using HNL
        obtain rfl : nr = R1 := by simpa [Hid] using HNR
        obtain rfl : np = P1 := by simpa [Hid] using HNP
        obtain rfl : ns = sw := by simpa [Hid] using HNS
        obtain rfl : ok = true := by simpa [Hid] using HOK
        go_wp2_with fail
        go_at_call 169
        refine (CP.out _ X.out.below).mono ?_
        rintro e w4 ⟨rfl, hb⟩
        have X := hide (X.out.up hb)
        have N4 := hide (Nat.le_trans N3.out hb.size)
        clear hb d0 d1 d2
        have d0 : w4.cell? ⟨w.heap.size, 0, none⟩ = some (.slice a1 l.length c1) := X.out.cell 0 0 rfl rfl
        have d1 : w4.cell? ⟨w.heap.size, 1, none⟩ = some (.slice a2 r.length c2) := X.out.cell 0 1 rfl rfl
        have d2 : w4.cell? ⟨w.heap.size, 2, none⟩ = some (.slice a3 ps.length c3) := X.out.cell 0 2 rfl rfl
        go_wp2_with fail
        go_at_call 174
        refine (CT.out _ X.out.below).mono ?_
        rintro e w5 ⟨sv, rfl, OS, hb⟩
        obtain ⟨sg, sk, rfl⟩ := OS.form
        have X := hide (X.out.up hb)
        have OS := hide (Osw.of OS hb.size)
        have N5 := hide hb.size
        clear hb d0 d1 d2
        have d0 : w5.cell? ⟨w.heap.size, 0, none⟩ = some (.slice a1 l.length c1) := X.out.cell 0 0 rfl rfl
        have d1 : w5.cell? ⟨w.heap.size, 1, none⟩ = some (.slice a2 r.length c2) := X.out.cell 0 1 rfl rfl
        have d2 : w5.cell? ⟨w.heap.size, 2, none⟩ = some (.slice a3 ps.length c3) := X.out.cell 0 2 rfl rfl
        go_wp2_with fail
        go_at_call 175
        refine (CAp.out _ _ X.out.below (OS.out.own.pvs (Nat.le_refl _) (by have := HNM.out.2.1; omega) HPW.out)).mono ?_
        rintro e w6 ⟨x, y, z, lo, hi, n1, h1, n2, h2, n3, h3, rfl, q1, q2, O, hb⟩
        obtain ⟨x1, k1, rfl⟩ := O.x.form
        obtain ⟨x2, k2, rfl⟩ := O.y.form
        obtain ⟨x3, k3, rfl⟩ := O.z.own.form
        have X := hide (X.out.up hb)
        have OS := hide (OS.out.below hb)
        have HC := hide (O.ck HL1.out.2 HR1.out.2 (by omega) HWP.out)
        clear d0 d1 d2 O q1 q2
        have hs6 := hide hb.size
        clear hb
        have bl := below1 w6 (.cells #[.slice x1 nl.length k1, .slice x2 nr.length k2, .slice x3 ps.length k3] 25)
        have X := hide (X.out.alloc #[.slice x1 nl.length k1, .slice x2 nr.length k2, .slice x3 ps.length k3] 25)
        have OS := hide (OS.out.below bl)
        have HC := hide (HC.out.up bl)
        clear bl
        obtain ⟨m, hm⟩ : ∃ m, m = w6.heap.size := ⟨_, rfl⟩
        obtain ⟨w7, hw7⟩ : ∃ q, q = w6.alloc (.cells #[.slice x1 nl.length k1, .slice x2 nr.length k2, .slice x3 ps.length k3] 25) := ⟨_, rfl⟩
        have hs7 := hide (show w7.heap.size = m + 1 by rw [hw7, hm]; simp)
        rw [← hw7] at X OS HC
        rw [← hm] at X
        have hs6 := hide (show w5.heap.size ≤ m by rw [hm]; exact hs6.out)
        simp only [List.cons_append, List.nil_append] at X
        go_wp2_with fail
        rw [← hw7]
        try rw [← hm]
        clear hw7 hm
        go_at_call 176
        refine (CAd.out _ _ HC.out).mono ?_
        rintro e w8 ⟨x', y', z', lo, hi, n1, h1, n2, h2, n3, h3, rfl, q1, q2, O, hb⟩
        obtain ⟨v1, j1, rfl⟩ := O.x.form
        obtain ⟨v2, j2, rfl⟩ := O.y.form
        obtain ⟨v3, j3, rfl⟩ := O.z.own.form
        have K8 := hide (X.out.up hb)
        have OS := hide (OS.out.below hb)
        have Q1 := hide (show m + 1 ≤ lo by rw [← hs7.out]; exact q1)
        have O := hide O
        clear hb q1 q2 X HC
        have g0 : w8.cell? ⟨w.heap.size + 1, 0, none⟩ = some (.slice none 0 0) := K8.out.cell 1 0 rfl rfl
        have g1 : w8.cell? ⟨w.heap.size + 1, 1, none⟩ = some (.slice none 0 0) := K8.out.cell 1 1 rfl rfl
        have g2 : w8.cell? ⟨w.heap.size + 1, 2, none⟩ = some (.slice none 0 0) := K8.out.cell 1 2 rfl rfl
        have f0' := K8.out.free 1 0 rfl
        have f1' := K8.out.free 1 1 rfl
        have f2' := K8.out.free 1 2 rfl
        have b0 : w8.cell? ⟨m, 0, none⟩ = some (.slice x1 nl.length k1) := K8.out.cell 2 0 rfl rfl
        have b1 : w8.cell? ⟨m, 1, none⟩ = some (.slice x2 nr.length k2) := K8.out.cell 2 1 rfl rfl
        have b2 : w8.cell? ⟨m, 2, none⟩ = some (.slice x3 ps.length k3) := K8.out.cell 2 2 rfl rfl
        have e0 := K8.out.free 2 0 rfl
        have e1 := K8.out.free 2 1 rfl
        have e2 := K8.out.free 2 2 rfl
        have Z0 := ((K8.out.set 2 0 rfl (.slice v1 nl.length j1)).set 2 1 rfl (.slice v2 nr.length j2)).set 2 2 rfl (.slice v3 np.length j3)
        have Z := ((Z0.set 1 0 rfl (.slice v1 nl.length j1)).set 1 1 rfl (.slice v2 nr.length j2)).set 1 2 rfl (.slice v3 np.length j3)
        have z0 := Z.cell 1 0 rfl rfl
        have z1 := Z.cell 1 1 rfl rfl
        have z2 := Z.cell 1 2 rfl rfl
        have HZ := hide Z
        have hne1 : ¬ (m = w.heap.size + 1) := by have := N4.out; have := N5.out; have := hs6.out; omega
        have hne2 : ¬ (w.heap.size + 1 = m) := by omega
        have Q0 := hide (show w.heap.size + 1 + 1 ≤ lo by have := N4.out; have := N5.out; have := hs6.out; have := Q1.out; omega)
        have Q2 := hide (show w.heap.size + 1 + 1 ≤ w4.heap.size from N4.out)
        have hs56 := hide (show w5.heap.size ≤ m from hs6.out)
        clear Z Z0
        go_wp2_with fail
        have O1 := hide (O.out.seg (seg3 _ m (.slice v1 nl.length j1) (.slice v2 nr.length j2) (.slice v3 np.length j3)) (.inr (by have := Q1.out; omega)))
        have O2 := hide (O1.out.seg (seg3 _ (w.heap.size + 1) (.slice v1 nl.length j1) (.slice v2 nr.length j2) (.slice v3 np.length j3)) (.inr Q0.out))
        have T1 := hide (OS.out.seg (seg3 _ m (.slice v1 nl.length j1) (.slice v2 nr.length j2) (.slice v3 np.length j3)) (.inl hs56.out))
        have T2 := hide (T1.out.seg (seg3 _ (w.heap.size + 1) (.slice v1 nl.length j1) (.slice v2 nr.length j2) (.slice v3 np.length j3)) (.inr Q2.out))
        exact bodyPost_ret (v := .tuple #[.agg #[.slice v1 nl.length j1, .slice v2 nr.length j2, .slice v3 np.length j3], .slice sg ns.length sk, .bool true]) (by simp [results, Try.results145, go_sem, z0, z1, z2]) rfl
          ⟨_, _, _, _, lo, hi, n1, h1, n2, h2, n3, h3, _, _, rfl, ⟨by have := Q0.out; omega, by have := Q2.out; omega⟩, ⟨O2.out.top.2, T2.out.top⟩, O2.out, T2.out, .inr (by have := Q1.out; have := hs56.out; omega), HZ.out.below⟩

end Go.Proofs.Ytepkkeclkdlheaa

/- A region that draws its order, by facts of its operations, with memory that passes from one to the next: an operation may take over the blocks of another one (an append writes on in a row; a store fills a box), also of what was there ahead of the region (numbers from the operations' on). Any program. -/
namespace Go.Proofs.Ytepkkeclkdlheaa
open Go.RowKit
set_option linter.unusedSimpArgs false
set_option linter.unusedVariables false

/-- What was there below G and in the blocks of own is as it was. -/
structure Kept2 (G : Nat) (own : Nat → Prop) (W W' : World) : Prop where
  size : W.heap.size ≤ W'.heap.size
  block : ∀ b, b < W.heap.size → (b < G ∨ own b) → W'.heap[b]? = W.heap[b]?

abbrev OFact := Nat → (Nat → Prop) → (Nat → Value) → World → Prop

/-- The rows that part a region: what each operation waits for, whose blocks it takes over, whose facts it wants, which slots its fact names; q: how many owners there were ahead of the region. -/
def ofOk (md : Region.Mode) (ops : Array Oper) (q : Nat) (anc S : List (List Nat)) (takes : List (Option Nat)) (use : List (List Nat)) : Bool :=
  let n := ops.size
  let A := fun i => anc.getD i []
  let T := fun i => takes.getD i none
  (List.range n).all fun i =>
    ((ops[i]?).map fun o => o.after.all fun e => !Region.binds md e || (A i).contains e.on).getD true &&
    ((A i).all fun j => decide (j < i) && ((A j).all fun k => (A i).contains k) && (((ops[i]?).map fun o => o.after.any fun e => Region.binds md e && (e.on == j || (A e.on).contains j)).getD false)) &&
    ((use.getD i []).all fun j => ((A i).contains j || (decide (n ≤ j) && decide (j < n + q))) && (List.range n).all fun k => !(T k == some j) || k == i || (A k).contains i) &&
    (match T i with | none => true | some j => (use.getD i []).contains j) &&
    (List.range n).all fun j => (j == i || (A i).contains j || match rdst ops j with | none => true | some d => !(S.getD i []).contains d)

structure OfStep (F : OFact) (S : List (List Nat)) (takes : List (Option Nat)) (own : Nat → Nat → Prop) (i : Nat) (dst : Option Nat) (a : Act) (W : World) (v : Value) (W' : World) : Prop where
  grow : Below 0 W W'
  keep : ∀ b, b < W.heap.size → (∀ j, takes.getD i none = some j → ¬ own j b) → W'.heap[b]? = W.heap[b]?
  fact : F i (fun b => (W.heap.size ≤ b ∧ b < W'.heap.size) ∨ ∃ j, takes.getD i none = some j ∧ own j b) (visp (S.getD i []) a dst v) W'

/-- An owner's fact and blocks are still its own. -/
def OLive (n : Nat) (takes : List (Option Nat)) (done : Nat → Bool) (i : Nat) : Prop := (i < n → done i = true) ∧ ∀ k, k < n → done k = true → takes.getD k none ≠ some i

structure OfInv (G : Nat) (w0 : World) (a0 : Act) (ops : Array Oper) (q : Nat) (F : OFact) (anc S : List (List Nat)) (takes : List (Option Nat)) (own : Nat → Nat → Prop) (done : Nat → Bool) (a : Act) (W : World) : Prop where
  below : Below G w0 W
  low : G ≤ W.heap.size
  size : a.tmps.size = a0.tmps.size
  defers : a.defers = a0.defers
  rest : ∀ s, (∀ j, j < ops.size → rdst ops j ≠ some s) → slot a s = slot a0 s
  clos : ∀ i, i < ops.size → done i = true → ∀ j ∈ anc.getD i [], done j = true
  fact : ∀ i, i < ops.size + q → OLive ops.size takes done i → F i (own i) (vis (S.getD i []) a) W
  dom : ∀ i, i < ops.size + q → OLive ops.size takes done i → ∀ b, own i b → G ≤ b ∧ b < W.heap.size
  apart : ∀ i j, i < ops.size + q → j < ops.size + q → OLive ops.size takes done i → OLive ops.size takes done j → i ≠ j → ∀ b, own i b → ¬ own j b

section
variable {P : Program} {md : Region.Mode} {ops : Array Oper} {Q : Exit → Act → World → Prop}

theorem ofOk_spec {q : Nat} {anc S : List (List Nat)} {takes : List (Option Nat)} {use : List (List Nat)} (h : ofOk md ops q anc S takes use = true) {i : Nat} (hi : i < ops.size) :
    (∀ o, ops[i]? = some o → ∀ e ∈ o.after, Region.binds md e = true → e.on ∈ anc.getD i []) ∧
    (∀ j ∈ anc.getD i [], j < i ∧ (∀ k ∈ anc.getD j [], k ∈ anc.getD i []) ∧ ∃ o, ops[i]? = some o ∧ ∃ e ∈ o.after, Region.binds md e = true ∧ (e.on = j ∨ j ∈ anc.getD e.on [])) ∧
    (∀ j ∈ use.getD i [], (j ∈ anc.getD i [] ∨ (ops.size ≤ j ∧ j < ops.size + q)) ∧ ∀ k, k < ops.size → takes.getD k none = some j → k = i ∨ i ∈ anc.getD k []) ∧
    (∀ j, takes.getD i none = some j → j ∈ use.getD i []) ∧
    (∀ j, j < ops.size → j ≠ i → j ∉ anc.getD i [] → ∀ d, rdst ops j = some d → (S.getD i []).contains d = false) := by
  have h1 := List.all_eq_true.1 h i (List.mem_range.2 hi)
  simp only [Bool.and_eq_true] at h1
  obtain ⟨⟨⟨⟨h1, h2⟩, h3⟩, h4⟩, h5⟩ := h1
  refine ⟨fun o ho e he hb => ?_, fun j hj => ?_, fun j hj => ?_, fun j hj => ?_, fun j hj hne hna d hd => ?_⟩
  · rw [ho] at h1
    simp only [Option.map_some, Option.getD_some] at h1
    have := Array.all_eq_true'.1 h1 e he
    rw [hb] at this
    simpa using this
  · have := List.all_eq_true.1 h2 j hj
    simp only [Bool.and_eq_true, decide_eq_true_eq] at this
    refine ⟨this.1.1, fun k hk => by simpa using List.all_eq_true.1 this.1.2 k hk, ?_⟩
    have h5 := this.2
    cases ho : ops[i]? with
    | none => rw [ho] at h5; cases h5
    | some o =>
      rw [ho] at h5
      simp only [Option.map_some, Option.getD_some] at h5
      obtain ⟨k, hk, h6⟩ := Array.any_eq_true.1 h5
      simp only [Bool.and_eq_true, Bool.or_eq_true, beq_iff_eq, List.contains_iff_mem] at h6
      exact ⟨o, rfl, _, Array.getElem_mem hk, h6.1, h6.2⟩
  · have := List.all_eq_true.1 h3 j hj
    simp only [Bool.and_eq_true, Bool.or_eq_true, decide_eq_true_eq, List.contains_iff_mem] at this
    refine ⟨this.1, fun k hk ht => ?_⟩
    have h6 := List.all_eq_true.1 this.2 k (List.mem_range.2 hk)
    simp only [Bool.or_eq_true, beq_iff_eq, List.contains_iff_mem] at h6
    rcases h6 with (h6 | h6) | h6
    · rw [ht] at h6; simp at h6
    · exact .inl h6
    · exact .inr h6
  · rw [hj] at h4
    simpa using h4
  · have := List.all_eq_true.1 h5 j (List.mem_range.2 hj)
    simp only [Bool.or_eq_true, beq_iff_eq] at this
    rcases this with (h6 | h6) | h6
    · exact absurd h6 hne
    · exact absurd (by simpa using h6) hna
    · rw [hd] at h6
      simpa using h6

theorem wpAny_own {a0 : Act} {w0 : World} (G q : Nat) (F : OFact) (anc S : List (List Nat)) (takes : List (Option Nat)) (use : List (List Nat)) (own0 : Nat → Nat → Prop)
    (hok : ofOk md ops q anc S takes use = true) (hfits : rfFits ops a0.tmps.size = true) (t m : Nat) (htm : t + m = ops.size) (htl : rfTl ops.size t anc = true)
    (hG : G ≤ w0.heap.size)
    (h0 : ∀ i, ops.size ≤ i → i < ops.size + q → F i (own0 i) (vis (S.getD i []) a0) w0 ∧ ∀ b, own0 i b → G ≤ b ∧ b < w0.heap.size)
    (h0a : ∀ i j, ops.size ≤ i → i < ops.size + q → ops.size ≤ j → j < ops.size + q → i ≠ j → ∀ b, own0 i b → ¬ own0 j b)
    (hS : ∀ i, ops.size ≤ i → S.getD i [] = [])
    (hst : ∀ i, i < t ∨ ops.size ≤ i → i < ops.size + q → ∀ ow s W W', F i ow s W → (∀ b, ow b → b < W.heap.size) → G ≤ W.heap.size → Kept2 G ow W W' → F i ow s W')
    (hstep : ∀ i, i < t → ∀ (a : Act) (W : World) (own : Nat → Nat → Prop), Below G w0 W → G ≤ W.heap.size → a.tmps.size = a0.tmps.size → a.defers = a0.defers → (∀ s, (∀ j, j < ops.size → rdst ops j ≠ some s) → slot a s = slot a0 s) →
      (∀ j ∈ use.getD i [], F j (own j) (vis (S.getD j []) a) W) → (∀ j ∈ use.getD i [], ∀ b, own j b → G ≤ b ∧ b < W.heap.size) → (∀ j ∈ use.getD i [], ∀ k ∈ use.getD i [], j ≠ k → ∀ b, own j b → ¬ own k b) →
      ∀ K : Act → World → Prop, (∀ v W', OfStep F S takes own i (rdst ops i) a W v W' → K (a.put (rdst ops i) v) W') → wpOp P ops Q i K a W)
    (hfin : ∀ (a : Act) (W : World) (own : Nat → Nat → Prop), OfInv G w0 a0 ops q F anc S takes own (fun i => decide (i < t)) a W → rfTail P ops Q m t a W) :
    wpAny P md ops Q ops.size (Array.replicate ops.size false) a0 { w0 with drawn := w0.drawn + 1 } := by
  have tail : ∀ (listed : Array Bool) (a : Act) (W : World) (own : Nat → Nat → Prop), OfInv G w0 a0 ops q F anc S takes own (fun k => listed.getD k false) a W → (∀ j, j < t → listed.getD j false = true) → (∀ j, t ≤ j → j < ops.size → listed.getD j false = false) → rfTail P ops Q m t a W := by
    intro listed a W own I hl hn
    have hlive : ∀ i, OLive ops.size takes (fun i => decide (i < t)) i → OLive ops.size takes (fun k => listed.getD k false) i := by
      rintro i ⟨h1, h2⟩
      refine ⟨fun hi => hl i (of_decide_eq_true (h1 hi)), fun k hk hd => h2 k hk ?_⟩
      rcases Nat.lt_or_ge k t with h | h
      · exact decide_eq_true h
      · have := hn k h hk
        simp only at hd
        rw [this] at hd
        cases hd
    refine hfin a W own ⟨I.below, I.low, I.size, I.defers, I.rest, fun i hi hd j hj => ?_, fun i hi hv => I.fact i hi (hlive i hv), fun i hi hv => I.dom i hi (hlive i hv), fun i j hi hj h1 h2 => I.apart i j hi hj (hlive i h1) (hlive j h2)⟩
    obtain ⟨-, r2, -⟩ := ofOk_spec hok hi
    exact decide_eq_true (Nat.lt_trans (r2 j hj).1 (of_decide_eq_true hd))
  refine wpAny_inv (fun listed a W => (∃ own, OfInv G w0 a0 ops q F anc S takes own (fun k => listed.getD k false) a W ∧ ∀ k, t ≤ k → k < ops.size → listed.getD k false = false) ∨ (∃ k p, t ≤ k ∧ k + p = ops.size ∧ (∀ j, j < k → listed.getD j false = true) ∧ (∀ j, k ≤ j → j < ops.size → listed.getD j false = false) ∧ rfTail P ops Q p k a W)) ?_ ?_ _ _ _ _ (by simp) (by simp) ?_
  · intro listed a W i hI hs hi hli hdep
    have hlf : listed.getD i false = false := by
      have hil : i < listed.size := by omega
      simp only [Array.getD, hil, dif_pos] at hli ⊢
      exact hli
    obtain ⟨r1, r2, r3, r4, r5⟩ := ofOk_spec hok hi
    rcases hI with ⟨own, I, htn⟩ | ⟨k, p, hk1, hk2, hk3, hk4, hT⟩
    rotate_left
    · have hki : k ≤ i := by
        rcases Nat.lt_or_ge i k with h | h
        · have := hk3 i h; rw [hlf] at this; cases this
        · exact h
      have hik : i = k := by
        rcases Nat.lt_or_ge k i with h | h
        · exfalso
          have hm := rfTl_spec htl hi (Nat.le_trans hk1 hki) k h
          obtain ⟨-, -, o, ho, e, he, hb, hc⟩ := r2 k hm
          have hl := hdep o ho e he hb
          have hon : e.on < k := by
            rcases Nat.lt_or_ge e.on k with h2 | h2
            · exact h2
            · have := hk4 e.on h2 (Nat.lt_trans (r2 _ (r1 o ho e he hb)).1 hi)
              rw [this] at hl; cases hl
          rcases hc with rfl | hc
          · omega
          · have hen : e.on < ops.size := by omega
            obtain ⟨-, s2, -⟩ := ofOk_spec hok hen
            have := (s2 k hc).1
            omega
        · omega
      subst hik
      obtain ⟨p, rfl⟩ : ∃ p', p = p' + 1 := ⟨p - 1, by omega⟩
      have hil : i < listed.size := by omega
      refine wpOp_mono (fun a' W' hT' => .inr ⟨i + 1, p, by omega, by omega, fun j hj => ?_, fun j hj hjn => ?_, hT'⟩) hT
      · rw [listed_set hil]
        by_cases e : j = i
        · rw [if_pos e]
        · rw [if_neg e]; exact hk3 j (by omega)
      · rw [listed_set hil, if_neg (by omega)]
        exact hk4 j (by omega) hjn
    have hd : ∀ j ∈ anc.getD i [], listed.getD j false = true := by
      intro j hj
      obtain ⟨-, -, o, ho, e, he, hb, hc⟩ := r2 j hj
      have hl := hdep o ho e he hb
      rcases hc with rfl | hc
      · exact hl
      · have hen : e.on < ops.size := Nat.lt_trans (r2 _ (r1 o ho e he hb)).1 hi
        exact I.clos _ hen hl j hc
    rcases Nat.lt_or_ge i t with hit | hit
    rotate_left
    · have hit2 : i = t := by
        rcases Nat.lt_or_ge t i with h | h
        · have h1 := hd t (rfTl_spec htl hi hit t h)
          rw [htn t (Nat.le_refl _) (by omega)] at h1
          cases h1
        · omega
      subst hit2
      have hall : ∀ j, j < i → listed.getD j false = true := fun j hj => hd j (rfTl_spec htl hi (Nat.le_refl _) j hj)
      have hT := tail listed a W own I hall htn
      obtain ⟨p, rfl⟩ : ∃ p', m = p' + 1 := ⟨m - 1, by omega⟩
      have hil : i < listed.size := by omega
      refine wpOp_mono (fun a' W' hT' => .inr ⟨i + 1, p, by omega, by omega, fun j hj => ?_, fun j hj hjn => ?_, hT'⟩) hT
      · rw [listed_set hil]
        by_cases e : j = i
        · rw [if_pos e]
        · rw [if_neg e]; exact hall j (by omega)
      · rw [listed_set hil, if_neg (by omega)]
        exact htn j (by omega) hjn
    -- an operation before the tail
    have live : ∀ j ∈ use.getD i [], j < ops.size + q ∧ OLive ops.size takes (fun k => listed.getD k false) j := by
      intro j hj
      obtain ⟨h1, h2⟩ := r3 j hj
      refine ⟨?_, fun hjn => ?_, fun k hk hkd ht => ?_⟩
      · rcases h1 with h1 | h1
        · have := (r2 j h1).1; omega
        · exact h1.2
      · rcases h1 with h1 | h1
        · exact hd j h1
        · omega
      · rcases h2 k hk ht with rfl | h3
        · simp only at hkd; rw [hlf] at hkd; cases hkd
        · have this : listed.getD i false = true := I.clos k hk hkd i h3
          rw [hlf] at this
          cases this
    refine hstep i hit a W own I.below I.low I.size I.defers I.rest (fun j hj => I.fact j (live j hj).1 (live j hj).2) (fun j hj => I.dom j (live j hj).1 (live j hj).2) (fun j hj k hk hne => I.apart j k (live j hj).1 (live k hk).1 (live j hj).2 (live k hk).2 hne) _ ?_
    intro v W' R
    refine .inl ?_
    have hil : i < listed.size := by omega
    have hset := fun k => listed_set (listed := listed) (i := i) (k := k) hil
    have hvv : ∀ T : List Nat, vis T (a.put (rdst ops i) v) = visp T a (rdst ops i) v := fun T => vis_visp fun x hx => by rw [I.size]; exact rfFits_spec hfits hi x hx
    have hone : ∀ k, k < ops.size → (if k = i then true else listed.getD k false) = true → k = i ∨ listed.getD k false = true := by
      intro k _ h
      by_cases e : k = i
      · exact .inl e
      · rw [if_neg e] at h; exact .inr h
    -- who is still an owner behind the step, and is not i, was one ahead of it
    have old : ∀ k, k ≠ i → OLive ops.size takes (fun x => (listed.setIfInBounds i true).getD x false) k → OLive ops.size takes (fun x => listed.getD x false) k ∧ takes.getD i none ≠ some k := by
      rintro k hne ⟨h1, h2⟩
      refine ⟨⟨fun hk => ?_, fun x hx hxd => h2 x hx ?_⟩, h2 i hi ?_⟩
      · have := h1 hk
        simp only [hset] at this
        rw [if_neg hne] at this
        exact this
      · simp only [hset]
        by_cases e : x = i
        · simp [e]
        · rw [if_neg e]; exact hxd
      · simp only [hset]
        simp
    have keepV : ∀ k, k ≠ i → k < ops.size + q → OLive ops.size takes (fun x => listed.getD x false) k → vis (S.getD k []) (a.put (rdst ops i) v) = vis (S.getD k []) a := by
      intro k hne hk hv
      rcases Nat.lt_or_ge k ops.size with h | h
      · obtain ⟨-, -, -, -, s5⟩ := ofOk_spec hok h
        have hna : i ∉ anc.getD k [] := fun hm => by
          have this : listed.getD i false = true := I.clos k h (hv.1 h) i hm
          rw [hlf] at this
          cases this
        exact vis_put fun x hx => s5 i hi (Ne.symm hne) hna x hx
      · rw [hS k h]
        funext x
        simp [vis]
    have hlow : G ≤ W'.heap.size := Nat.le_trans I.low R.grow.size
    have hkeepG : ∀ b, b < G → W'.heap[b]? = W.heap[b]? := fun b hb => R.keep b (Nat.lt_of_lt_of_le hb I.low) fun j hj ho => by
      have := (I.dom j (live j (r4 j hj)).1 (live j (r4 j hj)).2 b ho).1
      omega
    refine ⟨fun k => if k = i then (fun b => (W.heap.size ≤ b ∧ b < W'.heap.size) ∨ ∃ j, takes.getD i none = some j ∧ own j b) else own k, ⟨⟨R.grow.os.trans I.below.os, R.grow.tape.trans I.below.tape, R.grow.output.trans I.below.output, Nat.le_trans I.below.size R.grow.size, fun b hb => (hkeepG b hb).trans (I.below.block b hb)⟩, hlow, (put_size _ _ _).1.trans I.size, (put_size _ _ _).2.trans I.defers, fun s h => (slot_put (h i hi)).trans (I.rest s h), ?_, ?_, ?_, ?_⟩, ?_⟩
    · intro k hk hkd j hj
      simp only [hset] at hkd ⊢
      rcases hone k hk hkd with rfl | hkl
      · by_cases e : j = k
        · rw [if_pos e]
        · rw [if_neg e]; exact hd j hj
      · by_cases e : j = i
        · rw [if_pos e]
        · rw [if_neg e]; exact I.clos k hk hkl j hj
    · intro k hk hv
      by_cases e : k = i
      · subst e
        simp only [if_pos]
        rw [hvv]
        exact R.fact
      · obtain ⟨hv0, hnt⟩ := old k e hv
        simp only [if_neg e]
        rw [keepV k e hk hv0]
        have hkt : k < t ∨ ops.size ≤ k := by
          rcases Nat.lt_or_ge k ops.size with h | h
          · rcases Nat.lt_or_ge k t with h2 | h2
            · exact .inl h2
            · have this : listed.getD k false = true := hv0.1 h
              rw [htn k h2 h] at this
              cases this
          · exact .inr h
        refine hst k hkt hk _ _ _ _ (I.fact k hk hv0) (fun b hb => (I.dom k hk hv0 b hb).2) I.low ⟨R.grow.size, fun b hb ho => ?_⟩
        rcases ho with ho | ho
        · exact hkeepG b ho
        · refine R.keep b hb fun j hj ho2 => ?_
          have hjk : k ≠ j := fun e2 => hnt (by rw [hj, e2])
          exact I.apart k j hk (live j (r4 j hj)).1 hv0 (live j (r4 j hj)).2 hjk b ho ho2
    · intro k hk hv b hb
      by_cases e : k = i
      · subst e
        simp only [if_pos] at hb
        rcases hb with hb | ⟨j, hj, hb⟩
        · exact ⟨Nat.le_trans I.low hb.1, hb.2⟩
        · obtain ⟨q1, q2⟩ := I.dom j (live j (r4 j hj)).1 (live j (r4 j hj)).2 b hb
          exact ⟨q1, Nat.lt_of_lt_of_le q2 R.grow.size⟩
      · obtain ⟨hv0, -⟩ := old k e hv
        simp only [if_neg e] at hb
        obtain ⟨q1, q2⟩ := I.dom k hk hv0 b hb
        exact ⟨q1, Nat.lt_of_lt_of_le q2 R.grow.size⟩
    · -- the blocks of two owners lie apart
      have cross : ∀ k, k ≠ i → k < ops.size + q → OLive ops.size takes (fun x => (listed.setIfInBounds i true).getD x false) k → ∀ b, ((W.heap.size ≤ b ∧ b < W'.heap.size) ∨ ∃ j, takes.getD i none = some j ∧ own j b) → ¬ own k b := by
        intro k e hk hv b hb ho
        obtain ⟨hv0, hnt⟩ := old k e hv
        rcases hb with hb | ⟨j, hj, hb⟩
        · have := (I.dom k hk hv0 b ho).2
          omega
        · have hjk : j ≠ k := fun e2 => hnt (by rw [hj, e2])
          exact I.apart j k (live j (r4 j hj)).1 hk (live j (r4 j hj)).2 hv0 hjk b hb ho
      intro j k hj hk hvj hvk hne b hbj hbk
      by_cases ej : j = i
      · subst ej
        have ek : k ≠ j := Ne.symm hne
        simp only [if_pos] at hbj
        simp only [if_neg ek] at hbk
        exact cross k ek hk hvk b hbj hbk
      · simp only [if_neg ej] at hbj
        by_cases ek : k = i
        · subst ek
          simp only [if_pos] at hbk
          exact cross j ej hj hvj b hbk hbj
        · simp only [if_neg ek] at hbk
          exact I.apart j k hj hk (old j ej hvj).1 (old k ek hvk).1 hne b hbj hbk
    · intro k h1 h2
      rw [hset, if_neg (by omega)]
      exact htn k h1 h2
  · intro listed a W hI hs hnil
    have hall := ready_nil' (fun i o ho e he hb => by
      have hi : i < ops.size := (Array.getElem?_eq_some_iff.1 ho).1
      obtain ⟨r1, r2, -⟩ := ofOk_spec hok hi
      exact (r2 _ (r1 o ho e he hb)).1) hs hnil
    rcases hI with ⟨own, I, htn⟩ | ⟨k, p, hk1, hk2, hk3, hk4, hT⟩
    · have hm : m = 0 := by
        rcases Nat.eq_zero_or_pos m with h | h
        · exact h
        · have h1 := hall t (by omega)
          rw [htn t (Nat.le_refl _) (by omega)] at h1
          cases h1
      have hT := tail listed a W own I (fun j hj => hall j (by omega)) htn
      rw [hm] at hT
      exact hT
    · have hp : p = 0 := by
        rcases Nat.eq_zero_or_pos p with h | h
        · exact h
        · have h1 := hall k (by omega)
          rw [hk4 k (Nat.le_refl _) (by omega)] at h1
          cases h1
      rw [hp] at hT
      exact hT
  · have hz : ∀ k, (Array.replicate ops.size false).getD k false = false := fun k => by
      simp [Array.getD]
    have nolive : ∀ i, i < ops.size → ¬ OLive ops.size takes (fun k => (Array.replicate ops.size false).getD k false) i := fun i hi h => by
      have := h.1 hi
      simp only [hz] at this
      cases this
    refine .inl ⟨own0, ⟨(Below.refl _ _).drew, hG, rfl, rfl, fun _ _ => rfl, fun i hi hd => ?_, fun i hi hv => ?_, fun i hi hv => ?_, fun i j hi hj hvi hvj => ?_⟩, fun k _ _ => hz k⟩
    · simp only [hz] at hd
      cases hd
    · rcases Nat.lt_or_ge i ops.size with h | h
      · exact absurd hv (nolive i h)
      · obtain ⟨q1, q2⟩ := h0 i h hi
        refine hst i (.inr h) hi _ _ _ _ q1 (fun b hb => (q2 b hb).2) hG ⟨Nat.le_refl _, fun b _ _ => rfl⟩
    · rcases Nat.lt_or_ge i ops.size with h | h
      · exact absurd hv (nolive i h)
      · exact (h0 i h hi).2
    · rcases Nat.lt_or_ge i ops.size with h | h
      · exact absurd hvi (nolive i h)
      rcases Nat.lt_or_ge j ops.size with h' | h'
      · exact absurd hvj (nolive j h')
      exact h0a i j h hi h' hj

end

end Go.Proofs.Ytepkkeclkdlheaa

/- What divide of a carrier does (gen_cmi.py; promise 8). -/
namespace Go.Proofs.Ytepkkeclkdlheaa
open Go.RowKit Go.ChangeShapes
set_option linter.unusedSimpArgs false
set_option linter.unusedVariables false
set_option maxRecDepth 100000

theorem Seg.hold {a b g : Nat} {w w' : World} {c : Obj} (s : Seg a b w w') (h : w.heap[g]? = some c) (d : g < a ∨ b ≤ g) : w'.heap[g]? = some c := by
  have hlt := (Array.getElem?_eq_some_iff.1 h).1
  rcases d with d | d
  · rw [s.below.block g d]; exact h
  · rw [s.over g d hlt]; exact h
theorem hold_below {g : Nat} {w w' : World} {c : Obj} (s : Below w.heap.size w w') (h : w.heap[g]? = some c) : w'.heap[g]? = some c := by
  rw [s.block g (Array.getElem?_eq_some_iff.1 h).1]; exact h

/-- Two elements of a list of the call's own change places, one behind the other. -/
theorem Ow.exch {w : World} {v : Value} {l : List Int} {lo hi i j : Nat} (h : Ow w v l lo hi) (hi' : i < l.length) (hj' : j < l.length) :
    ∃ gt cap x y c t, v = .slice (some ⟨gt, 0, none⟩) l.length cap ∧ lo ≤ gt ∧ gt < hi ∧ w.heap[gt]? = some (.cells c t (0, 0)) ∧
      (w.cell? ⟨gt, i, none⟩ = some (.int .i64 x) ∧ w.cell? ⟨gt, j, none⟩ = some (.int .i64 y) ∧ w.frozen? ⟨gt, i, none⟩ = false) ∧
      ∀ W : World, W.heap[gt]? = some (.cells (c.setIfInBounds i (.int .i64 y)) t (0, 0)) → w.heap.size ≤ W.heap.size → W.frozen? ⟨gt, j, none⟩ = false ∧ (∃ q, W.cell? ⟨gt, j, none⟩ = some q) ∧ Ow (W.setCell ⟨gt, j, none⟩ (.int .i64 x)) v (swapAt l i j) lo hi := by
  obtain ⟨⟨F, ⟨o, rfl⟩, hF⟩, hle, htop⟩ := h
  obtain ⟨a, cap, rfl⟩ := Is.form o
  rcases o.2 with ⟨e, hn⟩ | ⟨g, cap', cur, e, h1, h2, hrest⟩
  · exfalso
    injection e with e1 e2 e3
    omega
  injection e with e1 e2 e3
  subst e1 e3
  have hg := hF g (by simp [Value.ownBlock])
  obtain ⟨ci, fi, gi, gs, -⟩ := o.cell i hi'
  obtain ⟨cj, fj, -⟩ := o.cell j hj'
  have O1 := o.store rfl i (l[j]'hj')
  have O2 := O1.store (by simp) j (l[i]'hi')
  obtain ⟨cj1, fj1, -⟩ := O1.cell j (by simp; exact hj')
  have E1 : swapAt l i j = (l.set i (l[j]'hj')).set j (l[i]'hi') := by simp [swapAt, List.getD, hi', hj']
  refine ⟨g, cap, l[i]'hi', l[j]'hj', _, _, rfl, hg.1, hg.2, h2, ⟨ci, cj, fi⟩, fun W hW hs => ?_⟩
  have hsame : W.heap[g]? = (w.setCell ⟨g, i, none⟩ (.int .i64 (l[j]'hj'))).heap[g]? := by rw [hW, heap_setCell_same w g i _ _ _ h2]
  have hs2 : (W.setCell ⟨g, j, none⟩ (.int .i64 (l[i]'hi'))).heap[g]? = ((w.setCell ⟨g, i, none⟩ (.int .i64 (l[j]'hj'))).setCell ⟨g, j, none⟩ (.int .i64 (l[i]'hi'))).heap[g]? := by
    rw [heap_setCell_same W g j _ _ _ hW, heap_setCell_same _ g j _ _ _ (heap_setCell_same w g i _ _ _ h2)]
  refine ⟨(World.frozen?_of_block (a := ⟨g, j, none⟩) hsame).trans fj1, ⟨_, (World.cell?_of_block (a := ⟨g, j, none⟩) hsame).trans cj1⟩, ?_⟩
  rw [E1]
  have O3 : OI ((w.setCell ⟨g, i, none⟩ (.int .i64 (l[j]'hj'))).setCell ⟨g, j, none⟩ (.int .i64 (l[i]'hi'))) 3 _ _ _ := ⟨O2, rfl⟩
  have sg := Seg.setCell W g j (.int .i64 (l[i]'hi'))
  exact ⟨⟨_, O3.eq (fun b hb => by
    obtain rfl : b = g := by simpa [Value.ownBlock] using hb
    exact hs2), hF⟩, hle, Nat.le_trans htop (Nat.le_trans hs sg.below.size)⟩

/-- A bool is returned; the carrier's column is a new one, its list has turned with it. -/
def RetDiv (w : World) (g : Nat) (s4 : Value) (l r : List Int) (ps : List Pv) (t : List Int) (n2 h2 : Nat) (b : Bool) (e : Ending) (w' : World) : Prop :=
  ∃ y1 y2 y3 lo hi, e = .returned (.bool b) ∧ w'.heap[g]? = some (.cells #[y1, y2, y3, s4] 113 (0, 0)) ∧ Oc w' (.agg #[y1, y2, y3]) l r ps lo hi ∧ Ow w' s4 t n2 h2 ∧ (w.heap.size ≤ lo ∧ hi ≤ w'.heap.size) ∧ ∀ G, G ≤ g → G ≤ n2 → G ≤ w.heap.size → Below G w w'

set_option maxHeartbeats 8000000 in
theorem iDiv_any (g B : Nat) (q1 q2 q3 s4 : Value) (l r : List Int) (ps : List Pv) (t : List Int) (v : Int) (n2 h2 : Nat) (w : World) (hg : w.heap[g]? = some (.cells #[q1, q2, q3, s4] 113 (0, 0))) (hc : Ck w B (.agg #[q1, q2, q3]) l r ps) (hB : B ≤ w.heap.size) (ht : Ow w s4 t n2 h2) (hgn : g < n2 ∨ h2 ≤ g) (k1 : l.length ≤ 1048576) (k2 : r.length ≤ 1048576) (k3 : ps.length ≤ 1048576) (hv : I64 v) (hl : t.length = l.length) :
    Calls Try.prog 86 #[.pointer (some ⟨g, 0, none⟩), .int .i64 v] w (RetDiv w g s4 (crL l r ps v) (crR l r ps v) (crP l r ps v) (swaps t (crS l r ps v)) n2 h2 (crOk l r ps v)) := by
  obtain ⟨a1, c1, a2, c2, a3, c3, e, -⟩ := hc.form
  injection e with e
  injection e with e
  injection e with e1 e
  injection e with e2 e
  injection e with e3 e
  subst e1 e2 e3
  obtain ⟨wl, wr_, wpl, wp⟩ : CkWf l r ps := hc.wf
  have HCK := hide (fun (W : World) (h : Below w.heap.size w W) => iCrack_any _ l r ps v W B (hc.below h hB) (Nat.le_trans hB h.size) k1 k2 k3 hv)
  have HCW := hide (crack_wf l r ps v k1 k2 k3 wl wr_ wp hv)
  have HSI := hide (crS_in (r := r) (ps := ps) (v := v) k1)
  have HLT := hide hl
  obtain ⟨L, hL⟩ : ∃ q, q = crL l r ps v := ⟨_, rfl⟩
  obtain ⟨R, hR⟩ : ∃ q, q = crR l r ps v := ⟨_, rfl⟩
  obtain ⟨P, hP⟩ : ∃ q, q = crP l r ps v := ⟨_, rfl⟩
  obtain ⟨sw, hS⟩ : ∃ q, q = crS l r ps v := ⟨_, rfl⟩
  obtain ⟨ok, hO⟩ : ∃ q, q = crOk l r ps v := ⟨_, rfl⟩
  rw [← hL, ← hR, ← hP, ← hS, ← hO] at HCK
  rw [← hS] at HSI HCW
  rw [← hL, ← hR, ← hP, ← hS, ← hO]
  clear hL hR hP hS hO hc hl wl wr_ wpl wp
  obtain ⟨s4a, s4c, rfl⟩ := ht.form
  have HT := hide ht
  have HG := hide hg
  have d0 : w.cell? ⟨g, 0, none⟩ = some (.slice a1 l.length c1) := cell_of_row w g 0 _ _ (0, 0) hg
  have d1 : w.cell? ⟨g, 1, none⟩ = some (.slice a2 r.length c2) := cell_of_row w g 1 _ _ (0, 0) hg
  have d2 : w.cell? ⟨g, 2, none⟩ = some (.slice a3 ps.length c3) := cell_of_row w g 2 _ _ (0, 0) hg
  have hgs := (Array.getElem?_eq_some_iff.1 hg).1
  clear hg ht
  go_enter Try.func86, Try.ntmps86
  go_wp2_with fail
  go_at_call 145
  refine (HCK.out _ (Below.refl _ _)).mono ?_
  rintro e u1 ⟨v1, v2, v3, sv, lo, hi, n1', h1', n2', h2', n3', h3', slo, shi, rfl, ⟨g1, g2⟩, ⟨g3, g4⟩, oc, os, ap, hb⟩
  have OC1 := Oc.of oc (Nat.le_refl _) (Nat.le_refl _) g3
  have htop := oc.top
  clear oc d0 d1 d2
  obtain ⟨w1, r1, w2, r2, w3, r3, e⟩ := OC1.form
  injection e with e
  injection e with e
  injection e with e1 e
  injection e with e2 e
  injection e with e3 e
  subst e1 e2 e3
  clear e
  obtain ⟨sa, sc, rfl⟩ := os.own.form
  have HG1 := hold_below hb HG.out
  have HT1 := HT.out.below hb
  have htle := HT.out.le
  have httop := HT.out.top
  have hsz := hb.size
  have HBL := hide hb
  clear hb HG HT
  have q9 := os.le
  have q8 := os.top
  have hbl := below1 u1 (.cells #[.slice w1 L.length r1, .slice w2 R.length r2, .slice w3 P.length r3] 25)
  have GD := hide (hold_below hbl HG1)
  have OT := hide (HT1.below hbl)
  have OC1 := hide (OC1.below hbl)
  have OS := hide (os.below hbl)
  have GY := hide (heap_alloc_new u1 (.cells #[.slice w1 L.length r1, .slice w2 R.length r2, .slice w3 P.length r3] 25))
  have HBL := hide (fun (G : Nat) (h : G ≤ w.heap.size) => (HBL.out.mono h).trans (hbl.mono (Nat.le_trans h hsz)))
  clear os HG1 HT1 hbl
  obtain ⟨u2, hu2⟩ : ∃ q, q = u1.alloc (.cells #[.slice w1 L.length r1, .slice w2 R.length r2, .slice w3 P.length r3] 25) := ⟨_, rfl⟩
  obtain ⟨b5, hb5⟩ : ∃ q, q = u1.heap.size := ⟨_, rfl⟩
  have z5 : b5 = u1.heap.size ∧ u2.heap.size = b5 + 1 := by rw [hu2, hb5]; simp
  rw [← hu2] at GD OT OC1 OS GY HBL
  rw [← hb5] at GY
  have HN := hide (show g < w.heap.size ∧ n2 ≤ h2 ∧ h2 ≤ w.heap.size ∧ w.heap.size ≤ lo ∧ lo ≤ hi ∧ hi ≤ b5 ∧ w.heap.size ≤ slo ∧ slo ≤ shi ∧ shi ≤ b5 ∧ (hi ≤ slo ∨ shi ≤ lo) ∧ u2.heap.size = b5 + 1 ∧ (g < n2 ∨ h2 ≤ g) ∧ w.heap.size ≤ b5 by omega)
  clear q9 q8 z5 g1 g2 g3 g4 ap htop htle httop hsz hgs hgn
  go_upto_region 3 with fail
  try rw [← hu2]
  try rw [← hb5]
  clear hu2 hb5

  go_loopw [22] (fun u wr => ∃ (k : Nat), k ≤ sw.length ∧ u = .int .i64 k ∧ Hid (wr.heap[g]? = some (.cells #[.slice a1 l.length c1, .slice a2 r.length c2, .slice a3 ps.length c3, .slice s4a t.length s4c] 113 (0, 0))) ∧ Hid (wr.heap[b5]? = some (.cells #[.slice w1 L.length r1, .slice w2 R.length r2, .slice w3 P.length r3] 25 (0, 0))) ∧ Hid (Ow wr (.slice s4a t.length s4c) (swaps t (sw.take k)) n2 h2) ∧ Hid (Oc wr (.agg #[.slice w1 L.length r1, .slice w2 R.length r2, .slice w3 P.length r3]) L R P lo hi) ∧ Hid (Osw wr (.slice sa sw.length sc) sw slo shi) ∧ Hid (u2.heap.size ≤ wr.heap.size) ∧ Hid (∀ G, G ≤ g → G ≤ n2 → G ≤ w.heap.size → Below G w wr)) (fun u _ => sw.length - (intOf u).toNat)
  case atStart => exact ⟨0, by omega, rfl, GD.out, GY.out, by simpa [Hid, swaps] using OT.out, OC1.out, OS.out, Nat.le_refl _, fun G h1 h2 h3 => HBL.out G h3⟩
  case round =>
    clear GD GY OT OC1 OS HBL
    obtain ⟨k, hk, rfl, GD, GY, OT, OC1, OS, HZ, HBL⟩ := hrel
    have hswl := HCW.out.2.2.2.2.2.2.1
    by_cases hlt : k < sw.length
    · have es := hide (swaps_take t sw k hlt)
      obtain ⟨ad, cap, e, -, -, hcell⟩ := OS.out.own.pvs (Nat.le_refl _) (by omega) HCW.out.2.2.2.2.2.2.2
      simp only [Value.slice.injEq, true_and] at e
      obtain ⟨rfl, -⟩ := e
      obtain ⟨b1, o1, rfl, hb1, hc1, hc2⟩ := hcell k hlt
      have hq := HSI.out sw[k] (List.getElem_mem hlt)
      obtain ⟨x, hx⟩ : ∃ x, x = sw[k].1 := ⟨_, rfl⟩
      obtain ⟨y, hy⟩ : ∃ y, y = sw[k].2 := ⟨_, rfl⟩
      rw [← hx, ← hy] at hq
      rw [← hx] at hc1
      rw [← hy] at hc2
      obtain ⟨ii, rfl⟩ := Int.eq_ofNat_of_zero_le hq.1
      obtain ⟨jj, rfl⟩ := Int.eq_ofNat_of_zero_le (show 0 ≤ y by omega)
      have ES := hide (show swaps t (sw.take (k + 1)) = swapAt (swaps t (sw.take k)) ii jj by rw [es.out, ← hx, ← hy]; rfl)
      have hsl : (swaps t (sw.take k)).length = t.length := swaps_length _ _
      have hlt2 := HLT.out
      obtain ⟨gt, cap, x, y, tcs, tty, e, gl, gh, grow, gread, hex⟩ := OT.out.exch (i := ii) (j := jj) (by omega) (by omega)
      have gs := (Array.getElem?_eq_some_iff.1 grow).1
      simp only [Value.slice.injEq] at e
      obtain ⟨rfl, -, rfl⟩ := e
      have HEX := hide hex
      have HGT := hide (And.intro gl (And.intro gh gs))
      have HRD := hide gread
      have GR := hide grow
      have hij : ii < t.length ∧ jj < t.length := by omega
      clear hcell hx hy es hq hsl hlt2 gl gh gs hex gread grow
      have C1 := hide hc1
      have C2 := hide hc2
      go_upto_region 5 with fail
      clear hc1 hc2
      have GD := hide (hold_below (below1 wr (.cells #[.int .i64 (ii : Int), .int .i64 (jj : Int)] 111)) GD.out)
      have GY := hide (hold_below (below1 wr (.cells #[.int .i64 (ii : Int), .int .i64 (jj : Int)] 111)) GY.out)
      have GS := hide (heap_alloc_new wr (.cells #[.int .i64 (ii : Int), .int .i64 (jj : Int)] 111))
      have HB1 := hide (below1 wr (.cells #[.int .i64 (ii : Int), .int .i64 (jj : Int)] 111))
      have GR0 := GR
      have GR := hide (hold_below (below1 wr (.cells #[.int .i64 (ii : Int), .int .i64 (jj : Int)] 111)) GR.out)
      obtain ⟨u3, hu3⟩ : ∃ q, q = wr.alloc (.cells #[.int .i64 (ii : Int), .int .i64 (jj : Int)] 111) := ⟨_, rfl⟩
      obtain ⟨b9, hb9⟩ : ∃ q, q = wr.heap.size := ⟨_, rfl⟩
      rw [← hu3] at GD GY GS HB1 GR
      rw [← hb9] at GS
      rw [← hu3]
      try rw [← hb9]
      have H9 := hide hb9
      have z3 := hide (show u3.heap.size = b9 + 1 by rw [hu3, hb9]; simp)
      clear hu3 hb9
      refine wp_region_any (by kernel_rfl) ?_
      have NX := hide (show gt < u3.heap.size ∧ g < u3.heap.size ∧ b9 < u3.heap.size ∧ g ≠ gt ∧ b9 ≠ gt by
        have q1 := (Array.getElem?_eq_some_iff.1 GR.out).1
        have q2 := (Array.getElem?_eq_some_iff.1 GD.out).1
        have q3 := (Array.getElem?_eq_some_iff.1 GS.out).1
        have q4 := HN.out
        have q5 := HGT.out
        have q6 := H9.out
        omega)
      refine wpAny_own (w0 := u3) 0 2 (fun i => ([(fun own s W => s 26 = .pointer (some ⟨g, 0, none⟩)),
        (fun own s W => s 27 = .pointer (some ⟨g, 0, none⟩)),
        (fun own s W => s 28 = .pointer (some ⟨g, 3, none⟩)),
        (fun own s W => s 29 = .slice (some ⟨gt, 0, none⟩) t.length s4c),
        (fun own s W => s 30 = .pointer (some ⟨b9, 0, none⟩)),
        (fun own s W => s 31 = .int .i64 (ii : Int)),
        (fun own s W => s 32 = .pointer (some ⟨g, 0, none⟩)),
        (fun own s W => s 33 = .pointer (some ⟨g, 0, none⟩)),
        (fun own s W => s 34 = .pointer (some ⟨g, 3, none⟩)),
        (fun own s W => s 35 = .slice (some ⟨gt, 0, none⟩) t.length s4c),
        (fun own s W => s 36 = .pointer (some ⟨b9, 1, none⟩)),
        (fun own s W => s 37 = .int .i64 (jj : Int)),
        (fun own s W => s 38 = .pointer (some ⟨g, 0, none⟩)),
        (fun own s W => s 39 = .pointer (some ⟨g, 0, none⟩)),
        (fun own s W => s 40 = .pointer (some ⟨g, 3, none⟩)),
        (fun own s W => s 41 = .slice (some ⟨gt, 0, none⟩) t.length s4c),
        (fun own s W => s 42 = .pointer (some ⟨b9, 1, none⟩)),
        (fun own s W => s 43 = .int .i64 (jj : Int)),
        (fun own s W => s 44 = .pointer (some ⟨gt, jj, none⟩)),
        (fun own s W => s 45 = .int .i64 y),
        (fun own s W => s 46 = .pointer (some ⟨g, 0, none⟩)),
        (fun own s W => s 47 = .pointer (some ⟨g, 0, none⟩)),
        (fun own s W => s 48 = .pointer (some ⟨g, 3, none⟩)),
        (fun own s W => s 49 = .slice (some ⟨gt, 0, none⟩) t.length s4c),
        (fun own s W => s 50 = .pointer (some ⟨b9, 0, none⟩)),
        (fun own s W => s 51 = .int .i64 (ii : Int)),
        (fun own s W => s 52 = .pointer (some ⟨gt, ii, none⟩)),
        (fun own s W => s 53 = .int .i64 x),
        (fun own s W => s 54 = .pointer (some ⟨gt, ii, none⟩)),
        (fun own s W => (own gt ∧ W.heap[gt]? = some (.cells (tcs.setIfInBounds ii (.int .i64 y)) tty (0, 0)))),
        (fun own s W => True),
        (fun own s W => True),
        (fun own s W => (own gt ∧ W.heap[gt]? = some (.cells tcs tty (0, 0)))),
        (fun own s W => ((∀ b, b < u3.heap.size → b ≠ gt → own b) ∧ ∀ b, b < u3.heap.size → b ≠ gt → W.heap[b]? = u3.heap[b]?))] : List ((Nat → Prop) → (Nat → Value) → World → Prop)).getD i (fun _ _ _ => True)) [[], [0], [0, 1], [0, 1, 2], [], [4], [], [6], [6, 7], [6, 7, 8], [], [10], [], [12], [12, 13], [12, 13, 14], [], [16], [12, 13, 14, 15, 16, 17], [12, 13, 14, 15, 16, 17, 18], [], [20], [20, 21], [20, 21, 22], [], [24], [20, 21, 22, 23, 24, 25], [20, 21, 22, 23, 24, 25, 26], [0, 1, 2, 3, 4, 5, 6, 7, 8, 9, 12, 13, 14, 15, 16, 17, 18, 19, 20, 21, 22, 23, 24, 25, 26, 27], [0, 1, 2, 3, 4, 5, 6, 7, 8, 9, 12, 13, 14, 15, 16, 17, 18, 19, 20, 21, 22, 23, 24, 25, 26, 27, 28], [0, 1, 2, 3, 4, 5, 6, 7, 8, 9, 10, 11, 12, 13, 14, 15, 16, 17, 18, 19, 20, 21, 22, 23, 24, 25, 26, 27, 28, 29], [0, 1, 2, 3, 4, 5, 6, 7, 8, 9, 10, 11, 12, 13, 14, 15, 16, 17, 18, 19, 20, 21, 22, 23, 24, 25, 26, 27, 28, 29, 30]] [[26], [27], [28], [29], [30], [31], [32], [33], [34], [35], [36], [37], [38], [39], [40], [41], [42], [43], [44], [45], [46], [47], [48], [49], [50], [51], [52], [53], [54], [], [], []] [none, none, none, none, none, none, none, none, none, none, none, none, none, none, none, none, none, none, none, none, none, none, none, none, none, none, none, none, none, some 32, none, none] [[], [0], [1], [2, 33], [], [4, 33], [], [6], [7], [8, 33], [], [10, 33], [], [12], [13], [14, 33], [], [16, 33], [15, 17], [18, 32], [], [20], [21], [22, 33], [], [24, 33], [23, 25], [26, 32], [3, 5], [28, 19, 32], [], []] (fun i b => if i = 32 then b = gt else b ≠ gt ∧ b < u3.heap.size) (by kernel_rfl) (by kernel_rfl) 30 2 rfl (by kernel_rfl) (Nat.zero_le _) ?h0 ?h0a (fun i hi => by rw [List.getD_eq_getElem?_getD, List.getElem?_eq_none (by simpa using hi)]; rfl) ?st ?step ?fin
      case h0 =>
        intro i h1' h2'
        have h1' : 32 ≤ i := h1'
        have h2' : i < 32 + 2 := h2'
        have q5 := NX.out
        rcases (show i = 32 ∨ i = 33 by omega) with rfl | rfl
        · exact ⟨⟨rfl, GR.out⟩, fun b (hb : b = gt) => by omega⟩
        · exact ⟨⟨fun b p1 p2 => ⟨p2, p1⟩, fun b _ _ => rfl⟩, fun b (hb : b ≠ gt ∧ b < u3.heap.size) => ⟨Nat.zero_le _, hb.2⟩⟩
      case h0a =>
        intro i j h1' h2' h3' h4' hne b hb hb'
        have h1' : 32 ≤ i := h1'
        have h2' : i < 32 + 2 := h2'
        have h3' : 32 ≤ j := h3'
        have h4' : j < 32 + 2 := h4'
        rcases (show i = 32 ∨ i = 33 by omega) with rfl | rfl <;> rcases (show j = 32 ∨ j = 33 by omega) with rfl | rfl
        · exact hne rfl
        · exact (show b ≠ gt ∧ b < u3.heap.size from hb').1 (show b = gt from hb)
        · exact (show b ≠ gt ∧ b < u3.heap.size from hb).1 (show b = gt from hb')
        · exact hne rfl
      case st =>
        intro i hi0 hi ow s W W' h hlt' hGW k'
        have hi : i < 32 + 2 := hi
        have hi0 : i < 30 ∨ 32 ≤ i := hi0
        rcases (show i = 0 ∨ i = 1 ∨ i = 2 ∨ i = 3 ∨ i = 4 ∨ i = 5 ∨ i = 6 ∨ i = 7 ∨ i = 8 ∨ i = 9 ∨ i = 10 ∨ i = 11 ∨ i = 12 ∨ i = 13 ∨ i = 14 ∨ i = 15 ∨ i = 16 ∨ i = 17 ∨ i = 18 ∨ i = 19 ∨ i = 20 ∨ i = 21 ∨ i = 22 ∨ i = 23 ∨ i = 24 ∨ i = 25 ∨ i = 26 ∨ i = 27 ∨ i = 28 ∨ i = 29 ∨ i = 32 ∨ i = 33 by omega) with rfl | rfl | rfl | rfl | rfl | rfl | rfl | rfl | rfl | rfl | rfl | rfl | rfl | rfl | rfl | rfl | rfl | rfl | rfl | rfl | rfl | rfl | rfl | rfl | rfl | rfl | rfl | rfl | rfl | rfl | rfl | rfl
        · have h : s 26 = .pointer (some ⟨g, 0, none⟩) := h
          show s 26 = .pointer (some ⟨g, 0, none⟩)
          exact h
        · have h : s 27 = .pointer (some ⟨g, 0, none⟩) := h
          show s 27 = .pointer (some ⟨g, 0, none⟩)
          exact h
        · have h : s 28 = .pointer (some ⟨g, 3, none⟩) := h
          show s 28 = .pointer (some ⟨g, 3, none⟩)
          exact h
        · have h : s 29 = .slice (some ⟨gt, 0, none⟩) t.length s4c := h
          show s 29 = .slice (some ⟨gt, 0, none⟩) t.length s4c
          exact h
        · have h : s 30 = .pointer (some ⟨b9, 0, none⟩) := h
          show s 30 = .pointer (some ⟨b9, 0, none⟩)
          exact h
        · have h : s 31 = .int .i64 (ii : Int) := h
          show s 31 = .int .i64 (ii : Int)
          exact h
        · have h : s 32 = .pointer (some ⟨g, 0, none⟩) := h
          show s 32 = .pointer (some ⟨g, 0, none⟩)
          exact h
        · have h : s 33 = .pointer (some ⟨g, 0, none⟩) := h
          show s 33 = .pointer (some ⟨g, 0, none⟩)
          exact h
        · have h : s 34 = .pointer (some ⟨g, 3, none⟩) := h
          show s 34 = .pointer (some ⟨g, 3, none⟩)
          exact h
        · have h : s 35 = .slice (some ⟨gt, 0, none⟩) t.length s4c := h
          show s 35 = .slice (some ⟨gt, 0, none⟩) t.length s4c
          exact h
        · have h : s 36 = .pointer (some ⟨b9, 1, none⟩) := h
          show s 36 = .pointer (some ⟨b9, 1, none⟩)
          exact h
        · have h : s 37 = .int .i64 (jj : Int) := h
          show s 37 = .int .i64 (jj : Int)
          exact h
        · have h : s 38 = .pointer (some ⟨g, 0, none⟩) := h
          show s 38 = .pointer (some ⟨g, 0, none⟩)
          exact h
        · have h : s 39 = .pointer (some ⟨g, 0, none⟩) := h
          show s 39 = .pointer (some ⟨g, 0, none⟩)
          exact h
        · have h : s 40 = .pointer (some ⟨g, 3, none⟩) := h
          show s 40 = .pointer (some ⟨g, 3, none⟩)
          exact h
        · have h : s 41 = .slice (some ⟨gt, 0, none⟩) t.length s4c := h
          show s 41 = .slice (some ⟨gt, 0, none⟩) t.length s4c
          exact h
        · have h : s 42 = .pointer (some ⟨b9, 1, none⟩) := h
          show s 42 = .pointer (some ⟨b9, 1, none⟩)
          exact h
        · have h : s 43 = .int .i64 (jj : Int) := h
          show s 43 = .int .i64 (jj : Int)
          exact h
        · have h : s 44 = .pointer (some ⟨gt, jj, none⟩) := h
          show s 44 = .pointer (some ⟨gt, jj, none⟩)
          exact h
        · have h : s 45 = .int .i64 y := h
          show s 45 = .int .i64 y
          exact h
        · have h : s 46 = .pointer (some ⟨g, 0, none⟩) := h
          show s 46 = .pointer (some ⟨g, 0, none⟩)
          exact h
        · have h : s 47 = .pointer (some ⟨g, 0, none⟩) := h
          show s 47 = .pointer (some ⟨g, 0, none⟩)
          exact h
        · have h : s 48 = .pointer (some ⟨g, 3, none⟩) := h
          show s 48 = .pointer (some ⟨g, 3, none⟩)
          exact h
        · have h : s 49 = .slice (some ⟨gt, 0, none⟩) t.length s4c := h
          show s 49 = .slice (some ⟨gt, 0, none⟩) t.length s4c
          exact h
        · have h : s 50 = .pointer (some ⟨b9, 0, none⟩) := h
          show s 50 = .pointer (some ⟨b9, 0, none⟩)
          exact h
        · have h : s 51 = .int .i64 (ii : Int) := h
          show s 51 = .int .i64 (ii : Int)
          exact h
        · have h : s 52 = .pointer (some ⟨gt, ii, none⟩) := h
          show s 52 = .pointer (some ⟨gt, ii, none⟩)
          exact h
        · have h : s 53 = .int .i64 x := h
          show s 53 = .int .i64 x
          exact h
        · have h : s 54 = .pointer (some ⟨gt, ii, none⟩) := h
          show s 54 = .pointer (some ⟨gt, ii, none⟩)
          exact h
        · have h : (ow gt ∧ W.heap[gt]? = some (.cells (tcs.setIfInBounds ii (.int .i64 y)) tty (0, 0))) := h
          show (ow gt ∧ W'.heap[gt]? = some (.cells (tcs.setIfInBounds ii (.int .i64 y)) tty (0, 0)))
          exact ⟨h.1, (k'.block _ (hlt' _ h.1) (.inr h.1)).trans h.2⟩
        · have h : (ow gt ∧ W.heap[gt]? = some (.cells tcs tty (0, 0))) := h
          show (ow gt ∧ W'.heap[gt]? = some (.cells tcs tty (0, 0)))
          exact ⟨h.1, (k'.block _ (hlt' _ h.1) (.inr h.1)).trans h.2⟩
        · have h : ((∀ b, b < u3.heap.size → b ≠ gt → ow b) ∧ ∀ b, b < u3.heap.size → b ≠ gt → W.heap[b]? = u3.heap[b]?) := h
          show ((∀ b, b < u3.heap.size → b ≠ gt → ow b) ∧ ∀ b, b < u3.heap.size → b ≠ gt → W'.heap[b]? = u3.heap[b]?)
          exact ⟨h.1, fun b p1 p2 => (k'.block _ (hlt' _ (h.1 b p1 p2)) (.inr (h.1 b p1 p2))).trans (h.2 b p1 p2)⟩
      case step =>
        intro i hi ac W own hb hGW hsz hdf hrest huse hdom hap K HK
        have HK := hide HK
        have HU := hide huse
        have HRS := hide hrest
        clear huse hdom hap hrest hsz hdf
        rcases (show i = 0 ∨ i = 1 ∨ i = 2 ∨ i = 3 ∨ i = 4 ∨ i = 5 ∨ i = 6 ∨ i = 7 ∨ i = 8 ∨ i = 9 ∨ i = 10 ∨ i = 11 ∨ i = 12 ∨ i = 13 ∨ i = 14 ∨ i = 15 ∨ i = 16 ∨ i = 17 ∨ i = 18 ∨ i = 19 ∨ i = 20 ∨ i = 21 ∨ i = 22 ∨ i = 23 ∨ i = 24 ∨ i = 25 ∨ i = 26 ∨ i = 27 ∨ i = 28 ∨ i = 29 by omega) with rfl | rfl | rfl | rfl | rfl | rfl | rfl | rfl | rfl | rfl | rfl | rfl | rfl | rfl | rfl | rfl | rfl | rfl | rfl | rfl | rfl | rfl | rfl | rfl | rfl | rfl | rfl | rfl | rfl | rfl
        · refine wpOp_step (o := _) rfl fun K' hK => ?_
          rw [if_pos (by go_simp)]
          have e0 : ac.tmps.getD 0 undef = .pointer (some ⟨g, 0, none⟩) := (HRS.out 0 (by decide)).trans rfl
          go_simp
          exact hK _ _ (HK.out _ _ ⟨Below.refl _ _, fun b _ _ => rfl, rfl⟩)
        · refine wpOp_step (o := _) rfl fun K' hK => ?_
          rw [if_pos (by go_simp)]
          have e0 : ac.tmps.getD 26 undef = .pointer (some ⟨g, 0, none⟩) := HU.out 0 (by decide)
          go_simp
          exact hK _ _ (HK.out _ _ ⟨Below.refl _ _, fun b _ _ => rfl, rfl⟩)
        · refine wpOp_step (o := _) rfl fun K' hK => ?_
          rw [if_pos (by go_simp)]
          have e0 : ac.tmps.getD 27 undef = .pointer (some ⟨g, 0, none⟩) := HU.out 1 (by decide)
          go_simp
          exact hK _ _ (HK.out _ _ ⟨Below.refl _ _, fun b _ _ => rfl, rfl⟩)
        · refine wpOp_step (o := _) rfl fun K' hK => ?_
          rw [if_pos (by go_simp)]
          have e0 : ac.tmps.getD 28 undef = .pointer (some ⟨g, 3, none⟩) := HU.out 2 (by decide)
          have hr : W.heap[g]? = u3.heap[g]? := (show ((∀ b, b < u3.heap.size → b ≠ gt → own 33 b) ∧ ∀ b, b < u3.heap.size → b ≠ gt → W.heap[b]? = u3.heap[b]?) from HU.out 33 (by decide)).2 g (by have := NX.out; omega) (by have := NX.out; omega)
          have c0 := cell_of_row W g 3 _ _ (0, 0) (hr.trans GD.out)
          clear hr
          go_simp
          exact hK _ _ (HK.out _ _ ⟨Below.refl _ _, fun b _ _ => rfl, rfl⟩)
        · refine wpOp_step (o := _) rfl fun K' hK => ?_
          rw [if_pos (by go_simp)]
          have e0 : ac.tmps.getD 9 undef = .pointer (some ⟨b9, 0, none⟩) := (HRS.out 9 (by decide)).trans rfl
          go_simp
          exact hK _ _ (HK.out _ _ ⟨Below.refl _ _, fun b _ _ => rfl, rfl⟩)
        · refine wpOp_step (o := _) rfl fun K' hK => ?_
          rw [if_pos (by go_simp)]
          have e0 : ac.tmps.getD 30 undef = .pointer (some ⟨b9, 0, none⟩) := HU.out 4 (by decide)
          have hr : W.heap[b9]? = u3.heap[b9]? := (show ((∀ b, b < u3.heap.size → b ≠ gt → own 33 b) ∧ ∀ b, b < u3.heap.size → b ≠ gt → W.heap[b]? = u3.heap[b]?) from HU.out 33 (by decide)).2 b9 (by have := NX.out; omega) (by have := NX.out; omega)
          have c0 := cell_of_row W b9 0 _ _ (0, 0) (hr.trans GS.out)
          clear hr
          go_simp
          exact hK _ _ (HK.out _ _ ⟨Below.refl _ _, fun b _ _ => rfl, rfl⟩)
        · refine wpOp_step (o := _) rfl fun K' hK => ?_
          rw [if_pos (by go_simp)]
          have e0 : ac.tmps.getD 0 undef = .pointer (some ⟨g, 0, none⟩) := (HRS.out 0 (by decide)).trans rfl
          go_simp
          exact hK _ _ (HK.out _ _ ⟨Below.refl _ _, fun b _ _ => rfl, rfl⟩)
        · refine wpOp_step (o := _) rfl fun K' hK => ?_
          rw [if_pos (by go_simp)]
          have e0 : ac.tmps.getD 32 undef = .pointer (some ⟨g, 0, none⟩) := HU.out 6 (by decide)
          go_simp
          exact hK _ _ (HK.out _ _ ⟨Below.refl _ _, fun b _ _ => rfl, rfl⟩)
        · refine wpOp_step (o := _) rfl fun K' hK => ?_
          rw [if_pos (by go_simp)]
          have e0 : ac.tmps.getD 33 undef = .pointer (some ⟨g, 0, none⟩) := HU.out 7 (by decide)
          go_simp
          exact hK _ _ (HK.out _ _ ⟨Below.refl _ _, fun b _ _ => rfl, rfl⟩)
        · refine wpOp_step (o := _) rfl fun K' hK => ?_
          rw [if_pos (by go_simp)]
          have e0 : ac.tmps.getD 34 undef = .pointer (some ⟨g, 3, none⟩) := HU.out 8 (by decide)
          have hr : W.heap[g]? = u3.heap[g]? := (show ((∀ b, b < u3.heap.size → b ≠ gt → own 33 b) ∧ ∀ b, b < u3.heap.size → b ≠ gt → W.heap[b]? = u3.heap[b]?) from HU.out 33 (by decide)).2 g (by have := NX.out; omega) (by have := NX.out; omega)
          have c0 := cell_of_row W g 3 _ _ (0, 0) (hr.trans GD.out)
          clear hr
          go_simp
          exact hK _ _ (HK.out _ _ ⟨Below.refl _ _, fun b _ _ => rfl, rfl⟩)
        · refine wpOp_step (o := _) rfl fun K' hK => ?_
          rw [if_pos (by go_simp)]
          have e0 : ac.tmps.getD 9 undef = .pointer (some ⟨b9, 0, none⟩) := (HRS.out 9 (by decide)).trans rfl
          go_simp
          exact hK _ _ (HK.out _ _ ⟨Below.refl _ _, fun b _ _ => rfl, rfl⟩)
        · refine wpOp_step (o := _) rfl fun K' hK => ?_
          rw [if_pos (by go_simp)]
          have e0 : ac.tmps.getD 36 undef = .pointer (some ⟨b9, 1, none⟩) := HU.out 10 (by decide)
          have hr : W.heap[b9]? = u3.heap[b9]? := (show ((∀ b, b < u3.heap.size → b ≠ gt → own 33 b) ∧ ∀ b, b < u3.heap.size → b ≠ gt → W.heap[b]? = u3.heap[b]?) from HU.out 33 (by decide)).2 b9 (by have := NX.out; omega) (by have := NX.out; omega)
          have c0 := cell_of_row W b9 1 _ _ (0, 0) (hr.trans GS.out)
          clear hr
          go_simp
          exact hK _ _ (HK.out _ _ ⟨Below.refl _ _, fun b _ _ => rfl, rfl⟩)
        · refine wpOp_step (o := _) rfl fun K' hK => ?_
          rw [if_pos (by go_simp)]
          have e0 : ac.tmps.getD 0 undef = .pointer (some ⟨g, 0, none⟩) := (HRS.out 0 (by decide)).trans rfl
          go_simp
          exact hK _ _ (HK.out _ _ ⟨Below.refl _ _, fun b _ _ => rfl, rfl⟩)
        · refine wpOp_step (o := _) rfl fun K' hK => ?_
          rw [if_pos (by go_simp)]
          have e0 : ac.tmps.getD 38 undef = .pointer (some ⟨g, 0, none⟩) := HU.out 12 (by decide)
          go_simp
          exact hK _ _ (HK.out _ _ ⟨Below.refl _ _, fun b _ _ => rfl, rfl⟩)
        · refine wpOp_step (o := _) rfl fun K' hK => ?_
          rw [if_pos (by go_simp)]
          have e0 : ac.tmps.getD 39 undef = .pointer (some ⟨g, 0, none⟩) := HU.out 13 (by decide)
          go_simp
          exact hK _ _ (HK.out _ _ ⟨Below.refl _ _, fun b _ _ => rfl, rfl⟩)
        · refine wpOp_step (o := _) rfl fun K' hK => ?_
          rw [if_pos (by go_simp)]
          have e0 : ac.tmps.getD 40 undef = .pointer (some ⟨g, 3, none⟩) := HU.out 14 (by decide)
          have hr : W.heap[g]? = u3.heap[g]? := (show ((∀ b, b < u3.heap.size → b ≠ gt → own 33 b) ∧ ∀ b, b < u3.heap.size → b ≠ gt → W.heap[b]? = u3.heap[b]?) from HU.out 33 (by decide)).2 g (by have := NX.out; omega) (by have := NX.out; omega)
          have c0 := cell_of_row W g 3 _ _ (0, 0) (hr.trans GD.out)
          clear hr
          go_simp
          exact hK _ _ (HK.out _ _ ⟨Below.refl _ _, fun b _ _ => rfl, rfl⟩)
        · refine wpOp_step (o := _) rfl fun K' hK => ?_
          rw [if_pos (by go_simp)]
          have e0 : ac.tmps.getD 9 undef = .pointer (some ⟨b9, 0, none⟩) := (HRS.out 9 (by decide)).trans rfl
          go_simp
          exact hK _ _ (HK.out _ _ ⟨Below.refl _ _, fun b _ _ => rfl, rfl⟩)
        · refine wpOp_step (o := _) rfl fun K' hK => ?_
          rw [if_pos (by go_simp)]
          have e0 : ac.tmps.getD 42 undef = .pointer (some ⟨b9, 1, none⟩) := HU.out 16 (by decide)
          have hr : W.heap[b9]? = u3.heap[b9]? := (show ((∀ b, b < u3.heap.size → b ≠ gt → own 33 b) ∧ ∀ b, b < u3.heap.size → b ≠ gt → W.heap[b]? = u3.heap[b]?) from HU.out 33 (by decide)).2 b9 (by have := NX.out; omega) (by have := NX.out; omega)
          have c0 := cell_of_row W b9 1 _ _ (0, 0) (hr.trans GS.out)
          clear hr
          go_simp
          exact hK _ _ (HK.out _ _ ⟨Below.refl _ _, fun b _ _ => rfl, rfl⟩)
        · refine wpOp_step (o := _) rfl fun K' hK => ?_
          rw [if_pos (by go_simp)]
          have e0 : ac.tmps.getD 41 undef = .slice (some ⟨gt, 0, none⟩) t.length s4c := HU.out 15 (by decide)
          have e1 : ac.tmps.getD 43 undef = .int .i64 (jj : Int) := HU.out 17 (by decide)
          go_simp
          exact hK _ _ (HK.out _ _ ⟨Below.refl _ _, fun b _ _ => rfl, rfl⟩)
        · refine wpOp_step (o := _) rfl fun K' hK => ?_
          rw [if_pos (by go_simp)]
          have e0 : ac.tmps.getD 44 undef = .pointer (some ⟨gt, jj, none⟩) := HU.out 18 (by decide)
          have hr : W.heap[gt]? = wr.heap[gt]? := by rw [(show (own 32 gt ∧ W.heap[gt]? = some (.cells tcs tty (0, 0))) from HU.out 32 (by decide)).2]; exact GR0.out.symm
          have c0 := (World.cell?_of_block (a := ⟨gt, jj, none⟩) hr).trans HRD.out.2.1
          clear hr
          go_simp
          exact hK _ _ (HK.out _ _ ⟨Below.refl _ _, fun b _ _ => rfl, rfl⟩)
        · refine wpOp_step (o := _) rfl fun K' hK => ?_
          rw [if_pos (by go_simp)]
          have e0 : ac.tmps.getD 0 undef = .pointer (some ⟨g, 0, none⟩) := (HRS.out 0 (by decide)).trans rfl
          go_simp
          exact hK _ _ (HK.out _ _ ⟨Below.refl _ _, fun b _ _ => rfl, rfl⟩)
        · refine wpOp_step (o := _) rfl fun K' hK => ?_
          rw [if_pos (by go_simp)]
          have e0 : ac.tmps.getD 46 undef = .pointer (some ⟨g, 0, none⟩) := HU.out 20 (by decide)
          go_simp
          exact hK _ _ (HK.out _ _ ⟨Below.refl _ _, fun b _ _ => rfl, rfl⟩)
        · refine wpOp_step (o := _) rfl fun K' hK => ?_
          rw [if_pos (by go_simp)]
          have e0 : ac.tmps.getD 47 undef = .pointer (some ⟨g, 0, none⟩) := HU.out 21 (by decide)
          go_simp
          exact hK _ _ (HK.out _ _ ⟨Below.refl _ _, fun b _ _ => rfl, rfl⟩)
        · refine wpOp_step (o := _) rfl fun K' hK => ?_
          rw [if_pos (by go_simp)]
          have e0 : ac.tmps.getD 48 undef = .pointer (some ⟨g, 3, none⟩) := HU.out 22 (by decide)
          have hr : W.heap[g]? = u3.heap[g]? := (show ((∀ b, b < u3.heap.size → b ≠ gt → own 33 b) ∧ ∀ b, b < u3.heap.size → b ≠ gt → W.heap[b]? = u3.heap[b]?) from HU.out 33 (by decide)).2 g (by have := NX.out; omega) (by have := NX.out; omega)
          have c0 := cell_of_row W g 3 _ _ (0, 0) (hr.trans GD.out)
          clear hr
          go_simp
          exact hK _ _ (HK.out _ _ ⟨Below.refl _ _, fun b _ _ => rfl, rfl⟩)
        · refine wpOp_step (o := _) rfl fun K' hK => ?_
          rw [if_pos (by go_simp)]
          have e0 : ac.tmps.getD 9 undef = .pointer (some ⟨b9, 0, none⟩) := (HRS.out 9 (by decide)).trans rfl
          go_simp
          exact hK _ _ (HK.out _ _ ⟨Below.refl _ _, fun b _ _ => rfl, rfl⟩)
        · refine wpOp_step (o := _) rfl fun K' hK => ?_
          rw [if_pos (by go_simp)]
          have e0 : ac.tmps.getD 50 undef = .pointer (some ⟨b9, 0, none⟩) := HU.out 24 (by decide)
          have hr : W.heap[b9]? = u3.heap[b9]? := (show ((∀ b, b < u3.heap.size → b ≠ gt → own 33 b) ∧ ∀ b, b < u3.heap.size → b ≠ gt → W.heap[b]? = u3.heap[b]?) from HU.out 33 (by decide)).2 b9 (by have := NX.out; omega) (by have := NX.out; omega)
          have c0 := cell_of_row W b9 0 _ _ (0, 0) (hr.trans GS.out)
          clear hr
          go_simp
          exact hK _ _ (HK.out _ _ ⟨Below.refl _ _, fun b _ _ => rfl, rfl⟩)
        · refine wpOp_step (o := _) rfl fun K' hK => ?_
          rw [if_pos (by go_simp)]
          have e0 : ac.tmps.getD 49 undef = .slice (some ⟨gt, 0, none⟩) t.length s4c := HU.out 23 (by decide)
          have e1 : ac.tmps.getD 51 undef = .int .i64 (ii : Int) := HU.out 25 (by decide)
          go_simp
          exact hK _ _ (HK.out _ _ ⟨Below.refl _ _, fun b _ _ => rfl, rfl⟩)
        · refine wpOp_step (o := _) rfl fun K' hK => ?_
          rw [if_pos (by go_simp)]
          have e0 : ac.tmps.getD 52 undef = .pointer (some ⟨gt, ii, none⟩) := HU.out 26 (by decide)
          have hr : W.heap[gt]? = wr.heap[gt]? := by rw [(show (own 32 gt ∧ W.heap[gt]? = some (.cells tcs tty (0, 0))) from HU.out 32 (by decide)).2]; exact GR0.out.symm
          have c0 := (World.cell?_of_block (a := ⟨gt, ii, none⟩) hr).trans HRD.out.1
          clear hr
          go_simp
          exact hK _ _ (HK.out _ _ ⟨Below.refl _ _, fun b _ _ => rfl, rfl⟩)
        · refine wpOp_step (o := _) rfl fun K' hK => ?_
          rw [if_pos (by go_simp)]
          have e0 : ac.tmps.getD 29 undef = .slice (some ⟨gt, 0, none⟩) t.length s4c := HU.out 3 (by decide)
          have e1 : ac.tmps.getD 31 undef = .int .i64 (ii : Int) := HU.out 5 (by decide)
          go_simp
          exact hK _ _ (HK.out _ _ ⟨Below.refl _ _, fun b _ _ => rfl, rfl⟩)
        · refine wpOp_step (o := _) rfl fun K' hK => ?_
          rw [if_pos (by go_simp)]
          have e0 : ac.tmps.getD 54 undef = .pointer (some ⟨gt, ii, none⟩) := HU.out 28 (by decide)
          have e1 : ac.tmps.getD 45 undef = .int .i64 y := HU.out 19 (by decide)
          obtain ⟨ho, hr0⟩ : (own 32 gt ∧ W.heap[gt]? = some (.cells tcs tty (0, 0))) := HU.out 32 (by decide)
          have hr : W.heap[gt]? = wr.heap[gt]? := by rw [hr0]; exact GR0.out.symm
          have c0 := (World.cell?_of_block (a := ⟨gt, ii, none⟩) hr).trans HRD.out.1
          have f0 := (World.frozen?_of_block (a := ⟨gt, ii, none⟩) hr).trans HRD.out.2.2
          clear hr
          go_simp
          refine hK _ _ (HK.out undef _ ⟨(Below.refl 0 W).setCell (p := ⟨gt, ii, none⟩) (Nat.zero_le _) _, fun b hb' hno => ?_, ?_⟩)
          · have hn : ¬ own 32 b := hno 32 rfl
            exact Below.heap_setCell _ _ _ _ (by show b ≠ gt; intro e; exact hn (e ▸ ho))
          · exact ⟨.inr ⟨32, rfl, ho⟩, heap_setCell_same W gt ii _ _ _ hr0⟩
      case fin =>
      intro ac wz own I
      have lv : ∀ i, i < 34 → (i < 30 ∨ i = 33) → OLive 32 [none, none, none, none, none, none, none, none, none, none, none, none, none, none, none, none, none, none, none, none, none, none, none, none, none, none, none, none, none, some 32, none, none] (fun i => decide (i < 30)) i := by
        intro i _ h
        have h : i ≠ 32 := by omega
        refine ⟨fun hi => decide_eq_true (by omega), fun k hk _ => ?_⟩
        rcases (show k = 0 ∨ k = 1 ∨ k = 2 ∨ k = 3 ∨ k = 4 ∨ k = 5 ∨ k = 6 ∨ k = 7 ∨ k = 8 ∨ k = 9 ∨ k = 10 ∨ k = 11 ∨ k = 12 ∨ k = 13 ∨ k = 14 ∨ k = 15 ∨ k = 16 ∨ k = 17 ∨ k = 18 ∨ k = 19 ∨ k = 20 ∨ k = 21 ∨ k = 22 ∨ k = 23 ∨ k = 24 ∨ k = 25 ∨ k = 26 ∨ k = 27 ∨ k = 28 ∨ k = 29 ∨ k = 30 ∨ k = 31 by omega) with rfl | rfl | rfl | rfl | rfl | rfl | rfl | rfl | rfl | rfl | rfl | rfl | rfl | rfl | rfl | rfl | rfl | rfl | rfl | rfl | rfl | rfl | rfl | rfl | rfl | rfl | rfl | rfl | rfl | rfl | rfl | rfl <;> simp <;> omega
      have GZ : (own 29 gt ∧ wz.heap[gt]? = some (.cells (tcs.setIfInBounds ii (.int .i64 y)) tty (0, 0))) := I.fact 29 (by decide) (lv 29 (by omega) (by omega))
      have OZ : ((∀ b, b < u3.heap.size → b ≠ gt → own 33 b) ∧ ∀ b, b < u3.heap.size → b ≠ gt → wz.heap[b]? = u3.heap[b]?) := I.fact 33 (by decide) (lv 33 (by omega) (by omega))
      have hbz := I.below
      have F35 : slot ac 35 = .slice (some ⟨gt, 0, none⟩) t.length s4c := I.fact 9 (by decide) (lv 9 (by omega) (by omega))
      have F37 : slot ac 37 = .int .i64 (jj : Int) := I.fact 11 (by decide) (lv 11 (by omega) (by omega))
      have F53 : slot ac 53 = .int .i64 x := I.fact 27 (by decide) (lv 27 (by omega) (by omega))
      rw [frame_of [26, 27, 28, 29, 30, 31, 32, 33, 34, 35, 36, 37, 38, 39, 40, 41, 42, 43, 44, 45, 46, 47, 48, 49, 50, 51, 52, 53, 54, 55] I.size I.defers (fun s hs => I.rest s (rfDsts_spec (by kernel_rfl) hs))]
      simp only [List.foldl_cons, List.foldl_nil, List.setIfInBounds_toArray, List.set_cons_succ, List.set_cons_zero, F35, F37, F53]
      generalize slot ac 26 = t26
      generalize slot ac 27 = t27
      generalize slot ac 28 = t28
      generalize slot ac 29 = t29
      generalize slot ac 30 = t30
      generalize slot ac 31 = t31
      generalize slot ac 32 = t32
      generalize slot ac 33 = t33
      generalize slot ac 34 = t34
      generalize slot ac 36 = t36
      generalize slot ac 38 = t38
      generalize slot ac 39 = t39
      generalize slot ac 40 = t40
      generalize slot ac 41 = t41
      generalize slot ac 42 = t42
      generalize slot ac 43 = t43
      generalize slot ac 44 = t44
      generalize slot ac 45 = t45
      generalize slot ac 46 = t46
      generalize slot ac 47 = t47
      generalize slot ac 48 = t48
      generalize slot ac 49 = t49
      generalize slot ac 50 = t50
      generalize slot ac 51 = t51
      generalize slot ac 52 = t52
      generalize slot ac 54 = t54
      generalize slot ac 55 = t55
      have hzs := hbz.size
      have GZ := GZ.2
      have OZ := OZ.2
      clear I F35 F37 F53 lv
      try clear own ac
      obtain ⟨p4, p5, p6⟩ := HEX.out wz GZ (by have := HB1.out.size; omega)
      obtain ⟨q, p5⟩ := p5
      show wpOp _ _ _ 30 _ _ _
      refine wpOp_step (o := _) rfl fun K' hK => ?_
      rw [if_pos (by go_simp)]
      go_simp
      refine hK _ _ ?_
      clear hK K'
      show wpOp _ _ _ 31 _ _ _
      refine wpOp_step (o := _) rfl fun K' hK => ?_
      rw [if_pos (by go_simp)]
      go_simp
      refine hK _ _ ?_
      clear hK K'
      show Exit.inBlock _ (Exit.then _ _) .normal _ _
      have sg : Seg gt (gt + 1) u3 (wz.setCell ⟨gt, jj, none⟩ (.int .i64 x)) := by
        have h0 := hbz.setCell (p := ⟨gt, jj, none⟩) (Nat.zero_le _) (.int .i64 x)
        have hk : ∀ b, b < u3.heap.size → b ≠ gt → (wz.setCell ⟨gt, jj, none⟩ (.int .i64 x)).heap[b]? = u3.heap[b]? := fun b p1 p2 => (Below.heap_setCell _ _ _ _ p2).trans (OZ b p1 p2)
        exact ⟨⟨h0.os, h0.tape, h0.output, h0.size, fun b hb => hk b (by have := NX.out; omega) (by omega)⟩, fun b p1 p2 => hk b p2 (by omega)⟩
      obtain ⟨w6, hw6⟩ : ∃ q, q = wz.setCell ⟨gt, jj, none⟩ (.int .i64 x) := ⟨_, rfl⟩
      rw [← hw6] at sg p6
      rw [← hw6]
      clear hw6 p4 p5 GZ OZ hbz hzs
      obtain ⟨g1, g2, g3, g4, g5, g6, g7, g8, g9, g10, g11, g12, g13⟩ := HN.out
      obtain ⟨r1_, r2_, r3_⟩ := HGT.out
      have HU := HB1.out.size
      have HW := sg.below.size
      have hz := HZ.out
      have h9 := H9.out
      have GD := hide (sg.hold GD.out (by omega))
      have GY := hide (sg.hold GY.out (by omega))
      have OC1 := hide ((OC1.out.below HB1.out).seg sg (by omega))
      have OS := hide ((OS.out.below HB1.out).seg sg (by omega))
      have HZ := hide (show u2.heap.size ≤ w6.heap.size by omega)
      have HBL := hide (show ∀ G, G ≤ g → G ≤ n2 → G ≤ w.heap.size → Below G w w6 from fun G h1 h2 h3 => ((HBL.out G h1 h2 h3).trans (HB1.out.mono (by omega))).trans (sg.below.mono (by omega)))
      have OT := hide p6
      clear p6 sg g1 g2 g3 g4 g5 g6 g7 g8 g9 g10 g11 g12 g13 r1_ r2_ r3_ HU HW hz h9 HEX HGT GS HB1 H9 z3 C1 C2 NX GR GR0 HRD
      go_wp2_with fail
      go_roundw
      case rel => exact ⟨k + 1, by omega, by go_num, GD.out, GY.out, by rw [ES.out]; exact OT.out, OC1.out, OS.out, HZ.out, HBL.out⟩
      case measure => simp [intOf]; omega
    · obtain rfl : k = sw.length := by omega
      rw [List.take_length] at OT
      have c0 := cell_of_row wr b5 0 _ _ (0, 0) GY.out
      have d0 := cell_of_row wr g 0 _ _ (0, 0) GD.out
      have f0 := frozen_of_row wr g 0 _ _ GD.out
      have c1 := cell_of_row wr b5 1 _ _ (0, 0) GY.out
      have d1 := cell_of_row wr g 1 _ _ (0, 0) GD.out
      have f1 := frozen_of_row wr g 1 _ _ GD.out
      have c2 := cell_of_row wr b5 2 _ _ (0, 0) GY.out
      have d2 := cell_of_row wr g 2 _ _ (0, 0) GD.out
      have f2 := frozen_of_row wr g 2 _ _ GD.out
      go_wp2_with fail
      obtain ⟨g1, g2, g3, g4, g5, g6, g7, g8, g9, g10, g11, g12, g13⟩ := HN.out
      have hz := HZ.out
      have sg : Seg g (g + 1) wr (((wr.setCell ⟨g, 0, none⟩ (.slice w1 L.length r1)).setCell ⟨g, 1, none⟩ (.slice w2 R.length r2)).setCell ⟨g, 2, none⟩ (.slice w3 P.length r3)) := ((Seg.setCell wr g 0 _).trans (Seg.setCell _ g 1 _)).trans (Seg.setCell _ g 2 _)
      have hG := heap_setCell_same _ g 2 _ _ (.slice w3 P.length r3) (heap_setCell_same _ g 1 _ _ (.slice w2 R.length r2) (heap_setCell_same wr g 0 _ _ (.slice w1 L.length r1) GD.out))
      have O1 := OC1.out.seg sg (by omega)
      have O2 := OT.out.seg sg (by omega)
      have hs := sg.below.size
      have hBL := HBL.out
      go_ret
      exact ⟨_, _, _, lo, hi, rfl, by simpa using hG, O1, O2, ⟨by omega, by omega⟩, fun G h1 h2 h3 => (hBL G h1 h2 h3).trans (sg.below.mono h1)⟩

end Go.Proofs.Ytepkkeclkdlheaa

/- What CrackMap of the program returns (gen_cmj.py; promise 8). -/
namespace Go.Proofs.Ytepkkeclkdlheaa
open Go.RowKit Go.ChangeShapes
set_option linter.unusedSimpArgs false
set_option linter.unusedVariables false
set_option maxRecDepth 100000

theorem size4 {c : Array Value} (h : c.size = 4) : ∃ x0 x1 x2 x3, c = #[x0, x1, x2, x3] := by
  match c, h with
  | ⟨[x0, x1, x2, x3]⟩, _ => exact ⟨x0, x1, x2, x3, rfl⟩

theorem heap_put4 {W : World} {g : Nat} {c : Array Value} {t : TypeId} (h : W.heap[g]? = some (.cells c t (0, 0))) (hc : c.size = 4) (u0 u1 u2 u3 : Value) : ((((W.setCell ⟨g, 0, none⟩ u0).setCell ⟨g, 1, none⟩ u1).setCell ⟨g, 2, none⟩ u2).setCell ⟨g, 3, none⟩ u3).heap[g]? = some (.cells #[u0, u1, u2, u3] t (0, 0)) := by
  obtain ⟨x0, x1, x2, x3, rfl⟩ := size4 hc
  have h1 := heap_setCell_same W g 0 _ _ u0 h
  have h2 := heap_setCell_same _ g 1 _ _ u1 h1
  have h3 := heap_setCell_same _ g 2 _ _ u2 h2
  have h4 := heap_setCell_same _ g 3 _ _ u3 h3
  simpa using h4

set_option maxHeartbeats 8000000 in
theorem iCm_any (u : Value) (l r : List Int) (ps : List Pv) (t : List Int) (a v : Int) (w : World) (B : Nat) (hu : Mp w B u l r ps t a) (hB : B ≤ w.heap.size) (k1 : l.length ≤ 1048576) (k2 : r.length ≤ 1048576) (k3 : ps.length ≤ 1048576) (k4 : t.length ≤ 1048576) (hv : I64 v) :
    Calls Try.prog 28 #[u, .int .i64 v] w (RetMpB w (mcL l r ps t a v) (mcR l r ps t a v) (mcP l r ps t a v) (mcT l r ps t a v) a (mcB l r ps t a v)) := by
  obtain ⟨a1, c1, a2, c2, a3, c3, a4, c4, rfl, i1, i2⟩ := hu.form
  have hnil := hu.caps
  have HNL := hide hnil
  have I2 := hide (fun (W : World) (h : Below w.heap.size w W) => i2.below h hB)
  clear hnil
  have V := hide (fun (W : World) (h : Below w.heap.size w W) => hu.below h hB)
  have I1 := hide (fun (W : World) (h : Below w.heap.size w W) => i1.below h hB)
  obtain ⟨⟨wl, wr_, wpl, wp⟩, wt, wa⟩ := hu.wf
  obtain ⟨t1, ht1⟩ : ∃ q, q = isMp l r ps t a := ⟨_, rfl⟩
  obtain ⟨t2, ht2⟩ : ∃ q, q = decide (-1000 ≤ v ∧ v ≤ 1000) := ⟨_, rfl⟩
  obtain ⟨L, hL⟩ : ∃ q, q = mcL l r ps t a v := ⟨_, rfl⟩
  obtain ⟨R, hR⟩ : ∃ q, q = mcR l r ps t a v := ⟨_, rfl⟩
  obtain ⟨P, hP⟩ : ∃ q, q = mcP l r ps t a v := ⟨_, rfl⟩
  obtain ⟨T, hT⟩ : ∃ q, q = mcT l r ps t a v := ⟨_, rfl⟩
  obtain ⟨D, hD⟩ : ∃ q, q = mcB l r ps t a v := ⟨_, rfl⟩
  have HNO := hide (fun (h : (t1 && t2) = false) => show L = l ∧ R = r ∧ P = ps ∧ T = t ∧ D = false by rw [ht1, ht2] at h; rw [hL, hR, hP, hT, hD]; exact mc_no h)
  obtain ⟨sw, hsw⟩ : ∃ q, q = crS l r ps v := ⟨_, rfl⟩
  have HYE := hide (fun (h : t1 = true) => show (L = crL l r ps v ∧ R = crR l r ps v ∧ P = crP l r ps v ∧ T = swaps t sw) ∧ D = t2 ∧ t.length = l.length ∧ crOk l r ps v = t2 by
    rw [ht1] at h
    rw [hL, hR, hP, hT, hD, hsw, ht2]
    refine ⟨mc_yes h, ?_, (isMp_iff.1 h).2.2.1, ?_⟩
    · unfold mcB; rw [h]; rfl
    · unfold crOk; rw [(isMp_iff.1 h).1]; rfl)
  have HCW := hide (crack_wf l r ps v k1 k2 k3 wl wr_ wp hv)
  have HSI := hide (crS_in (r := r) (ps := ps) (v := v) k1)
  rw [← hsw] at HCW HSI
  rw [← hL, ← hR, ← hP, ← hT, ← hD]
  have Ht1 := hide ht1
  have Ht2 := hide ht2
  have HSW := hide hsw
  clear hL hR hP hT hD i1 i2 hu ht1 ht2 wl wr_ wpl wp wt wa hsw
  skip
  have X := hide (Kn.two w #[.slice a1 l.length c1, .slice a2 r.length c2, .slice a3 ps.length c3, .slice a4 t.length c4, .int .i64 a] #[.slice none 0 0, .slice none 0 0, .slice none 0 0, .slice none 0 0, .int .i64 0] 27 27)
  obtain ⟨u0, hu0⟩ : ∃ q, q = (w.alloc (.cells #[.slice a1 l.length c1, .slice a2 r.length c2, .slice a3 ps.length c3, .slice a4 t.length c4, .int .i64 a] 27)).alloc (.cells #[.slice none 0 0, .slice none 0 0, .slice none 0 0, .slice none 0 0, .int .i64 0] 27) := ⟨_, rfl⟩
  rw [← hu0] at X
  have z0 := hide (show u0.heap.size = w.heap.size + 1 + 1 by rw [hu0]; simp)
  have d0 := X.out.cell 0 0 rfl rfl
  have d1 := X.out.cell 0 1 rfl rfl
  have d2 := X.out.cell 0 2 rfl rfl
  have d3 := X.out.cell 0 3 rfl rfl
  have d4 := X.out.cell 0 4 rfl rfl
  go_enter Try.func28, Try.ntmps28
  go_wp2_with fail
  rw [← hu0]
  clear hu0
  go_at_call 26
  refine (iIsMp_any _ l r t ps a _ B (V.out _ X.out.below) (Nat.le_trans hB X.out.below.size)).mono ?_
  rintro e u1 ⟨rfl, hb⟩
  rw [← Ht1.out]
  have X := hide (X.out.up hb)
  have z1 := hide hb.size
  clear hb
  clear d0 d1 d2 d3 d4
  cases t1
  · skip
    have d0 := X.out.cell 0 0 rfl rfl
    have d1 := X.out.cell 0 1 rfl rfl
    have d2 := X.out.cell 0 2 rfl rfl
    have d3 := X.out.cell 0 3 rfl rfl
    have d4 := X.out.cell 0 4 rfl rfl
    go_wp2_with fail
    go_at_call 85
    refine (iMpCopy_any _ l r ps t a _ B (V.out _ X.out.below) (Nat.le_trans hB X.out.below.size) k1 k2 k3 k4).mono ?_
    rintro e u2 ⟨q1, rfl, ⟨y1, y2, y3, x, n1, h1, n2, h2, rfl, o1, o2, p, p6, p7⟩, hb⟩
    obtain ⟨x1, m1, x2, m2, x3, m3, e⟩ := o1.form
    injection e with e
    injection e with e
    injection e with e1 e
    injection e with e2 e
    injection e with e3 e
    subst e1 e2 e3
    clear e
    obtain ⟨x4, m4, rfl⟩ := o2.form
    have X := hide (X.out.up hb)
    have z2 := hide hb.size
    clear hb
    clear d0 d1 d2 d3 d4
    have c0 := X.out.cell 1 0 rfl rfl
    have c1 := X.out.cell 1 1 rfl rfl
    have c2 := X.out.cell 1 2 rfl rfl
    have c3 := X.out.cell 1 3 rfl rfl
    have c4 := X.out.cell 1 4 rfl rfl
    have fc0 := X.out.free 1 0 rfl
    have fc1 := X.out.free 1 1 rfl
    have fc2 := X.out.free 1 2 rfl
    have fc3 := X.out.free 1 3 rfl
    have fc4 := X.out.free 1 4 rfl
    have Z := (((((X.out.set 1 0 rfl (.slice x1 l.length m1)).set 1 1 rfl (.slice x2 r.length m2)).set 1 2 rfl (.slice x3 ps.length m3)).set 1 3 rfl (.slice x4 t.length m4)).set 1 4 rfl (.int .i64 a))
    have v0 := Z.cell 1 0 rfl rfl
    have v1 := Z.cell 1 1 rfl rfl
    have v2 := Z.cell 1 2 rfl rfl
    have v3 := Z.cell 1 3 rfl rfl
    have v4 := Z.cell 1 4 rfl rfl
    have sg : Seg (w.heap.size + 1) (w.heap.size + 1 + 1) u2 (((((u2.setCell ⟨w.heap.size + 1, 0, none⟩ (.slice x1 l.length m1)).setCell ⟨w.heap.size + 1, 1, none⟩ (.slice x2 r.length m2)).setCell ⟨w.heap.size + 1, 2, none⟩ (.slice x3 ps.length m3)).setCell ⟨w.heap.size + 1, 3, none⟩ (.slice x4 t.length m4)).setCell ⟨w.heap.size + 1, 4, none⟩ (.int .i64 a)) := Seg.setCell5 _ _ _ _ _ _ _
    go_wp2_with fail
    have q0 := z0.out
    have q1 := z1.out
    have q2 := z2.out
    obtain ⟨p1, p2, p3, p4, p5⟩ := p
    have O1 := o1.seg sg (.inr (by omega))
    have O2 := o2.seg sg (.inr (by omega))
    obtain ⟨e1, e2, e3, e4, e5⟩ := HNO.out (by simp)
    rw [e1, e2, e3, e4, e5]
    have s1 := O1.top
    have s2 := O2.top
    exact bodyPost_ret (v := .tuple #[.agg #[.slice x1 l.length m1, .slice x2 r.length m2, .slice x3 ps.length m3, .slice x4 t.length m4, .int .i64 a], .bool false]) (by simp [results, Try.results28, go_sem, v0, v1, v2, v3, v4]) rfl ⟨_, rfl, ⟨_, _, _, _, _, _, _, _, rfl, O1, O2, ⟨by omega, by omega, s1.2, s2, p5⟩, Z.below.size, Nat.le_refl _⟩, Z.below⟩
  · skip
    obtain ⟨⟨eL, eR, eP, eT⟩, eD, eTl, eOk⟩ := HYE.out (by simp)
    have HCL := hide (fun (W : World) (h : Below u1.heap.size u1 W) => clone_i a4 c4 t W B (I2.out _ (X.out.below.trans (h.mono X.out.below.size))) HNL.out (Nat.le_trans hB (Nat.le_trans X.out.below.size h.size)) k4)
    have HDV := hide (fun (g : Nat) (s4 : Value) (n2 h2 : Nat) (W : World) (h : Below w.heap.size w W) (hg : W.heap[g]? = some (.cells #[.slice a1 l.length c1, .slice a2 r.length c2, .slice a3 ps.length c3, s4] 113 (0, 0))) (ht : Ow W s4 t n2 h2) (hgn : g < n2 ∨ h2 ≤ g) => show Calls Try.prog 86 #[.pointer (some ⟨g, 0, none⟩), .int .i64 v] W (RetDiv W g s4 L R P T n2 h2 D) by
      rw [eL, eR, eP, eT, HSW.out, eD, ← eOk]
      exact iDiv_any g B _ _ _ s4 l r ps t v n2 h2 W hg (I1.out _ h) (Nat.le_trans hB h.size) ht hgn k1 k2 k3 hv eTl)
    clear eL eR eP eT eD eTl eOk HYE HNO HCW HSI
    go_upto_region 3 with fail
    have X1 := X
    refine wp_region_any (by kernel_rfl) ?_
    refine wpAny_factsT (w0 := u1) (fun i => ([(fun lo hi s W => s 13 = .pointer (some ⟨w.heap.size, 0, none⟩)),
      (fun lo hi s W => s 14 = .agg #[.slice a1 l.length c1, .slice a2 r.length c2, .slice a3 ps.length c3]),
      (fun lo hi s W => s 15 = .pointer (some ⟨w.heap.size, 3, none⟩)),
      (fun lo hi s W => s 16 = .slice a4 t.length c4),
      (fun lo hi s W => Ow W (s 17) t lo hi),
      (fun lo hi s W => ∃ z n m, s 18 = .agg #[.slice a1 l.length c1, .slice a2 r.length c2, .slice a3 ps.length c3, .slice z n m] ∧ s 17 = .slice z n m),
      (fun lo hi s W => ∃ g cs, s 6 = .pointer (some ⟨g, 0, none⟩) ∧ lo ≤ g ∧ g < hi ∧ W.heap[g]? = some (.cells cs 113 (0, 0)) ∧ cs.size = 4),
      (fun lo hi s W => True)] : List (Nat → Nat → (Nat → Value) → World → Prop)).getD i (fun _ _ _ _ => True)) [[], [0], [], [2], [2, 3], [0, 1, 2, 3, 4], [], [0, 1, 2, 3, 4, 5, 6]] [0, 1, 2, 3, 4, 5, 6, 7] [[13], [14], [15], [16], [17], [18, 17], [6], []] [[], [], [], [], [], [], [], []] (by kernel_rfl) (by kernel_rfl) 7 1 rfl (by kernel_rfl) ?st ?step ?fin
    case st =>
      intro i hi lo hi' s W W' h q1 q2 q3 q4 k
      rcases (show i = 0 ∨ i = 1 ∨ i = 2 ∨ i = 3 ∨ i = 4 ∨ i = 5 ∨ i = 6 by omega) with rfl | rfl | rfl | rfl | rfl | rfl | rfl
      · have h : s 13 = .pointer (some ⟨w.heap.size, 0, none⟩) := h
        show s 13 = .pointer (some ⟨w.heap.size, 0, none⟩)
        exact h
      · have h : s 14 = .agg #[.slice a1 l.length c1, .slice a2 r.length c2, .slice a3 ps.length c3] := h
        show s 14 = .agg #[.slice a1 l.length c1, .slice a2 r.length c2, .slice a3 ps.length c3]
        exact h
      · have h : s 15 = .pointer (some ⟨w.heap.size, 3, none⟩) := h
        show s 15 = .pointer (some ⟨w.heap.size, 3, none⟩)
        exact h
      · have h : s 16 = .slice a4 t.length c4 := h
        show s 16 = .slice a4 t.length c4
        exact h
      · have h : Ow W (s 17) t lo hi' := h
        show Ow W' (s 17) t lo hi'
        exact h.on k.size k.own
      · have h : ∃ z n m, s 18 = .agg #[.slice a1 l.length c1, .slice a2 r.length c2, .slice a3 ps.length c3, .slice z n m] ∧ s 17 = .slice z n m := h
        show ∃ z n m, s 18 = .agg #[.slice a1 l.length c1, .slice a2 r.length c2, .slice a3 ps.length c3, .slice z n m] ∧ s 17 = .slice z n m
        exact h
      · have h : ∃ g cs, s 6 = .pointer (some ⟨g, 0, none⟩) ∧ lo ≤ g ∧ g < hi' ∧ W.heap[g]? = some (.cells cs 113 (0, 0)) ∧ cs.size = 4 := h
        show ∃ g cs, s 6 = .pointer (some ⟨g, 0, none⟩) ∧ lo ≤ g ∧ g < hi' ∧ W'.heap[g]? = some (.cells cs 113 (0, 0)) ∧ cs.size = 4
        obtain ⟨g, cs, e1, e2, e3, e4, e5⟩ := h; exact ⟨g, cs, e1, e2, e3, (k.own g e2 e3 (Array.getElem?_eq_some_iff.1 e4).1).trans e4, e5⟩
    case step =>
      intro i hi ac W iv hb hsz hdf hrest hanc hivs hap K HK
      have HK := hide HK
      have HAN := hide hanc
      have HRS := hide hrest
      have XU := hide (X.out.up hb)
      have HB := hide hb
      clear hanc hivs hap hrest hb hsz hdf X
      rcases (show i = 0 ∨ i = 1 ∨ i = 2 ∨ i = 3 ∨ i = 4 ∨ i = 5 ∨ i = 6 by omega) with rfl | rfl | rfl | rfl | rfl | rfl | rfl
      · refine wpOp_step (o := _) rfl fun K' hK => ?_
        rw [if_pos (by go_simp)]
        have e1 : ac.tmps.getD 2 undef = .pointer (some ⟨w.heap.size, 0, none⟩) := (HRS.out 2 (by decide)).trans rfl
        go_simp
        exact hK _ _ (HK.out _ _ ⟨fun _ => ⟨Below.refl _ _, rfl⟩, fun h => absurd rfl h⟩)
      · refine wpOp_step (o := _) rfl fun K' hK => ?_
        rw [if_pos (by go_simp)]
        have e1 : ac.tmps.getD 13 undef = .pointer (some ⟨w.heap.size, 0, none⟩) := HAN.out 0 (by decide)
        have q0 := XU.out.cell 0 0 rfl rfl
        have q1 := XU.out.cell 0 1 rfl rfl
        have q2 := XU.out.cell 0 2 rfl rfl
        go_simp
        exact hK _ _ (HK.out _ _ ⟨fun _ => ⟨Below.refl _ _, rfl⟩, fun h => absurd rfl h⟩)
      · refine wpOp_step (o := _) rfl fun K' hK => ?_
        rw [if_pos (by go_simp)]
        have e1 : ac.tmps.getD 2 undef = .pointer (some ⟨w.heap.size, 0, none⟩) := (HRS.out 2 (by decide)).trans rfl
        go_simp
        exact hK _ _ (HK.out _ _ ⟨fun _ => ⟨Below.refl _ _, rfl⟩, fun h => absurd rfl h⟩)
      · refine wpOp_step (o := _) rfl fun K' hK => ?_
        rw [if_pos (by go_simp)]
        have e1 : ac.tmps.getD 15 undef = .pointer (some ⟨w.heap.size, 3, none⟩) := HAN.out 2 (by decide)
        have q3 := XU.out.cell 0 3 rfl rfl
        go_simp
        exact hK _ _ (HK.out _ _ ⟨fun _ => ⟨Below.refl _ _, rfl⟩, fun h => absurd rfl h⟩)
      · refine wpOp_step (o := _) rfl fun K' hK => ?_
        rw [if_pos (by go_simp)]
        have e1 : ac.tmps.getD 16 undef = .slice a4 t.length c4 := HAN.out 3 (by decide)
        go_simp
        go_at_call 78
        refine (HCL.out _ HB.out).mono ?_
        rintro e W' ⟨vv, rfl, ho, hbb⟩
        exact hK _ _ (HK.out _ _ ⟨fun _ => ⟨hbb, Ow.of ho hbb.size⟩, fun h => absurd rfl h⟩)
      · refine wpOp_step (o := _) rfl fun K' hK => ?_
        rw [if_pos (by go_simp)]
        obtain ⟨x4, m4, e2⟩ := (show Ow W (ac.tmps.getD 17 undef) t _ _ from HAN.out 4 (by decide)).form
        have e1 : ac.tmps.getD 14 undef = .agg #[.slice a1 l.length c1, .slice a2 r.length c2, .slice a3 ps.length c3] := HAN.out 1 (by decide)
        have e2' := e2
        have e1' := e1
        rw [Array.getD_eq_getD_getElem?] at e1' e2'
        go_simp
        exact hK _ _ (HK.out _ _ ⟨fun _ => ⟨Below.refl _ _, ⟨_, _, _, rfl, e2⟩⟩, fun h => absurd rfl h⟩)
      · refine wpOp_step (o := _) rfl fun K' hK => ?_
        rw [if_pos (by go_simp)]
        go_simp
        exact hK _ _ (HK.out _ _ ⟨fun _ => ⟨below1 W _, ⟨W.heap.size, _, rfl, Nat.le_refl _, by simp, heap_alloc_new W _, rfl⟩⟩, fun h => absurd rfl h⟩)
    case fin =>
    intro ac w2 iv I
    have hbY := I.below
    have O2 : Ow w2 (slot ac 17) t (iv 4).1 (iv 4).2 := (I.fact 4 (by decide) rfl).2
    obtain ⟨x4, n4, m4, F18, hx⟩ : ∃ z n m, slot ac 18 = .agg #[.slice a1 l.length c1, .slice a2 r.length c2, .slice a3 ps.length c3, .slice z n m] ∧ slot ac 17 = .slice z n m := (I.fact 5 (by decide) rfl).2
    obtain ⟨g, cs, F6, f2, f3, f4, f5⟩ : ∃ g cs, slot ac 6 = .pointer (some ⟨g, 0, none⟩) ∧ (iv 6).1 ≤ g ∧ g < (iv 6).2 ∧ w2.heap[g]? = some (.cells cs 113 (0, 0)) ∧ cs.size = 4 := (I.fact 6 (by decide) rfl).2
    obtain ⟨iv4a, iv4b, iv4c⟩ := I.ivs 4 (by decide) rfl rfl
    obtain ⟨iv6a, iv6b, iv6c⟩ := I.ivs 6 (by decide) rfl rfl
    have ap := I.apart 4 6 (by decide) (by decide) rfl rfl rfl rfl (by decide)
    rw [hx] at O2
    obtain rfl : n4 = t.length := by
      obtain ⟨x, y, e⟩ := O2.form
      simp only [Value.slice.injEq] at e
      exact e.2.1
    obtain ⟨n2, hn2⟩ : ∃ q, q = (iv 4).1 := ⟨_, rfl⟩
    obtain ⟨h2, hh2⟩ : ∃ q, q = (iv 4).2 := ⟨_, rfl⟩
    rw [← hn2, ← hh2] at O2
    have hgl := (Array.getElem?_eq_some_iff.1 f4).1
    have HN := hide (show u1.heap.size ≤ g ∧ u1.heap.size ≤ n2 ∧ n2 ≤ h2 ∧ (g < n2 ∨ h2 ≤ g) ∧ u1.heap.size ≤ w2.heap.size ∧ g < w2.heap.size ∧ h2 ≤ w2.heap.size by have := hbY.size; omega)
    rw [frame_of [13, 14, 15, 16, 17, 18, 6] I.size I.defers (fun s hs => I.rest s (rfDsts_spec (by kernel_rfl) hs))]
    simp only [List.foldl_cons, List.foldl_nil, List.setIfInBounds_toArray, List.set_cons_succ, List.set_cons_zero, F6, F18]
    generalize slot ac 13 = t13
    generalize slot ac 14 = t14
    generalize slot ac 15 = t15
    generalize slot ac 16 = t16
    generalize slot ac 17 = t17
    clear I F6 F18 hx iv4a iv4b iv4c iv6a iv6b iv6c ap f2 f3 hn2 hh2 hgl
    try clear iv ac
    have G4 := heap_put4 f4 f5 (.slice a1 l.length c1) (.slice a2 r.length c2) (.slice a3 ps.length c3) (.slice x4 t.length m4)
    obtain ⟨b0, b1, b2, b3, rfl⟩ := size4 f5
    have X := hide (X1.out.up hbY)
    have cq0 := cell_of_row w2 g 0 _ _ (0, 0) f4
    have f0' := frozen_of_row w2 g 0 _ _ f4
    have cq1 := cell_of_row w2 g 1 _ _ (0, 0) f4
    have f1' := frozen_of_row w2 g 1 _ _ f4
    have cq2 := cell_of_row w2 g 2 _ _ (0, 0) f4
    have f2' := frozen_of_row w2 g 2 _ _ f4
    have cq3 := cell_of_row w2 g 3 _ _ (0, 0) f4
    have f3' := frozen_of_row w2 g 3 _ _ f4
    show wpOp _ _ _ 7 _ _ _
    refine wpOp_step (o := _) rfl fun K' hK => ?_
    rw [if_pos (by go_simp)]
    go_simp
    refine hK _ _ ?_
    clear hK K'
    show Exit.then _ _ .normal _ _
    have sg : Seg g (g + 1) w2 ((((w2.setCell ⟨g, 0, none⟩ (.slice a1 l.length c1)).setCell ⟨g, 1, none⟩ (.slice a2 r.length c2)).setCell ⟨g, 2, none⟩ (.slice a3 ps.length c3)).setCell ⟨g, 3, none⟩ (.slice x4 t.length m4)) := (((Seg.setCell w2 g 0 _).trans (Seg.setCell _ g 1 _)).trans (Seg.setCell _ g 2 _)).trans (Seg.setCell _ g 3 _)
    obtain ⟨u3, hu3⟩ : ∃ q, q = ((((w2.setCell ⟨g, 0, none⟩ (.slice a1 l.length c1)).setCell ⟨g, 1, none⟩ (.slice a2 r.length c2)).setCell ⟨g, 2, none⟩ (.slice a3 ps.length c3)).setCell ⟨g, 3, none⟩ (.slice x4 t.length m4)) := ⟨_, rfl⟩
    rw [← hu3] at sg G4 ⊢
    clear hu3 cq0 cq1 cq2 cq3 f0' f1' f2' f3' f4 f5
    obtain ⟨g1, g2, g3, g4, g5, g6, g7⟩ := HN.out
    have q0 := z0.out
    have q1 := z1.out
    have X := hide (X.out.seg sg (by omega) (by intro e he; simp at he; rcases he with rfl | rfl <;> simp <;> omega))
    have O2 := hide (O2.seg sg (by omega))
    have hs3 := sg.below.size
    have G4 := hide G4
    have HN := hide (show w.heap.size + 1 < g ∧ w.heap.size + 1 < n2 ∧ (g < n2 ∨ h2 ≤ g) ∧ w.heap.size + 1 < u3.heap.size ∧ h2 ≤ u3.heap.size by omega)
    clear sg g1 g2 g3 g4 g5 g6 g7 q0 q1 hs3 hbY
    go_wp2_with fail
    go_at_call 86
    refine (HDV.out g _ n2 h2 u3 X.out.below G4.out O2.out HN.out.2.2.1).mono ?_
    rintro e u4 ⟨y1, y2, y3, lo, hi, rfl, G5, o1, o2, hlo, hG⟩
    obtain ⟨w1, r1, w2, r2, w3, r3, e⟩ := o1.form
    injection e with e
    injection e with e
    injection e with e1 e
    injection e with e2 e
    injection e with e3 e
    subst e1 e2 e3
    clear e
    obtain ⟨g1, g2, g3, g4, g5⟩ := HN.out
    have hb := hG (w.heap.size + 1 + 1) (by omega) (by omega) (by omega)
    have X := hide (X.out.seg (Seg.of_low hb) (by omega) (by intro e he; simp at he; rcases he with rfl | rfl <;> simp <;> omega))
    have et : T.length = t.length := by
      obtain ⟨x, y, e⟩ := o2.form
      simp only [Value.slice.injEq] at e
      exact e.2.1.symm
    have d0 := cell_of_row u4 g 0 _ _ (0, 0) G5
    have d1 := cell_of_row u4 g 1 _ _ (0, 0) G5
    have d2 := cell_of_row u4 g 2 _ _ (0, 0) G5
    have d3 := cell_of_row u4 g 3 _ _ (0, 0) G5
    have d4 := X.out.cell 0 4 rfl rfl
    have c0 := X.out.cell 1 0 rfl rfl
    have fc0 := X.out.free 1 0 rfl
    have c1 := X.out.cell 1 1 rfl rfl
    have fc1 := X.out.free 1 1 rfl
    have c2 := X.out.cell 1 2 rfl rfl
    have fc2 := X.out.free 1 2 rfl
    have c3 := X.out.cell 1 3 rfl rfl
    have fc3 := X.out.free 1 3 rfl
    have c4 := X.out.cell 1 4 rfl rfl
    have fc4 := X.out.free 1 4 rfl
    have Z := (((((X.out.set 1 0 rfl (.slice w1 L.length r1)).set 1 1 rfl (.slice w2 R.length r2)).set 1 2 rfl (.slice w3 P.length r3)).set 1 3 rfl (.slice x4 t.length m4)).set 1 4 rfl (.int .i64 a))
    have v0 := Z.cell 1 0 rfl rfl
    have v1 := Z.cell 1 1 rfl rfl
    have v2 := Z.cell 1 2 rfl rfl
    have v3 := Z.cell 1 3 rfl rfl
    have v4 := Z.cell 1 4 rfl rfl
    have sg : Seg (w.heap.size + 1) (w.heap.size + 1 + 1) u4 (((((u4.setCell ⟨w.heap.size + 1, 0, none⟩ (.slice w1 L.length r1)).setCell ⟨w.heap.size + 1, 1, none⟩ (.slice w2 R.length r2)).setCell ⟨w.heap.size + 1, 2, none⟩ (.slice w3 P.length r3)).setCell ⟨w.heap.size + 1, 3, none⟩ (.slice x4 t.length m4)).setCell ⟨w.heap.size + 1, 4, none⟩ (.int .i64 a)) := Seg.setCell5 _ _ _ _ _ _ _
    go_wp2_with fail
    have O1 := o1.seg sg (.inr (by omega))
    have O2 := o2.seg sg (.inr (by omega))
    have s1 := O1.top
    have s2 := O2.top
    have s3 := HN.out
    have s4 := O2.le
    have hdis : hi ≤ n2 ∨ h2 ≤ lo := .inr (by have := hlo.1; omega)
    exact bodyPost_ret (v := .tuple #[.agg #[.slice w1 L.length r1, .slice w2 R.length r2, .slice w3 P.length r3, .slice x4 t.length m4, .int .i64 a], .bool D]) (by simp [results, Try.results28, go_sem, v0, v1, v2, v3, v4]) rfl ⟨_, rfl, ⟨_, _, _, _, _, _, _, _, rfl, O1, O2, ⟨by omega, by omega, s1.2, s2, hdis⟩, Z.below.size, Nat.le_refl _⟩, Z.below⟩
    
end Go.Proofs.Ytepkkeclkdlheaa

/- What AlignMap of the program returns (gen_al.py; promise 8). -/
namespace Go.Proofs.Ytepkkeclkdlheaa
open Go.RowKit Go.ChangeShapes
set_option linter.unusedSimpArgs false
set_option linter.unusedVariables false
set_option maxRecDepth 100000

set_option maxHeartbeats 16000000 in
theorem iAl_any (u hv : Value) (l r : List Int) (ps : List Pv) (t h : List Int) (a : Int) (w : World) (B : Nat) (hu : Mp w B u l r ps t a) (hh : InC w B hv h) (hB : B ≤ w.heap.size) (k1 : l.length ≤ 1048576) (k2 : r.length ≤ 1048576) (k3 : ps.length ≤ 1048576) (k4 : t.length ≤ 1048576) (k5 : h.length ≤ 1048576) :
    Calls Try.prog 30 #[u, hv] w (RetMpIB w (alM ⟨l, r, ps, t, a⟩ h).l (alM ⟨l, r, ps, t, a⟩ h).r (alM ⟨l, r, ps, t, a⟩ h).p (alM ⟨l, r, ps, t, a⟩ h).t (alM ⟨l, r, ps, t, a⟩ h).a (alN ⟨l, r, ps, t, a⟩ h) (alB ⟨l, r, ps, t, a⟩ h)) := by
  obtain ⟨a1, c1, a2, c2, a3, c3, a4, c4, rfl, i1, i2⟩ := hu.form
  have V := hide (fun (W : World) (h : Below w.heap.size w W) => hu.below h hB)
  have hwf := hu.wf
  obtain ⟨hi0, hcp⟩ := hh
  obtain ⟨ha, hc, rfl⟩ := hi0.form
  have HH := hide (fun (W : World) (h : Below w.heap.size w W) => hi0.below h hB)
  have hi1 := hi0
  obtain ⟨qa, qc, e, -, -, hcell⟩ := hi1
  simp only [Value.slice.injEq, true_and] at e
  obtain ⟨rfl, rfl⟩ := e
  have HCE := hide hcell
  have HCP := hide hcp
  clear hcell hcp hi0 i1 i2 hu
  obtain ⟨t1, ht1⟩ : ∃ q, q = isMp l r ps t a := ⟨_, rfl⟩
  obtain ⟨t2, ht2⟩ : ∃ q, q = isHist h := ⟨_, rfl⟩
  obtain ⟨t3, ht3⟩ : ∃ q, q = decide (a ≤ (h.length : Int)) := ⟨_, rfl⟩
  have D3 : decide ((h.length : Int) < a) = !t3 := by
    rw [ht3]
    by_cases hq : a ≤ (h.length : Int)
    · simp [hq]
    · simp [hq]; omega
  have HAB : alB ⟨l, r, ps, t, a⟩ h = (t1 && t2 && t3) := by rw [ht1, ht2, ht3]; rfl
  obtain ⟨RM, hRM⟩ : ∃ q, q = alM ⟨l, r, ps, t, a⟩ h := ⟨_, rfl⟩
  obtain ⟨RN, hRN⟩ : ∃ q, q = alN ⟨l, r, ps, t, a⟩ h := ⟨_, rfl⟩
  have HNO := hide (fun (hf : (t1 && t2 && t3) = false) => show RM = ⟨l, r, ps, t, a⟩ ∧ RN = 0 by rw [hRM, hRN]; exact al_no (HAB.trans hf))
  have HYE := hide (fun (hf : (t1 && t2 && t3) = true) => show ∃ a0 : Nat, a = (a0 : Int) ∧ a0 ≤ h.length ∧ RM = alK l r ps t h a0 (h.length - a0) ∧ RN = ((h.length - a0 : Nat) : Int) ∧ isMp l r ps t (a0 : Int) = true ∧ isHist h = true by
    have hb := HAB.trans hf
    simp only [Bool.and_eq_true] at hf
    have h1 := hf.1.1
    rw [ht1] at h1
    have h2 := hf.1.2
    rw [ht2] at h2
    have h3 := hf.2
    rw [ht3] at h3
    obtain ⟨a0, rfl⟩ := Int.eq_ofNat_of_zero_le (isMp_iff.1 h1).2.2.2.1
    refine ⟨a0, rfl, by have := of_decide_eq_true h3; omega, ?_, ?_, h1, h2⟩
    · rw [hRM]; exact (al_yes hb).1
    · rw [hRN]; exact (al_yes hb).2)
  rw [← hRM, ← hRN, HAB]
  have Ht1 := hide ht1
  have Ht2 := hide ht2
  have HWF := hide hwf
  clear hRM hRN HAB ht1 ht2 ht3 hwf
  have X := hide (Kn.two w #[.slice a1 l.length c1, .slice a2 r.length c2, .slice a3 ps.length c3, .slice a4 t.length c4, .int .i64 a] #[.slice none 0 0, .slice none 0 0, .slice none 0 0, .slice none 0 0, .int .i64 0] 27 27)
  obtain ⟨u0, hu0⟩ : ∃ q, q = (w.alloc (.cells #[.slice a1 l.length c1, .slice a2 r.length c2, .slice a3 ps.length c3, .slice a4 t.length c4, .int .i64 a] 27)).alloc (.cells #[.slice none 0 0, .slice none 0 0, .slice none 0 0, .slice none 0 0, .int .i64 0] 27) := ⟨_, rfl⟩
  rw [← hu0] at X
  have z0 := hide (show u0.heap.size = w.heap.size + 1 + 1 by rw [hu0]; simp)
  have d0 := X.out.cell 0 0 rfl rfl
  have d1 := X.out.cell 0 1 rfl rfl
  have d2 := X.out.cell 0 2 rfl rfl
  have d3 := X.out.cell 0 3 rfl rfl
  have d4 := X.out.cell 0 4 rfl rfl
  go_enter Try.func30, Try.ntmps30
  go_wp2_with fail
  rw [← hu0]
  clear hu0
  go_at_call 85
  refine (iMpCopy_any _ l r ps t a _ B (V.out _ X.out.below) (Nat.le_trans hB X.out.below.size) k1 k2 k3 k4).mono ?_
  rintro e u1 ⟨q1, rfl, O, hb⟩
  obtain ⟨x1, m1, x2, m2, x3, m3, x4, m4, hf⟩ := O.form
  subst hf
  have z1 := hide hb.size
  have X1 := X.out.up hb
  clear hb
  clear d0 d1 d2 d3 d4
  have X := hide (X1.alloc #[.slice x1 l.length m1, .slice x2 r.length m2, .slice x3 ps.length m3, .slice x4 t.length m4, .int .i64 a] 27)
  clear X1
  have hbl := below1 u1 (.cells #[.slice x1 l.length m1, .slice x2 r.length m2, .slice x3 ps.length m3, .slice x4 t.length m4, .int .i64 a] 27)
  have O := hide (O.below hbl)
  clear hbl
  obtain ⟨u2, hu2⟩ : ∃ q, q = u1.alloc (.cells #[.slice x1 l.length m1, .slice x2 r.length m2, .slice x3 ps.length m3, .slice x4 t.length m4, .int .i64 a] 27) := ⟨_, rfl⟩
  obtain ⟨b7, hb7⟩ : ∃ q, q = u1.heap.size := ⟨_, rfl⟩
  have z2 := hide (show b7 = u1.heap.size ∧ u2.heap.size = b7 + 1 by rw [hu2, hb7]; simp)
  rw [← hu2] at X O
  rw [← hb7] at X O
  simp only [List.cons_append, List.nil_append] at X
  have d0 := X.out.cell 0 0 rfl rfl
  have d1 := X.out.cell 0 1 rfl rfl
  have d2 := X.out.cell 0 2 rfl rfl
  have d3 := X.out.cell 0 3 rfl rfl
  have d4 := X.out.cell 0 4 rfl rfl
  rw [hu2] at d0 d1 d2 d3 d4
  go_wp2_with fail
  rw [← hu2]
  try rw [← hb7]
  clear hu2 hb7
  go_at_call 26
  refine (iIsMp_any _ l r t ps a _ B (V.out _ X.out.below) (Nat.le_trans hB X.out.below.size)).mono ?_
  rintro e u3 ⟨rfl, hb⟩
  rw [← Ht1.out]
  have X := hide (X.out.up hb)
  have O := hide (O.out.below hb)
  have z3 := hide hb.size
  clear hb
  clear d0 d1 d2 d3 d4
  cases t1
  · skip
    have d0 := X.out.cell 2 0 rfl rfl
    have d1 := X.out.cell 2 1 rfl rfl
    have d2 := X.out.cell 2 2 rfl rfl
    have d3 := X.out.cell 2 3 rfl rfl
    have d4 := X.out.cell 2 4 rfl rfl
    have c0 := X.out.cell 1 0 rfl rfl
    have c1 := X.out.cell 1 1 rfl rfl
    have c2 := X.out.cell 1 2 rfl rfl
    have c3 := X.out.cell 1 3 rfl rfl
    have c4 := X.out.cell 1 4 rfl rfl
    have fc0 := X.out.free 1 0 rfl
    have fc1 := X.out.free 1 1 rfl
    have fc2 := X.out.free 1 2 rfl
    have fc3 := X.out.free 1 3 rfl
    have fc4 := X.out.free 1 4 rfl
    have Z := (((((X.out.set 1 0 rfl (.slice x1 l.length m1)).set 1 1 rfl (.slice x2 r.length m2)).set 1 2 rfl (.slice x3 ps.length m3)).set 1 3 rfl (.slice x4 t.length m4)).set 1 4 rfl (.int .i64 a))
    have y0 := Z.cell 1 0 rfl rfl
    have y1 := Z.cell 1 1 rfl rfl
    have y2 := Z.cell 1 2 rfl rfl
    have y3 := Z.cell 1 3 rfl rfl
    have y4 := Z.cell 1 4 rfl rfl
    have sg : Seg (w.heap.size + 1) (w.heap.size + 1 + 1) u3 (((((u3.setCell ⟨w.heap.size + 1, 0, none⟩ (.slice x1 l.length m1)).setCell ⟨w.heap.size + 1, 1, none⟩ (.slice x2 r.length m2)).setCell ⟨w.heap.size + 1, 2, none⟩ (.slice x3 ps.length m3)).setCell ⟨w.heap.size + 1, 3, none⟩ (.slice x4 t.length m4)).setCell ⟨w.heap.size + 1, 4, none⟩ (.int .i64 a)) := Seg.setCell5 _ _ _ _ _ _ _
    go_wp2_with fail
    have q0 := z0.out
    have q1 := z1.out
    have q2 := z2.out
    have O := O.out.seg sg (.inr (by omega))
    obtain ⟨e1, e2⟩ := HNO.out rfl
    rw [e1, e2]
    have hsz := Z.below.size
    have ot := O.top
    exact bodyPost_ret (v := .tuple #[.agg #[.slice x1 l.length m1, .slice x2 r.length m2, .slice x3 ps.length m3, .slice x4 t.length m4, .int .i64 a], .int .i64 0, .bool false]) (by simp [results, Try.results30, go_sem, y0, y1, y2, y3, y4]) rfl ⟨_, rfl, O.mono (by omega) (by omega) (Nat.le_refl _), Z.below⟩
  · skip
    go_wp2_with fail
    go_at_call 88
    refine (iHist_any _ h _ B (HH.out _ X.out.below) (Nat.le_trans hB X.out.below.size)).mono ?_
    rintro e u4 ⟨rfl, hb⟩
    rw [← Ht2.out]
    have X := hide (X.out.up hb)
    have O := hide (O.out.below hb)
    have z3 := hide (Nat.le_trans z3.out hb.size)
    clear hb
    cases t2
    · skip
      have d0 := X.out.cell 2 0 rfl rfl
      have d1 := X.out.cell 2 1 rfl rfl
      have d2 := X.out.cell 2 2 rfl rfl
      have d3 := X.out.cell 2 3 rfl rfl
      have d4 := X.out.cell 2 4 rfl rfl
      have c0 := X.out.cell 1 0 rfl rfl
      have c1 := X.out.cell 1 1 rfl rfl
      have c2 := X.out.cell 1 2 rfl rfl
      have c3 := X.out.cell 1 3 rfl rfl
      have c4 := X.out.cell 1 4 rfl rfl
      have fc0 := X.out.free 1 0 rfl
      have fc1 := X.out.free 1 1 rfl
      have fc2 := X.out.free 1 2 rfl
      have fc3 := X.out.free 1 3 rfl
      have fc4 := X.out.free 1 4 rfl
      have Z := (((((X.out.set 1 0 rfl (.slice x1 l.length m1)).set 1 1 rfl (.slice x2 r.length m2)).set 1 2 rfl (.slice x3 ps.length m3)).set 1 3 rfl (.slice x4 t.length m4)).set 1 4 rfl (.int .i64 a))
      have y0 := Z.cell 1 0 rfl rfl
      have y1 := Z.cell 1 1 rfl rfl
      have y2 := Z.cell 1 2 rfl rfl
      have y3 := Z.cell 1 3 rfl rfl
      have y4 := Z.cell 1 4 rfl rfl
      have sg : Seg (w.heap.size + 1) (w.heap.size + 1 + 1) u4 (((((u4.setCell ⟨w.heap.size + 1, 0, none⟩ (.slice x1 l.length m1)).setCell ⟨w.heap.size + 1, 1, none⟩ (.slice x2 r.length m2)).setCell ⟨w.heap.size + 1, 2, none⟩ (.slice x3 ps.length m3)).setCell ⟨w.heap.size + 1, 3, none⟩ (.slice x4 t.length m4)).setCell ⟨w.heap.size + 1, 4, none⟩ (.int .i64 a)) := Seg.setCell5 _ _ _ _ _ _ _
      go_wp2_with fail
      have q0 := z0.out
      have q1 := z1.out
      have q2 := z2.out
      have O := O.out.seg sg (.inr (by omega))
      obtain ⟨e1, e2⟩ := HNO.out rfl
      rw [e1, e2]
      have hsz := Z.below.size
      have ot := O.top
      exact bodyPost_ret (v := .tuple #[.agg #[.slice x1 l.length m1, .slice x2 r.length m2, .slice x3 ps.length m3, .slice x4 t.length m4, .int .i64 a], .int .i64 0, .bool false]) (by simp [results, Try.results30, go_sem, y0, y1, y2, y3, y4]) rfl ⟨_, rfl, O.mono (by omega) (by omega) (Nat.le_refl _), Z.below⟩
    · cases t3
      · skip
        have d0 := X.out.cell 2 0 rfl rfl
        have d1 := X.out.cell 2 1 rfl rfl
        have d2 := X.out.cell 2 2 rfl rfl
        have d3 := X.out.cell 2 3 rfl rfl
        have d4 := X.out.cell 2 4 rfl rfl
        have c0 := X.out.cell 1 0 rfl rfl
        have c1 := X.out.cell 1 1 rfl rfl
        have c2 := X.out.cell 1 2 rfl rfl
        have c3 := X.out.cell 1 3 rfl rfl
        have c4 := X.out.cell 1 4 rfl rfl
        have fc0 := X.out.free 1 0 rfl
        have fc1 := X.out.free 1 1 rfl
        have fc2 := X.out.free 1 2 rfl
        have fc3 := X.out.free 1 3 rfl
        have fc4 := X.out.free 1 4 rfl
        have g4 := X.out.cell 0 4 rfl rfl
        have Z := (((((X.out.set 1 0 rfl (.slice x1 l.length m1)).set 1 1 rfl (.slice x2 r.length m2)).set 1 2 rfl (.slice x3 ps.length m3)).set 1 3 rfl (.slice x4 t.length m4)).set 1 4 rfl (.int .i64 a))
        have y0 := Z.cell 1 0 rfl rfl
        have y1 := Z.cell 1 1 rfl rfl
        have y2 := Z.cell 1 2 rfl rfl
        have y3 := Z.cell 1 3 rfl rfl
        have y4 := Z.cell 1 4 rfl rfl
        have sg : Seg (w.heap.size + 1) (w.heap.size + 1 + 1) u4 (((((u4.setCell ⟨w.heap.size + 1, 0, none⟩ (.slice x1 l.length m1)).setCell ⟨w.heap.size + 1, 1, none⟩ (.slice x2 r.length m2)).setCell ⟨w.heap.size + 1, 2, none⟩ (.slice x3 ps.length m3)).setCell ⟨w.heap.size + 1, 3, none⟩ (.slice x4 t.length m4)).setCell ⟨w.heap.size + 1, 4, none⟩ (.int .i64 a)) := Seg.setCell5 _ _ _ _ _ _ _
        go_wp2_with fail
        have q0 := z0.out
        have q1 := z1.out
        have q2 := z2.out
        have O := O.out.seg sg (.inr (by omega))
        obtain ⟨e1, e2⟩ := HNO.out rfl
        rw [e1, e2]
        have hsz := Z.below.size
        have ot := O.top
        exact bodyPost_ret (v := .tuple #[.agg #[.slice x1 l.length m1, .slice x2 r.length m2, .slice x3 ps.length m3, .slice x4 t.length m4, .int .i64 a], .int .i64 0, .bool false]) (by simp [results, Try.results30, go_sem, y0, y1, y2, y3, y4]) rfl ⟨_, rfl, O.mono (by omega) (by omega) (Nat.le_refl _), Z.below⟩
      · skip
        obtain ⟨a0, rfl, ha0, eM, eN, hm, hhi⟩ := HYE.out rfl
        have HOK := hide (fun (k : Nat) (hk : a0 + k ≤ h.length) => alK_ok hm hhi ha0 HWF.out k hk)
        have HSU := hide (fun (k : Nat) (hk : a0 + k < h.length) => alK_succ l r ps t h a0 k hk)
        have HI64 := hide (fun (k : Nat) (hk : k < h.length) => show I64 (h[k]'hk) by
          have hh2 := hhi
          rw [hist_of] at hh2
          simp only [Bool.and_eq_true, List.all_eq_true] at hh2
          have h3 : -1000 ≤ h[k] ∧ h[k] ≤ 1000 := of_decide_eq_true (hh2.1 _ (List.getElem_mem hk))
          exact ⟨by omega, by omega⟩)
        have HEM := hide eM
        have HEN := hide eN
        clear eM eN hm hhi HYE HNO
        obtain ⟨K, hK⟩ : ∃ q, q = alK l r ps t h a0 := ⟨_, rfl⟩
        rw [← hK] at HOK HSU HEM
        have hK0 : K 0 = ⟨l, r, ps, t, (a0 : Int)⟩ := by rw [hK]; rfl
        clear hK
        have g4 := X.out.cell 0 4 rfl rfl
        have HFA0 := hide (fun (FA : Option Addr) (hF : (ha = none ∧ FA = none) ∨ ∃ b o s, ha = some ⟨b, o, s⟩ ∧ FA = (if hc = a0 then some ⟨b, o, s⟩ else some ((⟨b, o, s⟩ : Addr).add a0))) => show ∀ k (hk : a0 + k < h.length), ∃ b o, FA = some ⟨b, o, none⟩ ∧ b < B ∧ w.cell? ⟨b, o + k, none⟩ = some (.int .i64 (h[a0 + k]'hk)) by
          intro k hk
          obtain ⟨b, o, e1, e2, e3⟩ := HCE.out (a0 + k) hk
          rcases hF with ⟨h1, h2⟩ | ⟨b', o', s', h1, h2⟩
          · rw [h1] at e1; cases e1
          · rw [h1] at e1
            injection e1 with e1
            injection e1 with e4 e5 e6
            subst e4 e5 e6
            have hcap : h.length ≤ hc := by
              obtain ⟨_, _, _, e, hle, -⟩ := HCP.out
              simp only [Value.slice.injEq] at e
              omega
            rw [if_neg (by omega)] at h2
            exact ⟨_, _, h2.trans (congrArg some (addr_add _ _ _)), e2, by rw [Nat.add_assoc]; exact e3⟩)
        have hcap : h.length ≤ hc := by
          obtain ⟨_, _, _, e, hle, -⟩ := HCP.out
          simp only [Value.slice.injEq] at e
          omega
        cases ha with
        | none =>
          have HZL := hide (show h.length = a0 by
            rcases Nat.lt_or_ge a0 h.length with hq | hq
            · obtain ⟨_, _, e, -⟩ := HCE.out a0 hq
              cases e
            · omega)
          clear hcap HFA0
          go_upto_region 6 with fail
          clear g4
          have hdf : decide (h.length < a0) = false := decide_eq_false (by omega)
          try rw [hdf]
          clear hdf
          go_loopw [35] (fun u wr => ∃ (k : Nat) (y1 : Option Addr) (n1 : Nat) (y2 : Option Addr) (n2 : Nat) (y3 : Option Addr) (n3 : Nat) (y4 : Option Addr) (n4 : Nat) (lo hi : Nat), k ≤ h.length - a0 ∧ u = .int .i64 k ∧ Hid (Kn w wr [(w.heap.size, #[.slice a1 l.length c1, .slice a2 r.length c2, .slice a3 ps.length c3, .slice a4 t.length c4, .int .i64 (a0 : Int)], 27), (w.heap.size + 1, #[.slice none 0 0, .slice none 0 0, .slice none 0 0, .slice none 0 0, .int .i64 0], 27), (b7, #[.slice y1 (K k).l.length n1, .slice y2 (K k).r.length n2, .slice y3 (K k).p.length n3, .slice y4 (K k).t.length n4, .int .i64 ((a0 + k : Nat) : Int)], 27)]) ∧ Hid (MpO wr (.agg #[.slice y1 (K k).l.length n1, .slice y2 (K k).r.length n2, .slice y3 (K k).p.length n3, .slice y4 (K k).t.length n4, .int .i64 ((a0 + k : Nat) : Int)]) (K k).l (K k).r (K k).p (K k).t ((a0 + k : Nat) : Int) lo hi) ∧ Hid (w.heap.size + 1 < lo ∧ (b7 < lo ∨ hi ≤ b7) ∧ w.heap.size + 1 < b7)) (fun u _ => h.length - a0 - (intOf u).toNat)
          case atStart =>
            have q0 := z0.out
            have q1 := z1.out
            have q2 := z2.out
            have ot := O.out.top
            refine ⟨0, x1, m1, x2, m2, x3, m3, x4, m4, u0.heap.size, b7, by omega, rfl, ?_, ?_, ?_⟩
            · rw [hK0]; exact X.out
            · rw [hK0]; exact O.out
            · exact ⟨by omega, .inr (Nat.le_refl _), by omega⟩
          case round =>
            clear X O hK0
            obtain ⟨k, y1, n1, y2, n2, y3, n3, y4, n4, lo, hi, hk, rfl, X, O, NB⟩ := hrel
            by_cases hlt : k < h.length - a0
            · have hix : a0 + k < h.length := by omega
              exfalso
              have hq := HZL.out
              omega
            · skip
              have ev : ((a0 + k : Nat) : Int) = (a0 : Int) + (k : Int) := by omega
              have h9 := X.out
              rw [ev] at h9
              have X := hide h9
              have h8 := O.out
              rw [ev] at h8
              have O := hide h8
              clear h9 h8
              have hke : h.length = a0 + k := by omega
              have ek : h.length - a0 = k := by omega
              have bk : decide ((k : Int) < ((h.length - a0 : Nat) : Int)) = false := by simp; omega
              have e1 : RM = K k := by rw [HEM.out, ek]
              have e2 : RN = (k : Int) := by rw [HEN.out, ek]
              have hok := HOK.out k (by omega)
              have HE := hide (And.intro e1 (And.intro e2 hok.2.1))
              clear e1 e2 hok
              have d0 := X.out.cell 2 0 rfl rfl
              have d1 := X.out.cell 2 1 rfl rfl
              have d2 := X.out.cell 2 2 rfl rfl
              have d3 := X.out.cell 2 3 rfl rfl
              have d4 := X.out.cell 2 4 rfl rfl
              have c0 := X.out.cell 1 0 rfl rfl
              have c1 := X.out.cell 1 1 rfl rfl
              have c2 := X.out.cell 1 2 rfl rfl
              have c3 := X.out.cell 1 3 rfl rfl
              have c4 := X.out.cell 1 4 rfl rfl
              have fc0 := X.out.free 1 0 rfl
              have fc1 := X.out.free 1 1 rfl
              have fc2 := X.out.free 1 2 rfl
              have fc3 := X.out.free 1 3 rfl
              have fc4 := X.out.free 1 4 rfl
              have Z := (((((X.out.set 1 0 rfl (.slice y1 (K k).l.length n1)).set 1 1 rfl (.slice y2 (K k).r.length n2)).set 1 2 rfl (.slice y3 (K k).p.length n3)).set 1 3 rfl (.slice y4 (K k).t.length n4)).set 1 4 rfl (.int .i64 ((a0 : Int) + (k : Int))))
              have v0 := Z.cell 1 0 rfl rfl
              have v1 := Z.cell 1 1 rfl rfl
              have v2 := Z.cell 1 2 rfl rfl
              have v3 := Z.cell 1 3 rfl rfl
              have v4 := Z.cell 1 4 rfl rfl
              have sg : Seg (w.heap.size + 1) (w.heap.size + 1 + 1) wr (((((wr.setCell ⟨w.heap.size + 1, 0, none⟩ (.slice y1 (K k).l.length n1)).setCell ⟨w.heap.size + 1, 1, none⟩ (.slice y2 (K k).r.length n2)).setCell ⟨w.heap.size + 1, 2, none⟩ (.slice y3 (K k).p.length n3)).setCell ⟨w.heap.size + 1, 3, none⟩ (.slice y4 (K k).t.length n4)).setCell ⟨w.heap.size + 1, 4, none⟩ (.int .i64 ((a0 : Int) + (k : Int)))) := Seg.setCell5 _ _ _ _ _ _ _
              go_wp2_with fail
              obtain ⟨e1, e2, e3⟩ := HE.out
              have nb := NB.out
              have O := O.out.seg sg (.inr (by omega))
              have hsz := Z.below.size
              have ot := O.top
              rw [e1, e2, e3, ev]
              exact bodyPost_ret (v := .tuple #[.agg #[.slice y1 (K k).l.length n1, .slice y2 (K k).r.length n2, .slice y3 (K k).p.length n3, .slice y4 (K k).t.length n4, .int .i64 ((a0 : Int) + (k : Int))], .int .i64 (k : Int), .bool true]) (by simp [results, Try.results30, go_sem, v0, v1, v2, v3, v4]) rfl ⟨_, rfl, O.mono (by omega) (by omega) (Nat.le_refl _), Z.below⟩
        | some hA =>
          obtain ⟨hb9, ho9, sub9⟩ := hA
          by_cases hca : hc = a0
          · have HZL := hide (show h.length = a0 by omega)
            clear hcap HFA0
            go_upto_region 6 with fail
            clear g4
            have hdf : decide (h.length < a0) = false := decide_eq_false (by omega)
            try rw [hdf]
            clear hdf
            go_loopw [35] (fun u wr => ∃ (k : Nat) (y1 : Option Addr) (n1 : Nat) (y2 : Option Addr) (n2 : Nat) (y3 : Option Addr) (n3 : Nat) (y4 : Option Addr) (n4 : Nat) (lo hi : Nat), k ≤ h.length - a0 ∧ u = .int .i64 k ∧ Hid (Kn w wr [(w.heap.size, #[.slice a1 l.length c1, .slice a2 r.length c2, .slice a3 ps.length c3, .slice a4 t.length c4, .int .i64 (a0 : Int)], 27), (w.heap.size + 1, #[.slice none 0 0, .slice none 0 0, .slice none 0 0, .slice none 0 0, .int .i64 0], 27), (b7, #[.slice y1 (K k).l.length n1, .slice y2 (K k).r.length n2, .slice y3 (K k).p.length n3, .slice y4 (K k).t.length n4, .int .i64 ((a0 + k : Nat) : Int)], 27)]) ∧ Hid (MpO wr (.agg #[.slice y1 (K k).l.length n1, .slice y2 (K k).r.length n2, .slice y3 (K k).p.length n3, .slice y4 (K k).t.length n4, .int .i64 ((a0 + k : Nat) : Int)]) (K k).l (K k).r (K k).p (K k).t ((a0 + k : Nat) : Int) lo hi) ∧ Hid (w.heap.size + 1 < lo ∧ (b7 < lo ∨ hi ≤ b7) ∧ w.heap.size + 1 < b7)) (fun u _ => h.length - a0 - (intOf u).toNat)
            case atStart =>
              have q0 := z0.out
              have q1 := z1.out
              have q2 := z2.out
              have ot := O.out.top
              refine ⟨0, x1, m1, x2, m2, x3, m3, x4, m4, u0.heap.size, b7, by omega, rfl, ?_, ?_, ?_⟩
              · rw [hK0]; exact X.out
              · rw [hK0]; exact O.out
              · exact ⟨by omega, .inr (Nat.le_refl _), by omega⟩
            case round =>
              clear X O hK0
              obtain ⟨k, y1, n1, y2, n2, y3, n3, y4, n4, lo, hi, hk, rfl, X, O, NB⟩ := hrel
              by_cases hlt : k < h.length - a0
              · have hix : a0 + k < h.length := by omega
                exfalso
                have hq := HZL.out
                omega
              · skip
                have ev : ((a0 + k : Nat) : Int) = (a0 : Int) + (k : Int) := by omega
                have h9 := X.out
                rw [ev] at h9
                have X := hide h9
                have h8 := O.out
                rw [ev] at h8
                have O := hide h8
                clear h9 h8
                have hke : h.length = a0 + k := by omega
                have ek : h.length - a0 = k := by omega
                have bk : decide ((k : Int) < ((h.length - a0 : Nat) : Int)) = false := by simp; omega
                have e1 : RM = K k := by rw [HEM.out, ek]
                have e2 : RN = (k : Int) := by rw [HEN.out, ek]
                have hok := HOK.out k (by omega)
                have HE := hide (And.intro e1 (And.intro e2 hok.2.1))
                clear e1 e2 hok
                have d0 := X.out.cell 2 0 rfl rfl
                have d1 := X.out.cell 2 1 rfl rfl
                have d2 := X.out.cell 2 2 rfl rfl
                have d3 := X.out.cell 2 3 rfl rfl
                have d4 := X.out.cell 2 4 rfl rfl
                have c0 := X.out.cell 1 0 rfl rfl
                have c1 := X.out.cell 1 1 rfl rfl
                have c2 := X.out.cell 1 2 rfl rfl
                have c3 := X.out.cell 1 3 rfl rfl
                have c4 := X.out.cell 1 4 rfl rfl
                have fc0 := X.out.free 1 0 rfl
                have fc1 := X.out.free 1 1 rfl
                have fc2 := X.out.free 1 2 rfl
                have fc3 := X.out.free 1 3 rfl
                have fc4 := X.out.free 1 4 rfl
                have Z := (((((X.out.set 1 0 rfl (.slice y1 (K k).l.length n1)).set 1 1 rfl (.slice y2 (K k).r.length n2)).set 1 2 rfl (.slice y3 (K k).p.length n3)).set 1 3 rfl (.slice y4 (K k).t.length n4)).set 1 4 rfl (.int .i64 ((a0 : Int) + (k : Int))))
                have v0 := Z.cell 1 0 rfl rfl
                have v1 := Z.cell 1 1 rfl rfl
                have v2 := Z.cell 1 2 rfl rfl
                have v3 := Z.cell 1 3 rfl rfl
                have v4 := Z.cell 1 4 rfl rfl
                have sg : Seg (w.heap.size + 1) (w.heap.size + 1 + 1) wr (((((wr.setCell ⟨w.heap.size + 1, 0, none⟩ (.slice y1 (K k).l.length n1)).setCell ⟨w.heap.size + 1, 1, none⟩ (.slice y2 (K k).r.length n2)).setCell ⟨w.heap.size + 1, 2, none⟩ (.slice y3 (K k).p.length n3)).setCell ⟨w.heap.size + 1, 3, none⟩ (.slice y4 (K k).t.length n4)).setCell ⟨w.heap.size + 1, 4, none⟩ (.int .i64 ((a0 : Int) + (k : Int)))) := Seg.setCell5 _ _ _ _ _ _ _
                go_wp2_with fail
                obtain ⟨e1, e2, e3⟩ := HE.out
                have nb := NB.out
                have O := O.out.seg sg (.inr (by omega))
                have hsz := Z.below.size
                have ot := O.top
                rw [e1, e2, e3, ev]
                exact bodyPost_ret (v := .tuple #[.agg #[.slice y1 (K k).l.length n1, .slice y2 (K k).r.length n2, .slice y3 (K k).p.length n3, .slice y4 (K k).t.length n4, .int .i64 ((a0 : Int) + (k : Int))], .int .i64 (k : Int), .bool true]) (by simp [results, Try.results30, go_sem, v0, v1, v2, v3, v4]) rfl ⟨_, rfl, O.mono (by omega) (by omega) (Nat.le_refl _), Z.below⟩
          · obtain ⟨FA, hFA⟩ : ∃ q : Option Addr, q = some ((⟨hb9, ho9, sub9⟩ : Addr).add a0) := ⟨_, rfl⟩
            have HFA := hide (HFA0.out FA (.inr ⟨_, _, _, rfl, by rw [if_neg hca]; exact hFA⟩))
            go_upto_region 6 with fail
            clear g4
            rw [← hFA]
            clear hFA HFA0 hca hcap
            have hdf : decide (h.length < a0) = false := decide_eq_false (by omega)
            try rw [hdf]
            clear hdf
            go_loopw [35] (fun u wr => ∃ (k : Nat) (y1 : Option Addr) (n1 : Nat) (y2 : Option Addr) (n2 : Nat) (y3 : Option Addr) (n3 : Nat) (y4 : Option Addr) (n4 : Nat) (lo hi : Nat), k ≤ h.length - a0 ∧ u = .int .i64 k ∧ Hid (Kn w wr [(w.heap.size, #[.slice a1 l.length c1, .slice a2 r.length c2, .slice a3 ps.length c3, .slice a4 t.length c4, .int .i64 (a0 : Int)], 27), (w.heap.size + 1, #[.slice none 0 0, .slice none 0 0, .slice none 0 0, .slice none 0 0, .int .i64 0], 27), (b7, #[.slice y1 (K k).l.length n1, .slice y2 (K k).r.length n2, .slice y3 (K k).p.length n3, .slice y4 (K k).t.length n4, .int .i64 ((a0 + k : Nat) : Int)], 27)]) ∧ Hid (MpO wr (.agg #[.slice y1 (K k).l.length n1, .slice y2 (K k).r.length n2, .slice y3 (K k).p.length n3, .slice y4 (K k).t.length n4, .int .i64 ((a0 + k : Nat) : Int)]) (K k).l (K k).r (K k).p (K k).t ((a0 + k : Nat) : Int) lo hi) ∧ Hid (w.heap.size + 1 < lo ∧ (b7 < lo ∨ hi ≤ b7) ∧ w.heap.size + 1 < b7)) (fun u _ => h.length - a0 - (intOf u).toNat)
            case atStart =>
              have q0 := z0.out
              have q1 := z1.out
              have q2 := z2.out
              have ot := O.out.top
              refine ⟨0, x1, m1, x2, m2, x3, m3, x4, m4, u0.heap.size, b7, by omega, rfl, ?_, ?_, ?_⟩
              · rw [hK0]; exact X.out
              · rw [hK0]; exact O.out
              · exact ⟨by omega, .inr (Nat.le_refl _), by omega⟩
            case round =>
              clear X O hK0
              obtain ⟨k, y1, n1, y2, n2, y3, n3, y4, n4, lo, hi, hk, rfl, X, O, NB⟩ := hrel
              by_cases hlt : k < h.length - a0
              · have hix : a0 + k < h.length := by omega
            
                obtain ⟨hb_, ho_, rfl, hb1, hc1⟩ := HFA.out k hix
                have hok := HOK.out k (by omega)
                have hsu := HSU.out k hix
                have hv := HI64.out (a0 + k) hix
                obtain ⟨v, hve⟩ : ∃ v, v = h[a0 + k] := ⟨_, rfl⟩
                rw [← hve] at hc1 hv hsu
                obtain ⟨hmp, hma, hmw⟩ := hok
                have hln := isMp_len hmp
                obtain ⟨M, hM⟩ : ∃ M, M = K k := ⟨_, rfl⟩
                obtain ⟨M2, hM2⟩ : ∃ M, M = K (k + 1) := ⟨_, rfl⟩
                rw [← hM] at X O hsu hmp hma hmw hln
                rw [← hM2] at hsu
                have HM2 := hide hM2
                obtain ⟨bb, hbb⟩ : ∃ q, q = mcB M.l M.r M.p M.t ((a0 + k : Nat) : Int) v := ⟨_, rfl⟩
                have HCM := hide (fun (x : Value) (W : World) (hx : Mp W W.heap.size x M.l M.r M.p M.t ((a0 + k : Nat) : Int)) => show Calls Try.prog 28 #[x, .int .i64 v] W (RetMpB W M2.l M2.r M2.p M2.t ((a0 + k : Nat) : Int) bb) by
                  rw [hbb, hsu]
                  show Calls _ _ _ _ (RetMpB W (mcL M.l M.r M.p M.t M.a v) (mcR M.l M.r M.p M.t M.a v) (mcP M.l M.r M.p M.t M.a v) (mcT M.l M.r M.p M.t M.a v) _ _)
                  rw [hma]
                  exact iCm_any x M.l M.r M.p M.t _ v W W.heap.size hx (Nat.le_refl _) (by omega) (by omega) (by omega) (by omega) hv)
                have HMW := hide hmw
                have bk : decide ((k : Int) < ((h.length - a0 : Nat) : Int)) = true := by simp; omega
                have c0 := (X.out.below.cell (p := ⟨hb_, ho_ + k, none⟩) (Nat.lt_of_lt_of_le hb1 hB)).trans hc1
                have ha9 : a0 + k ≤ 1048576 := by omega
                clear hsu hbb hve hmp hma hmw hln hv hM hM2 hc1
                go_upto_region 8 with fail
                clear bk c0
                have s0 := X.out.cell 2 0 rfl rfl
                have s1 := X.out.cell 2 1 rfl rfl
                have s2 := X.out.cell 2 2 rfl rfl
                have s3 := X.out.cell 2 3 rfl rfl
                have s4 := X.out.cell 2 4 rfl rfl
                have hx := hide ((O.out).rd HMW.out)
                go_wp2_with fail
                go_at_call 28
                refine (HCM.out _ wr (by have h7 := hx.out; push_cast at h7 ⊢; exact h7)).mono ?_
                rintro e wz ⟨q, rfl, OQ, hb⟩
                obtain ⟨x0, p0, x1', p1, x2', p2, x3', p3, hf⟩ := OQ.form
                subst hf
                have hb7 := X.out.lt 2 rfl
                have NB2 := hide (show b7 < wr.heap.size ∧ w.heap.size + 1 < b7 ∧ wr.heap.size ≤ wz.heap.size by have := NB.out; have := hb.size; omega)
                have X := hide (X.out.up hb)
                have OQ := hide OQ
                clear hb hb7 hx O s0 s1 s2 s3 s4
                have s0 := X.out.cell 2 0 rfl rfl
                have fs0 := X.out.free 2 0 rfl
                have s1 := X.out.cell 2 1 rfl rfl
                have fs1 := X.out.free 2 1 rfl
                have s2 := X.out.cell 2 2 rfl rfl
                have fs2 := X.out.free 2 2 rfl
                have s3 := X.out.cell 2 3 rfl rfl
                have fs3 := X.out.free 2 3 rfl
                have s4 := X.out.cell 2 4 rfl rfl
                have fs4 := X.out.free 2 4 rfl
                go_upto_region 9 with fail
                clear s0 fs0 s1 fs1 s2 fs2 s3 fs3 s4 fs4
                have sg : Seg b7 (b7 + 1) wz (((((wz.setCell ⟨b7, 0, none⟩ (.slice x0 M2.l.length p0)).setCell ⟨b7, 1, none⟩ (.slice x1' M2.r.length p1)).setCell ⟨b7, 2, none⟩ (.slice x2' M2.p.length p2)).setCell ⟨b7, 3, none⟩ (.slice x3' M2.t.length p3)).setCell ⟨b7, 4, none⟩ (.int .i64 ((a0 : Int) + (k : Int)))) := Seg.setCell5 _ _ _ _ _ _ _
                have X := hide (((((X.out.set 2 0 rfl (.slice x0 M2.l.length p0)).set 2 1 rfl (.slice x1' M2.r.length p1)).set 2 2 rfl (.slice x2' M2.p.length p2)).set 2 3 rfl (.slice x3' M2.t.length p3)).set 2 4 rfl (.int .i64 ((a0 : Int) + (k : Int))))
                have OQ := hide (OQ.out.seg sg (.inr (by have := NB2.out; omega)))
                clear sg
                obtain ⟨u5, hu5⟩ : ∃ q, q = (((((wz.setCell ⟨b7, 0, none⟩ (.slice x0 M2.l.length p0)).setCell ⟨b7, 1, none⟩ (.slice x1' M2.r.length p1)).setCell ⟨b7, 2, none⟩ (.slice x2' M2.p.length p2)).setCell ⟨b7, 3, none⟩ (.slice x3' M2.t.length p3)).setCell ⟨b7, 4, none⟩ (.int .i64 ((a0 : Int) + (k : Int)))) := ⟨_, rfl⟩
                rw [← hu5] at X OQ ⊢
                clear hu5
                have s4 := X.out.cell 2 4 rfl rfl
                have fs4 := X.out.free 2 4 rfl
                go_upto_region 10 with fail
                clear s4 fs4
                have sg := Seg.setCell u5 b7 4 (.int .i64 ((a0 : Int) + (k : Int) + 1))
                have X := hide (X.out.set 2 4 rfl (.int .i64 ((a0 : Int) + (k : Int) + 1)))
                have OQ := hide (OQ.out.seg sg (.inr (by have := NB2.out; omega)))
                have OQ := hide (OQ.out.app (b := ((a0 + (k + 1) : Nat) : Int)))
                clear sg
                obtain ⟨u6, hu6⟩ : ∃ q, q = u5.setCell ⟨b7, 4, none⟩ (.int .i64 ((a0 : Int) + (k : Int) + 1)) := ⟨_, rfl⟩
                rw [← hu6] at X OQ ⊢
                clear hu6
                have ev : (a0 : Int) + (k : Int) + 1 = ((a0 + (k + 1) : Nat) : Int) := by omega
                go_wp2_with fail
                go_roundw
                case rel =>
                  refine ⟨k + 1, x0, p0, x1', p1, x2', p2, x3', p3, wr.heap.size, wz.heap.size, by omega, by go_num, ?_, ?_, ?_⟩
                  · rw [← HM2.out]
                    have h3 := X.out
                    rw [ev] at h3
                    exact h3
                  · rw [← HM2.out]; exact OQ.out
                  · have := NB2.out
                    exact ⟨by omega, .inl (by omega), by omega⟩
                case measure => simp [intOf]; omega
              · skip
                have ev : ((a0 + k : Nat) : Int) = (a0 : Int) + (k : Int) := by omega
                have h9 := X.out
                rw [ev] at h9
                have X := hide h9
                have h8 := O.out
                rw [ev] at h8
                have O := hide h8
                clear h9 h8
                have hke : h.length = a0 + k := by omega
                have ek : h.length - a0 = k := by omega
                have bk : decide ((k : Int) < ((h.length - a0 : Nat) : Int)) = false := by simp; omega
                have e1 : RM = K k := by rw [HEM.out, ek]
                have e2 : RN = (k : Int) := by rw [HEN.out, ek]
                have hok := HOK.out k (by omega)
                have HE := hide (And.intro e1 (And.intro e2 hok.2.1))
                clear e1 e2 hok
                have d0 := X.out.cell 2 0 rfl rfl
                have d1 := X.out.cell 2 1 rfl rfl
                have d2 := X.out.cell 2 2 rfl rfl
                have d3 := X.out.cell 2 3 rfl rfl
                have d4 := X.out.cell 2 4 rfl rfl
                have c0 := X.out.cell 1 0 rfl rfl
                have c1 := X.out.cell 1 1 rfl rfl
                have c2 := X.out.cell 1 2 rfl rfl
                have c3 := X.out.cell 1 3 rfl rfl
                have c4 := X.out.cell 1 4 rfl rfl
                have fc0 := X.out.free 1 0 rfl
                have fc1 := X.out.free 1 1 rfl
                have fc2 := X.out.free 1 2 rfl
                have fc3 := X.out.free 1 3 rfl
                have fc4 := X.out.free 1 4 rfl
                have Z := (((((X.out.set 1 0 rfl (.slice y1 (K k).l.length n1)).set 1 1 rfl (.slice y2 (K k).r.length n2)).set 1 2 rfl (.slice y3 (K k).p.length n3)).set 1 3 rfl (.slice y4 (K k).t.length n4)).set 1 4 rfl (.int .i64 ((a0 : Int) + (k : Int))))
                have v0 := Z.cell 1 0 rfl rfl
                have v1 := Z.cell 1 1 rfl rfl
                have v2 := Z.cell 1 2 rfl rfl
                have v3 := Z.cell 1 3 rfl rfl
                have v4 := Z.cell 1 4 rfl rfl
                have sg : Seg (w.heap.size + 1) (w.heap.size + 1 + 1) wr (((((wr.setCell ⟨w.heap.size + 1, 0, none⟩ (.slice y1 (K k).l.length n1)).setCell ⟨w.heap.size + 1, 1, none⟩ (.slice y2 (K k).r.length n2)).setCell ⟨w.heap.size + 1, 2, none⟩ (.slice y3 (K k).p.length n3)).setCell ⟨w.heap.size + 1, 3, none⟩ (.slice y4 (K k).t.length n4)).setCell ⟨w.heap.size + 1, 4, none⟩ (.int .i64 ((a0 : Int) + (k : Int)))) := Seg.setCell5 _ _ _ _ _ _ _
                go_wp2_with fail
                obtain ⟨e1, e2, e3⟩ := HE.out
                have nb := NB.out
                have O := O.out.seg sg (.inr (by omega))
                have hsz := Z.below.size
                have ot := O.top
                rw [e1, e2, e3, ev]
                exact bodyPost_ret (v := .tuple #[.agg #[.slice y1 (K k).l.length n1, .slice y2 (K k).r.length n2, .slice y3 (K k).p.length n3, .slice y4 (K k).t.length n4, .int .i64 ((a0 : Int) + (k : Int))], .int .i64 (k : Int), .bool true]) (by simp [results, Try.results30, go_sem, v0, v1, v2, v3, v4]) rfl ⟨_, rfl, O.mono (by omega) (by omega) (Nat.le_refl _), Z.below⟩

end Go.Proofs.Ytepkkeclkdlheaa

/- AlignMap: both sides, and what the law wants of its result (promise 8). -/
namespace Go.Proofs.Ytepkkeclkdlheaa
open Go.RowKit Go.ChangeShapes

theorem al_wf {l r : List Int} {ps : List Pv} {t h : List Int} {a : Int} (hb : l.length + r.length + ps.length + t.length ≤ 1048576) (hw : MpWf l r ps t a) :
    ((alM ⟨l, r, ps, t, a⟩ h).l.length ≤ 4000000 ∧ (alM ⟨l, r, ps, t, a⟩ h).r.length ≤ 4000000 ∧ (alM ⟨l, r, ps, t, a⟩ h).p.length ≤ 4000000 ∧ (alM ⟨l, r, ps, t, a⟩ h).t.length ≤ 4000000) ∧ MpWf (alM ⟨l, r, ps, t, a⟩ h).l (alM ⟨l, r, ps, t, a⟩ h).r (alM ⟨l, r, ps, t, a⟩ h).p (alM ⟨l, r, ps, t, a⟩ h).t (alM ⟨l, r, ps, t, a⟩ h).a := by
  by_cases hB : alB ⟨l, r, ps, t, a⟩ h = true
  · have hB2 := hB
    unfold alB at hB2
    simp only [Bool.and_eq_true, decide_eq_true_eq] at hB2
    obtain ⟨⟨h1, h2⟩, h3⟩ := hB2
    have h1 : isMp l r ps t a = true := h1
    have h3 : a ≤ (h.length : Int) := h3
    obtain ⟨a0, rfl⟩ := Int.eq_ofNat_of_zero_le (isMp_iff.1 h1).2.2.2.1
    obtain ⟨q1, q2, q3⟩ := alK_ok h1 h2 (by omega) hw (h.length - a0) (by omega)
    have hl := isMp_len q1
    rw [(al_yes hB).1, q2]
    exact ⟨⟨by omega, by omega, by omega, by omega⟩, q3⟩
  · rw [(al_no (by simpa using hB)).1]
    exact ⟨⟨by show l.length ≤ _; omega, by show r.length ≤ _; omega, by show ps.length ≤ _; omega, by show t.length ≤ _; omega⟩, hw⟩

end Go.Proofs.Ytepkkeclkdlheaa
