/- Columns and tables of the call's own, by footprint: the laws' markText, markColumnS, markTable, heldColumnS, heldTable, and what toTable makes. -/
import Derived.Test.YtiianddblanffaaDoorOwn
import Derived.Test.YtiianddblanffaaDoorDecT
import Derived.Test.YtiianddblanffaaDoorFix
import Derived.Test.YtiianddblanffaaDoorColTo
namespace Go.Proofs.YtiianddblanffaaDoor
open Go.RowKit Go.ChangeShapes
set_option linter.unusedSimpArgs false
set_option linter.unusedVariables false
set_option maxRecDepth 100000

/-- The text of a mark. -/
def mt (k : Nat) : List UInt8 := 109 :: decT k

def mtB (k : Nat) : ByteArray := ⟨(mt k).toArray⟩

set_option maxHeartbeats 1000000 in
theorem markText_any (n : Nat) (w : World) (h0 : n ≠ 0) (h1 : n ≤ 4611686018427387904) :
    Calls Tryd.prog 54 #[.int .i64 n] w (RetS w (mt n)) := by
  have hlen := decT_length n (by omega)
  have g2 : decide ((n : Int) ≤ 0) = false := by simp; omega
  have hv := hide (show mt n = 109 :: decT n from rfl)
  go_enter Tryd.func54, Tryd.ntmps54
  go_wp2
  go_loopw [0, 3] (fun nn out wr => ∃ (m : Nat) (l : List UInt8), nn = .int .i64 m ∧ m ≤ 4611686018427387904 ∧ out = .string ⟨l.toArray⟩ ∧ Hid (decT m ++ l = decT n) ∧ l.length ≤ 20 ∧ Below w.heap.size w wr) (fun nn _ _ => (intOf nn).toNat)
  case atStart => exact ⟨n, [], rfl, h1, rfl, by simp [Hid], by simp, Below.refl _ _⟩
  case round =>
    obtain ⟨m, l, rfl, hm, rfl, hl, hll, hb⟩ := hrel
    have hsz := hb.size
    by_cases hz : m = 0
    · subst hz
      go_wp2
      go_ret
      exact ⟨by rw [hv.out, ← hl.out]; exact congrArg (fun x => Ending.returned (.string x)) (str_cons 109 l), hb⟩
    · have hst := hide (decT_step m hz)
      have hl2 := hl.out
      rw [hst.out, List.append_assoc] at hl2
      have hl3 := hide hl2
      have hlb : (decT (m / 10) ++ ([UInt8.ofNat (48 + m % 10)] ++ l)).length ≤ 20 := by rw [hl2]; exact hlen
      have hll2 : l.length + 1 ≤ 20 := by simp at hlb; omega
      have hcv := conv_one (P := Tryd.prog) 47 9 5 Tryd.underlying47 Tryd.underlying5 Tryd.underlying9 wr (48 + (m : Int) % 10) (by omega) (by omega)
      clear hl2 hlb hst hl
      go_wp2
      go_roundw
      case rel =>
        refine ⟨m / 10, UInt8.ofNat (48 + m % 10) :: l, by go_num, by omega, ?_, hl3, by simp; omega, hb.alloc hsz _⟩
        rw [str_cons, dig48]
      case measure => simp [intOf]; omega

/-- A column's cells: its name, and a slice that owns its values. -/
def colE : Pr Col := fun w c d F => ∃ u, c = [.string d.1, u] ∧ OI w 3 u d.2 F

theorem colE_good : Good colE 2 where
  kept := by
    rintro w w' c d F ⟨u, rfl, h⟩ hb
    exact ⟨u, rfl, h.eq hb⟩
  lt := by
    rintro w c d F ⟨u, rfl, h⟩
    exact h.lt
  size := by
    rintro w c d F ⟨u, rfl, h⟩
    rfl

/-- v owns columns. -/
abbrev colsE (w : World) (v : Value) (cs : List Col) (F : List Nat) : Prop := slE 42 2 colE w v cs F

/-- How many marks columns take. -/
def cnt : List Col → Nat
  | [] => 0
  | c :: cs => 1 + c.2.length + cnt cs

/-- The columns that a mark from k on leaves. -/
def mkC : Nat → List Col → List Col
  | _, [] => []
  | k, c :: cs => (mtB k, mkI (k + 1 : Nat) c.2.length) :: mkC (k + 1 + c.2.length) cs

theorem mkC_length : ∀ (cs : List Col) (k : Nat), (mkC k cs).length = cs.length
  | [], _ => rfl
  | c :: cs, k => by simp [mkC, mkC_length cs]

theorem cnt_take (cs : List Col) (j : Nat) (hj : j < cs.length) : cnt (cs.take (j + 1)) = cnt (cs.take j) + (1 + cs[j].2.length) := by
  induction cs generalizing j with
  | nil => simp at hj
  | cons c cs ih =>
    cases j with
    | zero => simp [cnt]
    | succ j =>
      simp only [List.take_succ_cons, cnt, List.getElem_cons_succ]
      rw [ih j (by simpa using hj)]
      omega

theorem cnt_le (cs : List Col) (j : Nat) : cnt (cs.take j) ≤ cnt cs := by
  induction cs generalizing j with
  | nil => simp [cnt]
  | cons c cs ih =>
    cases j with
    | zero => simp [cnt]
    | succ j => simp only [List.take_succ_cons, cnt]; have := ih j; omega

theorem cnt_eq (cs : List Col) : cnt cs = cs.length + (cs.map fun c => c.2.length).sum := by
  induction cs with
  | nil => rfl
  | cons c cs ih => simp [cnt, ih]; omega

theorem mkC_get (cs : List Col) (k j : Nat) (hj : j < cs.length) : (mkC k cs)[j]'(by rw [mkC_length]; exact hj) = (mtB (k + cnt (cs.take j)), mkI (k + cnt (cs.take j) + 1 : Nat) cs[j].2.length) := by
  induction cs generalizing j k with
  | nil => simp at hj
  | cons c cs ih =>
    cases j with
    | zero => simp [mkC, cnt]
    | succ j =>
      simp only [mkC, List.getElem_cons_succ, List.take_succ_cons, cnt]
      rw [ih (k + 1 + c.2.length) j (by simpa using hj)]
      congr 2
      · omega
      · congr 1
        omega

/-- Columns whose first j are marked. -/
def mixC (k : Nat) (cs : List Col) (j : Nat) : List Col := (mkC k cs).take j ++ cs.drop j

theorem mixC_length (k : Nat) (cs : List Col) (j : Nat) : (mixC k cs j).length = cs.length := by simp [mixC, mkC_length]; omega

theorem mixC_at (k : Nat) (cs : List Col) (j : Nat) (hj : j < cs.length) : (mixC k cs j)[j]'(by rw [mixC_length]; exact hj) = cs[j] := by
  unfold mixC
  have e : ((mkC k cs).take j).length = j := by simp [mkC_length]; omega
  rw [List.getElem_append_right (by omega)]
  simp [e]

theorem mixC_set (k : Nat) (cs : List Col) (j : Nat) (hj : j < cs.length) : (mixC k cs j).set j (mtB (k + cnt (cs.take j)), mkI (k + cnt (cs.take j) + 1 : Nat) cs[j].2.length) = mixC k cs (j + 1) := by
  unfold mixC
  have e : ((mkC k cs).take j).length = j := by simp [mkC_length]; omega
  have hj' : j < (mkC k cs).length := by rw [mkC_length]; exact hj
  rw [List.set_append_right _ _ (by omega), e, Nat.sub_self, List.drop_eq_getElem_cons hj, List.set_cons_zero, List.take_succ_eq_append_getElem hj', mkC_get cs k j hj, List.append_assoc, List.singleton_append]

/-- A number is returned, v's own columns now read as ds, nothing else has turned. -/
def RetMC (w : World) (v : Value) (F : List Nat) (x : Int) (ds : List Col) (e : Ending) (w' : World) : Prop := e = .returned (.int .i64 x) ∧ colsE w' v ds F ∧ Only F w w'

set_option maxHeartbeats 2000000 in
theorem markColumnS_own (v : Value) (cs : List Col) (F : List Nat) (k : Nat) (w : World) (h : colsE w v cs F) (h0 : k ≠ 0) (h1 : k + cnt cs ≤ 4611686018427387904) :
    Calls Tryd.prog 32 #[v, .int .i64 k] w (RetMC w v F ((k + cnt cs : Nat) : Int) (mkC k cs)) := by
  have H := hide h
  obtain ⟨a, cap, rfl, hlen⟩ := h.form
  clear h
  go_enter Tryd.func32, Tryd.ntmps32
  go_wp2
  go_loopw [1, 5] (fun x i wr => ∃ (j p : Nat), j ≤ cs.length ∧ i = .int .i64 j ∧ x = .int .i64 p ∧ Hid (p = k + cnt (cs.take j)) ∧ Hid (colsE wr (.slice a cs.length cap) (mixC k cs j) F) ∧ Hid (Only F w wr)) (fun _ i _ => cs.length - (intOf i).toNat)
  case atStart => exact ⟨0, k, by omega, rfl, rfl, by show _ = _; simp [cnt], by show colsE _ _ _ _; simpa [mixC] using H.out, Only.refl _ _⟩
  case round =>
    obtain ⟨j, p, hj, rfl, rfl, hp, ho, hw⟩ := hrel
    by_cases hlt : j < cs.length
    · obtain ⟨d, hd⟩ : ∃ d, d = cs[j] := ⟨_, rfl⟩
      have hct := cnt_take cs j hlt
      have hcle := cnt_le cs (j + 1)
      rw [← hd] at hct
      obtain ⟨n, l⟩ := d
      simp only at hct
      have hpb : p ≠ 0 ∧ p + 1 + l.length ≤ 4611686018427387904 := by have := hp.out; omega
      obtain ⟨hp0, hpl⟩ := hpb
      have HCT := hide hct
      have HD := hide hd
      have hlm : j < (mixC k cs j).length := by rw [mixC_length]; exact hlt
      clear hct hcle hd
      go_wp2_with fail
      go_at_call 54
      refine (markText_any p wr hp0 (by omega)).mono ?_
      rintro e w2 ⟨rfl, hb2⟩
      have W1 := hide (hw.out.trans (Only.of_below (F := F) hb2))
      obtain ⟨g, cap', c, Fj, hv, hgF, hgs, hgj, hsub, hE, hcl, hcell, hfro, hput, hsto⟩ := slE.at colE_good (slE.below colE_good ho.out hb2) j hlm
      obtain ⟨rfl, rfl⟩ : a = some ⟨g, 0, none⟩ ∧ cap = cap' := by
        simp only [Value.slice.injEq] at hv
        exact ⟨hv.1, hv.2.2⟩
      rw [mixC_at k cs j hlt, ← HD.out] at hE
      obtain ⟨u, rfl, hoi⟩ := hE
      have c0 := hcell 0 (by omega)
      have c1 := hcell 1 (by omega)
      simp only [Nat.add_zero, List.getElem?_cons_zero, List.getElem?_cons_succ] at c0 c1
      have f0 := hfro (j * 2)
      have S2 := hide (hsto 0 (.string (mtB p)) (mtB p, l) (by omega) ⟨u, rfl, hoi.only (Only.setCell (F := [g]) (Only.refl _ _) (by simp) _) (fun b hb hbg => by simp at hbg; subst hbg; exact hgj hb)⟩)
      have W2 := hide (W1.out.setCell (p := ⟨g, j * 2, none⟩) hgF (.string (mtB p)))
      obtain ⟨w3, hw3⟩ : ∃ w3, w3 = w2.setCell ⟨g, j * 2, none⟩ (.string (mtB p)) := ⟨_, rfl⟩
      have c3 : w3.cell? ⟨g, j * 2 + 1, none⟩ = some u := by rw [hw3]; exact (World.cell?_setCell_other w2 ⟨g, j * 2, none⟩ ⟨g, j * 2 + 1, none⟩ _ (by simp)).trans c1
      have hw3' : w3 = w2.setCell ⟨g, j * 2 + 0, none⟩ (.string (mtB p)) := hw3
      rw [← hw3'] at S2
      rw [← hw3] at W2
      obtain ⟨au, capu, rfl, hul⟩ := hoi.form
      have hl2 : j < ((mixC k cs j).set j (mtB p, l)).length := by rw [List.length_set]; exact hlm
      obtain ⟨g2, cap2, cc, Fj2, hv2, hgF2, hgs2, hgj2, hsub2, hE2, hcl2, hcell2, hfro2, hput2, hsto2⟩ := slE.at colE_good S2.out j hl2
      obtain ⟨rfl, rfl⟩ : g = g2 ∧ cap = cap2 := by
        simp only [Value.slice.injEq, Option.some.injEq, Addr.mk.injEq, and_true] at hv2
        exact ⟨hv2.1, hv2.2.2⟩
      rw [List.getElem_set_self] at hE2
      obtain ⟨u2, rfl, hoi2⟩ := hE2
      have c12 := hcell2 1 (by omega)
      simp only [List.getElem?_cons_zero, List.getElem?_cons_succ] at c12
      obtain rfl : Value.slice au l.length capu = u2 := by rw [c3] at c12; simpa using c12
      have HOI := hide hoi2
      have HPUT := hide hput2
      have HSUB := hide hsub2
      have hmtv : (⟨(mt p).toArray⟩ : ByteArray) = mtB p := rfl
      rw [hmtv]
      clear hv hv2 hcell hfro hput hsto hoi hcell2 hfro2 hput2 hsto2 hb2 hcl hcl2 hgj2 hsub2 hw3' hoi2 c12 hmtv hgs2
      go_wp2_with fail
      try rw [← hw3]
      go_at_call 55
      refine (markIntS_own _ l _ ((p + 1 : Nat) : Int) w3 HOI.out (by omega) (by omega)).mono ?_
      rintro e w4 ⟨rfl, ho4, hw4⟩
      have P4 := hide (HPUT.out w4 (mtB p, mkI ((p + 1 : Nat) : Int) l.length) hw4 ⟨_, rfl, ho4⟩)
      have W4 := hide (W2.out.trans (hw4.mono HSUB.out))
      clear ho4 hw4 c3 hw3 c0 c1 f0
      go_wp2_with fail
      go_roundw
      case rel =>
        refine ⟨j + 1, p + 1 + l.length, by omega, by go_num, by go_num, ?_, ?_, W4.out⟩
        · show _ = _
          have := hp.out
          have := HCT.out
          omega
        · have h4 := P4.out
          rw [List.set_set] at h4
          have e1 := mixC_set k cs j hlt
          rw [← HD.out, ← hp.out] at e1
          show colsE _ _ _ _
          rw [← e1]
          exact h4
      case measure => simp [intOf]; omega
    · have hje : j = cs.length := by omega
      subst hje
      have hmf : mixC k cs cs.length = mkC k cs := by unfold mixC; rw [List.take_of_length_le (by rw [mkC_length]; exact Nat.le_refl _)]; simp
      have hpe : p = k + cnt cs := by rw [hp.out, List.take_of_length_le (Nat.le_refl _)]
      have HF := ho
      rw [hmf] at HF
      subst hpe
      go_wp2_with fail
      go_ret
      exact ⟨rfl, HF.out, hw.out⟩

/-- What owned columns read as. -/
theorem colsE_cols {w : World} {v : Value} {cs : List Col} {F : List Nat} (h : colsE w v cs F) {B : Nat} (hB : w.heap.size ≤ B) (hn : ∀ c ∈ cs, c.1.size ≤ 9223372036854775807 ∧ ∀ x ∈ c.2, I64 x) : Cols w B v cs := by
  obtain ⟨a, cap, rfl, hl⟩ := h.form
  refine ⟨_, _, rfl, hl, fun j hj => ?_⟩
  obtain ⟨g, cap', c, Fj, hv, hgF, hgs, hgj, hsub, hE, hcl, hcell, hfro, hput, hsto⟩ := slE.at colE_good h j hj
  simp only [Value.slice.injEq] at hv
  obtain ⟨u, rfl, ho⟩ := hE
  obtain ⟨q1, q2⟩ := hn _ (List.getElem_mem hj)
  have c0 := hcell 0 (by omega)
  have c1 := hcell 1 (by omega)
  simp only [Nat.add_zero, List.getElem?_cons_zero, List.getElem?_cons_succ] at c0 c1
  obtain ⟨_, _, _, hlen⟩ := ho.form
  exact ⟨g, 0, u, hv.1, Nat.lt_of_lt_of_le hgs hB, by rw [Nat.zero_add]; exact c0, by rw [Nat.zero_add]; exact c1, q1, ho.1.ints hB hlen q2⟩

theorem take_set2 (xs : List Value) (k : Nat) (a b : Value) (h : k * 2 + 1 < xs.length) : ((xs.set (k * 2) a).set (k * 2 + 1) b).take ((k + 1) * 2) = xs.take (k * 2) ++ [a, b] := by
  have e : (k + 1) * 2 = k * 2 + 1 + 1 := by omega
  rw [e, List.take_succ_eq_append_getElem (by simp; omega), List.take_succ_eq_append_getElem (by simp; omega)]
  simp [List.getElem_set, List.take_set_of_le]

/-- New columns of the call's own are returned; nothing that was there has turned. -/
def RetOC (w : World) (cs : List Col) (e : Ending) (w' : World) : Prop := ∃ v F, e = .returned v ∧ colsE w' v cs F ∧ (∀ b ∈ F, w.heap.size ≤ b) ∧ Below w.heap.size w w'

set_option maxHeartbeats 1000000 in
theorem toColumnS_o (v : Value) (cs : List Col) (w : World) (B : Nat) (hv : Cols w B v cs) (hB : B ≤ w.heap.size) (hl : cs.length ≤ 1048576) (hs : ∀ c ∈ cs, c.2.length ≤ 1048576) :
    Calls Tryd.prog 18 #[v] w (RetOC w cs) := by
  obtain ⟨a, cap, rfl, hlen, hcell⟩ := hv
  have HC := hide hcell
  have HS := hide hs
  clear hcell hs
  obtain ⟨i0, hi0, hz0, hz1, hz2⟩ := info_parts infoC
  have HI := hide hi0
  have HZ := hide hz0
  have HZ1 := hide hz1
  have HZ2 := hide hz2
  clear hi0 hz0 hz1 hz2
  go_enter Tryd.func18, Tryd.ntmps18
  go_wp2_with (first | (at_make; refine wpList_make_full _ rfl _ _ 27 rfl w.heap.size 42 i0 _ 2 Tryd.underlying27 HI.out HZ.out HZ1.out .i64 .i64 _ _ cs.length rfl rfl rfl rfl (by rw [HZ2.out]; omega) (by unfold maxLen; omega) (Nat.le_refl _) ?_; intro w1 hown1 hgrow1))
  have hb1 := (Below.refl w.heap.size w).grown hgrow1 (Nat.le_refl _) (fun k hk => by cases hk)
  have hs1 : w.heap.size < w1.heap.size := (World.ownsRow.lt hown1 w.heap.size (by simp [Value.ownBlock])).2
  go_loopw [4] (fun i wr => ∃ (k : Nat) (xs : List Value) (F : List Nat), k ≤ cs.length ∧ i = .int .i64 k ∧ wr.ownsRow w.heap.size 42 2 (.slice (some ⟨w.heap.size, 0, none⟩) cs.length cs.length) cs.length xs ∧ Hid (rowE colE wr (cs.take k) (xs.take (k * 2)) F ∧ F.Nodup ∧ ∀ b ∈ F, w.heap.size < b) ∧ Below w.heap.size w wr ∧ Hid (w.heap.size < wr.heap.size)) (fun i _ => cs.length - (intOf i).toNat)
  case atStart => exact ⟨0, _, [], by omega, rfl, hown1, ⟨⟨by simp, rfl⟩, by simp, by simp⟩, hb1, hs1⟩
  case round =>
    clear hown1 hb1 hgrow1 hs1
    obtain ⟨k, xs, F, hk, rfl, hown, hpre, hb, hsz⟩ := hrel
    by_cases hlt : k < cs.length
    · obtain ⟨b, o, u, rfl, hbB, hc, hc2, hn, hi⟩ := HC.out k hlt
      have hsl := HS.out _ (List.getElem_mem hlt)
      obtain ⟨p, hp⟩ : ∃ p, p = cs[k] := ⟨_, rfl⟩
      rw [← hp] at hc hn hi hsl
      obtain ⟨n, l⟩ := p
      simp only at hc hn hi hsl
      have d1 : wr.cell? ⟨b, o + k * 2, none⟩ = some (.string n) := by rw [hb.cell (p := ⟨b, o + k * 2, none⟩) (Nat.lt_of_lt_of_le hbB hB)]; exact hc
      have d2 : wr.cell? ⟨b, o + k * 2 + 1, none⟩ = some u := by rw [hb.cell (p := ⟨b, o + k * 2 + 1, none⟩) (Nat.lt_of_lt_of_le hbB hB)]; exact hc2
      have e1 := hi.below hb hB
      have HP := hide hp
      clear hc hc2 hi hp
      go_wp2_with fail
      go_at_call 38
      refine (toColumn_own n l u _ B e1 (Nat.le_trans hB hb.size) hsl).mono ?_
      rintro e wa ⟨x, rfl, hown2, hba⟩
      have hown3 := owns_below hown hba
      have hxl : xs.length = cs.length * 2 := hown.1
      have c0 : wa.cell? ⟨w.heap.size, k * 2, none⟩ = some (xs[k * 2]'(by omega)) := by
        rw [World.ownsRow.cellAt hown3 (k * 2) (by omega)]; exact List.getElem?_eq_getElem _
      have c1 : wa.cell? ⟨w.heap.size, k * 2 + 1, none⟩ = some (xs[k * 2 + 1]'(by omega)) := by
        rw [World.ownsRow.cellAt hown3 (k * 2 + 1) (by omega)]; exact List.getElem?_eq_getElem _
      have f0 := World.ownsRow.frozenAt hown3 (k * 2)
      have f1 := World.ownsRow.frozenAt hown3 (k * 2 + 1)
      obtain ⟨y0, hy0⟩ : ∃ y, y = xs[k * 2]'(by omega) := ⟨_, rfl⟩
      obtain ⟨y1, hy1⟩ : ∃ y, y = xs[k * 2 + 1]'(by omega) := ⟨_, rfl⟩
      rw [← hy0] at c0
      rw [← hy1] at c1
      clear hy0 hy1
      have hform : ∃ a k cap, x = .slice a k cap := by
        rcases hown2.2 with ⟨h, _⟩ | ⟨g, cap, cur, h, _⟩
        · exact ⟨_, _, _, h⟩
        · exact ⟨_, _, _, h⟩
      obtain ⟨ax, kx, cx, rfl⟩ := hform
      have HO2 := hide hown2
      have HO3 := hide hown3
      have HBA := hide hba
      have HXL := hide hxl
      clear hown hown2 hown3 hba hxl
      go_wp2_with fail
      go_roundw
      case rel =>
        have s1 := (World.ownsRow.stored HO3.out (k * 2) (.string n)).1
        have s2 := (World.ownsRow.stored s1 (k * 2 + 1) (.slice ax kx cx)).1
        have hz := hsz.out
        have b1 := hb.trans (HBA.out.mono hb.size)
        have b2 := (b1.setCell (p := ⟨w.heap.size, k * 2, none⟩) (Nat.le_refl _) (.string n)).setCell (p := ⟨w.heap.size, k * 2 + 1, none⟩) (Nat.le_refl _) (.slice ax kx cx)
        have b3 := (HBA.out.mono (Nat.zero_le _)).setCell (p := ⟨w.heap.size, k * 2, none⟩) (Nat.zero_le _) (.string n) |>.setCell (p := ⟨w.heap.size, k * 2 + 1, none⟩) (Nat.zero_le _) (.slice ax kx cx)
        have o3 : Only [w.heap.size] wa ((wa.setCell ⟨w.heap.size, k * 2, none⟩ (.string n)).setCell ⟨w.heap.size, k * 2 + 1, none⟩ (.slice ax kx cx)) := ((Only.refl _ _).setCell (by simp) _).setCell (by simp) _
        obtain ⟨hr, hnd, hlo⟩ := hpre.out
        obtain ⟨hoi, hob⟩ := OI.of HO2.out
        have hx := HXL.out
        have hrlt := rowE_lt colE_good _ _ _ hr
        refine ⟨k + 1, _, F ++ (Value.slice ax kx cx).ownBlock.toList, by omega, by go_num, s2, ⟨?_, ?_, ?_⟩, b2, Nat.lt_of_lt_of_le hz b3.size⟩
        · rw [take_set2 xs k _ _ (by omega), List.take_succ_eq_append_getElem hlt]
          refine (rowE_append _ _ _ _).2 ⟨_, _, _, _, rfl, rfl, rowE_kept colE_good _ _ _ hr (fun b hbf => ?_), [.string n, .slice ax kx cx], [], (Value.slice ax kx cx).ownBlock.toList, [], by simp, by simp, ⟨.slice ax kx cx, by rw [← HP.out], ?_⟩, rfl, rfl⟩
          · exact (o3.block b (Nat.lt_of_lt_of_le (hrlt b hbf) HBA.out.size) (by have := hlo b hbf; simp; omega)).trans (HBA.out.block b (hrlt b hbf))
          · rw [← HP.out]
            exact hoi.only o3 (fun b hbf => by have := (hob b hbf).1; simp; omega)
        · rw [List.nodup_append]
          refine ⟨hnd, by cases (Value.slice ax kx cx).ownBlock <;> simp, fun p hp q hq e => ?_⟩
          have := hrlt p hp
          have := (hob q hq).1
          omega
        · intro b hbf
          rcases List.mem_append.1 hbf with hbf | hbf
          · exact hlo b hbf
          · have := (hob b hbf).1
            omega
      case measure => simp [intOf]; omega
    · have hke : k = cs.length := by omega
      subst hke
      have HO := hide hown
      have hx : xs.length = cs.length * 2 := hown.1
      have HX := hide hx
      clear hown hx
      go_wp2_with fail
      go_ret
      obtain ⟨hr, hnd, hlo⟩ := hpre.out
      rw [List.take_of_length_le (Nat.le_refl _), List.take_of_length_le (by have := HX.out; omega)] at hr
      refine ⟨_, w.heap.size :: F, rfl, .inr ⟨_, _, xs, F, rfl, owns_zero HO.out, hr, rfl, ?_⟩, ?_, hb⟩
      · rw [List.nodup_cons]
        exact ⟨fun hh => by have := hlo _ hh; omega, hnd⟩
      · intro b hbf
        rcases List.mem_cons.1 hbf with rfl | hbf
        · exact Nat.le_refl _
        · exact Nat.le_of_lt (hlo b hbf)

/-- A new table of the call's own is returned; nothing that was there has turned. -/
def RetOT (w : World) (cs : List Col) (e : Ending) (w' : World) : Prop := ∃ a cap F, e = .returned (.agg #[.slice a cs.length cap]) ∧ colsE w' (.slice a cs.length cap) cs F ∧ (∀ b ∈ F, w.heap.size ≤ b) ∧ Below w.heap.size w w'

set_option maxHeartbeats 1000000 in
theorem toTable_o (v : Value) (cs : List Col) (w : World) (B : Nat) (hv : Tbl w B v cs) (hB : B ≤ w.heap.size) (hl : cs.length ≤ 1048576) (hs : ∀ c ∈ cs, c.2.length ≤ 1048576) :
    Calls Tryd.prog 7 #[v] w (RetOT w cs) := by
  obtain ⟨u, rfl, hu⟩ := hv
  have a1 := (Below.refl w.heap.size w).alloc (Nat.le_refl _) (.cells #[u] 24)
  have a2 := a1.alloc a1.size (.cells #[.slice none 0 0] 29)
  have a3 := a2.alloc a2.size (.cells #[.slice none 0 0] 29)
  have hu3 := hide (hu.below a3 hB)
  have HA := hide a3
  have HBS := hide (Nat.le_trans hB a3.size)
  obtain ⟨ua, ucap, rfl, -, -⟩ := hu
  clear a1 a2 a3
  go_enter Tryd.func7, Tryd.ntmps7
  go_wp2_with fail
  go_at_call 18
  refine (toColumnS_o _ cs _ B hu3.out HBS.out hl hs).mono ?_
  rintro e wa ⟨v, F, rfl, hown, hlo, hba⟩
  have c1' := cell_new ((w.alloc (.cells #[.slice ua cs.length ucap] 24)).alloc (.cells #[.slice none 0 0] 29)) #[.slice none 0 0] 29 0
  have f1' := froz_new ((w.alloc (.cells #[.slice ua cs.length ucap] 24)).alloc (.cells #[.slice none 0 0] 29)) #[.slice none 0 0] 29 0
  have g0' := cell_new (w.alloc (.cells #[.slice ua cs.length ucap] 24)) #[.slice none 0 0] 29 0
  have e0' := froz_new (w.alloc (.cells #[.slice ua cs.length ucap] 24)) #[.slice none 0 0] 29 0
  have b1 := (Below.refl ((w.alloc (.cells #[.slice ua cs.length ucap] 24)).alloc (.cells #[.slice none 0 0] 29)).heap.size _).alloc (Nat.le_refl _) (.cells #[.slice none 0 0] 29)
  have low : ∀ (p : Addr), p.block = w.heap.size + 1 → wa.cell? p = ((w.alloc (.cells #[.slice ua cs.length ucap] 24)).alloc (.cells #[.slice none 0 0] 29)).cell? p ∧ wa.frozen? p = ((w.alloc (.cells #[.slice ua cs.length ucap] 24)).alloc (.cells #[.slice none 0 0] 29)).frozen? p := by
    intro p hp
    rw [hba.cell (by rw [alloc_size, alloc_size, alloc_size]; omega), hba.frozen (by rw [alloc_size, alloc_size, alloc_size]; omega)]
    exact ⟨b1.cell (by rw [alloc_size, alloc_size]; omega), b1.frozen (by rw [alloc_size, alloc_size]; omega)⟩
  rw [alloc_size, alloc_size] at c1' f1'
  rw [alloc_size] at g0' e0'
  rw [alloc_size, alloc_size, alloc_size] at hba hlo
  have c1 : wa.cell? ⟨w.heap.size + 1 + 1, 0, none⟩ = some (.slice none 0 0) := by
    rw [hba.cell (p := ⟨w.heap.size + 1 + 1, 0, none⟩) (by show w.heap.size + 1 + 1 < _; omega)]; exact c1'
  have f1 : wa.frozen? ⟨w.heap.size + 1 + 1, 0, none⟩ = false := by
    rw [hba.frozen (p := ⟨w.heap.size + 1 + 1, 0, none⟩) (by show w.heap.size + 1 + 1 < _; omega)]; exact f1'
  have g0 : wa.cell? ⟨w.heap.size + 1, 0, none⟩ = some (.slice none 0 0) := (low _ rfl).1.trans g0'
  have e0 : wa.frozen? ⟨w.heap.size + 1, 0, none⟩ = false := (low _ rfl).2.trans e0'
  clear c1' f1' g0' e0' low b1
  obtain ⟨ga, cap, rfl, -⟩ := hown.form
  have HO := hide hown
  have HL := hide hlo
  have HB := hide hba
  clear hown hlo hba
  go_wp2_with fail
  have o3 : Only [w.heap.size + 1 + 1, w.heap.size + 1] wa ((wa.setCell ⟨w.heap.size + 1 + 1, 0, none⟩ (.slice ga cs.length cap)).setCell ⟨w.heap.size + 1, 0, none⟩ (.slice ga cs.length cap)) := ((Only.refl _ _).setCell (by simp) _).setCell (by simp) _
  have b0 := HA.out.trans (HB.out.mono (by omega))
  exact bodyPost_ret (v := .agg #[.slice ga cs.length cap]) (by simp [results, Tryd.results7, go_sem, g0]) rfl ⟨_, _, F, rfl, slE.only colE_good HO.out o3 (fun b hb => by have := HL.out b hb; simp; omega), fun b hb => by have := HL.out b hb; omega, (b0.setCell (p := ⟨w.heap.size + 1 + 1, 0, none⟩) (by show _ ≤ w.heap.size + 1 + 1; omega) _).setCell (p := ⟨w.heap.size + 1, 0, none⟩) (by show _ ≤ w.heap.size + 1; omega) _⟩

/-- A number is returned, v's own table now reads as ds, nothing else has turned (the box of the argument is new). -/
def RetMT (w : World) (v : Value) (F : List Nat) (x : Int) (ds : List Col) (e : Ending) (w' : World) : Prop := e = .returned (.int .i64 x) ∧ colsE w' v ds F ∧ Only F w w'

set_option maxHeartbeats 1000000 in
theorem markTable_own (v : Value) (cs : List Col) (F : List Nat) (k : Nat) (w : World) (h : colsE w v cs F) (h0 : k ≠ 0) (h1 : k + cnt cs ≤ 4611686018427387904) :
    Calls Tryd.prog 12 #[.agg #[v], .int .i64 k] w (RetMT w v F ((k + cnt cs : Nat) : Int) (mkC k cs)) := by
  have H := hide h
  obtain ⟨a, cap, rfl, hlen⟩ := h.form
  clear h
  have hb1 := (Below.refl w.heap.size w).alloc (Nat.le_refl _) (.cells #[.slice a cs.length cap] 29)
  have H1 := hide (slE.below colE_good H.out hb1)
  have HB1 := hide hb1
  clear hb1
  go_enter Tryd.func12, Tryd.ntmps12
  go_wp2_with fail
  go_at_call 32
  refine (markColumnS_own _ cs F k _ H1.out h0 h1).mono ?_
  rintro e w2 ⟨rfl, ho2, hw2⟩
  have O2 := hide ho2
  have W2 := hide ((Only.of_below HB1.out).trans hw2)
  clear ho2 hw2
  go_wp2_with fail
  go_ret
  exact ⟨rfl, O2.out, W2.out⟩

end Go.Proofs.YtiianddblanffaaDoor
