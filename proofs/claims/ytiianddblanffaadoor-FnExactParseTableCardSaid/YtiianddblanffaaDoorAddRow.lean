/- The program's addRow. -/
import Derived.Test.YtiianddblanffaaDoorTabN
namespace Go.Proofs.YtiianddblanffaaDoor
open Go.RowKit Go.ChangeShapes
set_option linter.unusedSimpArgs false
set_option linter.unusedVariables false
set_option maxRecDepth 100000

theorem Only.cell {F : List Nat} {w w' : World} (h : Only F w w') {p : Addr} (hp : p.block < w.heap.size) (hn : p.block ∉ F) : w'.cell? p = w.cell? p := World.cell?_of_block (h.block _ hp hn)

theorem Only.frozen {F : List Nat} {w w' : World} (h : Only F w w') {p : Addr} (hp : p.block < w.heap.size) (hn : p.block ∉ F) : w'.frozen? p = w.frozen? p := World.frozen?_of_block (h.block _ hp hn)

theorem slE.nodup {D : Type} {t : TypeId} {z : Nat} {E : Pr D} {w : World} {v : Value} {ds : List D} {F : List Nat} (h : slE t z E w v ds F) : F.Nodup := by
  rcases h with ⟨_, _, rfl⟩ | ⟨g, cap, xs, F', _, _, _, _, h5⟩
  · simp
  · exact h5

def vsP (ws : List (List UInt8)) : List Int := ws.map fun w => (ParI w).1

theorem addP_ok : ∀ (cs : List Col) (ws : List (List UInt8)), ws.length = cs.length → (∀ w ∈ ws, (ParI w).2 = true) → addP cs ws = some (zapp cs (vsP ws)) := by
  intro cs
  induction cs with
  | nil => intro ws h _; have : ws = [] := List.eq_nil_of_length_eq_zero h; subst this; rfl
  | cons c cs ih =>
    intro ws h hp
    cases ws with
    | nil => simp at h
    | cons w ws =>
      simp only [addP]
      rw [if_pos (hp w (by simp)), ih ws (by simpa using h) (fun x hx => hp x (by simp [hx]))]
      simp [zapp, vsP]

theorem addP_bad : ∀ (cs : List Col) (ws : List (List UInt8)), (∃ w ∈ ws, (ParI w).2 = false) → addP cs ws = none := by
  intro cs
  induction cs with
  | nil =>
    rintro ws ⟨w, hw, _⟩
    cases ws with
    | nil => simp at hw
    | cons v vs => rfl
  | cons c cs ih =>
    rintro ws ⟨w, hw, hp⟩
    cases ws with
    | nil => simp at hw
    | cons v vs =>
      simp only [addP]
      rcases List.mem_cons.1 hw with rfl | hw
      · rw [if_neg (by rw [hp]; simp)]
      · split
        · rw [ih vs ⟨w, hw, hp⟩]; rfl
        · rfl

/-- Columns of which the first k have one value more. -/
def mixA (cs : List Col) (vs : List Int) (k : Nat) : List Col := zapp (cs.take k) (vs.take k) ++ cs.drop k

theorem mixA_length (cs : List Col) (vs : List Int) (k : Nat) (h : vs.length = cs.length) : (mixA cs vs k).length = cs.length := by simp [mixA, zapp, h]; omega

theorem mixA_at (cs : List Col) (vs : List Int) (k : Nat) (h : vs.length = cs.length) (hk : k < cs.length) : (mixA cs vs k)[k]'(by rw [mixA_length cs vs k h]; exact hk) = cs[k] := by
  have e : (zapp (cs.take k) (vs.take k)).length = k := by simp [zapp, h]; omega
  unfold mixA
  rw [List.getElem_append_right (by omega)]
  simp [e]

theorem mixA_set (cs : List Col) (vs : List Int) (k : Nat) (h : vs.length = cs.length) (hk : k < cs.length) : (mixA cs vs k).set k (cs[k].1, cs[k].2 ++ [vs[k]'(by omega)]) = mixA cs vs (k + 1) := by
  have e : (zapp (cs.take k) (vs.take k)).length = k := by simp [zapp, h]; omega
  unfold mixA
  rw [List.set_append_right _ _ (by omega), e, Nat.sub_self, List.drop_eq_getElem_cons hk, List.set_cons_zero]
  have e2 : zapp (cs.take (k + 1)) (vs.take (k + 1)) = zapp (cs.take k) (vs.take k) ++ [(cs[k].1, cs[k].2 ++ [vs[k]'(by omega)])] := by
    unfold zapp
    rw [List.take_succ_eq_append_getElem hk, List.take_succ_eq_append_getElem (show k < vs.length by omega), List.zipWith_append (by simp [h])]
    rfl
  rw [e2, List.append_assoc, List.singleton_append]

theorem mixA_all (cs : List Col) (vs : List Int) (h : vs.length = cs.length) : mixA cs vs cs.length = zapp cs vs := by
  unfold mixA
  rw [List.take_of_length_le (Nat.le_refl _), List.take_of_length_le (by omega), List.drop_of_length_le (Nat.le_refl _), List.append_nil]

theorem mixA_zero (cs : List Col) (vs : List Int) : mixA cs vs 0 = cs := by simp [mixA, zapp]

/-- A row has been added to v's own columns, or not. -/
def RetAdd (F : List Nat) (w : World) (v : Value) (r : Option (List Col)) (e : Ending) (w' : World) : Prop :=
  Only F w w' ∧ match r with
    | some ds => e = .returned (.bool true) ∧ ∃ F', colsE w' v ds F' ∧ ∀ b ∈ F', b ∈ F ∨ w.heap.size ≤ b
    | none => e = .returned (.bool false)

set_option maxHeartbeats 4000000 in
theorem addRow_any (a : Option Addr) (cap : Nat) (cs : List Col) (F : List Nat) (line : ByteArray) (w : World) (h : colsE w (.slice a cs.length cap) cs F)
    (ht : isT cs = true) (W0 : World) (hT0 : Tab W0) (hM0 : ML W0) (hW0 : Below W0.heap.size W0 w) (hF0 : ∀ b ∈ F, W0.heap.size ≤ b) (hs : line.size ≤ 1048576) :
    Calls Tryd.prog 31 #[.agg #[.slice a cs.length cap], .string line] w (RetAdd F w (.slice a cs.length cap) (addRowP cs line.data.toList)) := by
  have hcl := (isT_len ht).2
  have hcl1 := (isT_len ht).1
  have HV := hide (fun j (hj : j < cs.length) => (show cs[j].2.length ≤ 64 by
    have := ((isT_ok ht).2 j hj).2.1
    simp [areVals] at this
    exact this.1))
  have HB1 := hide (Box.new w (.slice a cs.length cap) 29)
  have H1 := hide (slE.below colE_good h HB1.out.1)
  have ML1 := hide ((hM0.up hW0).up HB1.out.1)
  have TT := hide (fun (W : World) (hb : Only F w W) => Tab.stays hT0 (hW0.trans (hb.toBelow hF0 hW0.size)) (Nat.le_refl _))
  have FLT := hide (slE.lt colE_good h)
  have HCS := hide (Tryd.strings_CutSuffix line ⟨#[10]⟩)
  clear h hF0 hT0 hM0 hW0 ht
  obtain ⟨r, hr⟩ : ∃ r, r = addRowP cs line.data.toList := ⟨_, rfl⟩
  rw [← hr]
  obtain ⟨row, hrow⟩ : ∃ row, row = Lib.trimSuffix line.data.toList [10] := ⟨_, rfl⟩
  obtain ⟨sx, hsx⟩ : ∃ sx, sx = Lib.hasSuffix line.data.toList [10] := ⟨_, rfl⟩
  obtain ⟨ws, hws⟩ : ∃ ws, ws = partsP row (cs.length + 1) := ⟨_, rfl⟩
  unfold addRowP at hr
  rw [← hrow, ← hsx, ← hws] at hr
  have hrl : row.length ≤ 1048576 := by
    have hll : line.data.toList.length ≤ 1048576 := by simpa using hs
    rw [hrow]; unfold Lib.trimSuffix
    split
    · rw [List.length_take]; omega
    · exact hll
  have hsl : (ByteArray.mk #[10]).data.toList = [10] := rfl
  have HCS2 : Hid (∀ W : World, Calls Tryd.prog 52 #[.string line, .string ⟨#[10]⟩] W fun e w' => e = .returned (.tuple #[.string ⟨row.toArray⟩, .bool sx]) ∧ w' = W) := fun W => by
    have := HCS.out W (by omega)
    rw [hsl, ← hrow, ← hsx] at this
    exact this
  have hrs : (ByteArray.mk row.toArray).size = row.length := by simp [ByteArray.size]
  have HSN : Hid (∀ W : World, ML W → Calls Tryd.prog 48 #[.string ⟨row.toArray⟩, .string ⟨#[32]⟩, .int .i64 ((cs.length : Int) + 1)] W (RetW W ws)) := fun W hW => by
    have := splitN_any ⟨row.toArray⟩ (cs.length + 1) W hW (by omega) (by omega) (by omega)
    rw [show (ByteArray.mk row.toArray).data.toList = row from by simp, ← hws] at this
    exact this
  have HWL : Hid (∀ x ∈ ws, x.length ≤ 1048576) := by
    intro x hx
    have hj : Lib.join ws [32] = row := by rw [hws]; exact (splitK_join 32 _ _).2
    have key : ∀ (ws : List (List UInt8)), ∀ x ∈ ws, x.length ≤ (Lib.join ws [32]).length := by
      intro ws
      induction ws with
      | nil => simp
      | cons v vs ih =>
        intro x hx
        cases vs with
        | nil => rw [Lib.join_one]; simp at hx; subst hx; exact Nat.le_refl _
        | cons u us =>
          have e : Lib.join (v :: u :: us) [32] = v ++ 32 :: Lib.join (u :: us) [32] := by
            rw [Lib.join_cons, Lib.join_cons]
            simp [Lib.joinTail]
          rw [e, List.length_append, List.length_cons]
          rcases List.mem_cons.1 hx with rfl | hx
          · omega
          · have := ih x hx; omega
    have := key ws x hx
    rw [hj] at this
    omega
  have HR := hide hr
  clear hr hrow hsx hws hrs hrl HCS hsl
  by_cases hC : sx = true ∧ ws.length = cs.length
  · obtain ⟨rfl, hwl⟩ := hC
    have hne : ((ws.length : Int) != (cs.length : Int)) = false := by rw [bne_eq_false_iff_eq]; omega
    have HWE := hide hwl
    have HR2 := hide (show r = addP cs ws by rw [HR.out, if_pos ⟨rfl, hwl⟩])
    clear HR hwl
    go_enter Tryd.func31, Tryd.ntmps31
    go_wp2_with fail
    obtain ⟨w1, hw1⟩ : ∃ w1, w1 = w.alloc (.cells #[.slice a cs.length cap] 29) := ⟨_, rfl⟩
    rw [← hw1] at HB1 H1 ML1 ⊢
    clear hw1
    go_at_call 52
    refine (HCS2.out w1).mono ?_
    rintro e w1' ⟨rfl, rfl⟩
    have c1 := HB1.out.2.1
    go_wp2_with fail
    go_at_call 48
    refine (HSN.out w1' ML1.out).mono ?_
    rintro e w2 ⟨cap2, rfl, hc2, hs2, hb2⟩
    have C2 := hide hc2
    have B2 := hide (HB1.out.up hb2)
    have H2 := hide (slE.below colE_good H1.out hb2)
    have c2 := B2.out.2.1
    obtain ⟨gw, hgw⟩ : ∃ gw, gw = w1'.heap.size := ⟨_, rfl⟩
    rw [← hgw] at C2 hs2
    try rw [← hgw]
    have GW := hide (show w.heap.size < gw by rw [hgw]; exact HB1.out.2.2)
    have S2 := hide hs2
    clear hc2 hb2 hs2 hgw c1
    go_wp2_with fail
    obtain ⟨wl, hwl⟩ : ∃ wl : World, wl = w2 := ⟨_, rfl⟩
    have CL := hide (show ∀ j (h : j < ws.length), wl.cell? ⟨gw, j, none⟩ = some (.string ⟨ws[j].toArray⟩) by rw [hwl]; exact C2.out)
    have BL := hide (show Box w wl (.slice a cs.length cap) by rw [hwl]; exact B2.out)
    have GL := hide (show gw < wl.heap.size by rw [hwl]; exact S2.out)
    have HWL2 := hide hwl
    clear c2 hwl
    go_loopw [36] (fun i wr => ∃ (k : Nat) (F' : List Nat), k ≤ cs.length ∧ i = .int .i64 k ∧ Hid (∀ j (h : j < ws.length), j < k → (ParI ws[j]).2 = true) ∧ Hid (colsE wr (.slice a cs.length cap) (mixA cs (vsP ws) k) F') ∧ Hid (∀ b ∈ F', b ∈ F ∨ wl.heap.size ≤ b) ∧ Hid (∀ b, w.heap.size ≤ b → b < wl.heap.size → wr.heap[b]? = wl.heap[b]?) ∧ Hid (Only F w wr) ∧ Hid (wl.heap.size ≤ wr.heap.size)) (fun i _ => cs.length - (intOf i).toNat)
    case atStart => exact ⟨0, F, by omega, rfl, fun j h hj => by omega, by show colsE _ _ _ _; rw [mixA_zero]; exact H2.out, fun b hb => .inl hb, fun b _ _ => by rw [HWL2.out], Only.of_below B2.out.1, by show _ ≤ _; rw [HWL2.out]; exact Nat.le_refl _⟩
    case round =>
      obtain ⟨k, F', hk, rfl, hpre, ho, hF', hkeep, hb, hsz⟩ := hrel
      have hvl : (vsP ws).length = cs.length := by simp [vsP, HWE.out]
      have HVL := hide hvl
      clear hvl
      by_cases hlt : k < cs.length
      · have hkw : k < ws.length := by have := HWE.out; omega
        have cw : wr.cell? ⟨gw, k, none⟩ = some (.string ⟨ws[k].toArray⟩) := by
          rw [World.cell?_of_block (w := wl) (a := ⟨gw, k, none⟩) (hkeep.out gw (Nat.le_of_lt GW.out) GL.out)]; exact CL.out k hkw
        have hx := HWL.out _ (List.getElem_mem hkw)
        obtain ⟨wd, hwd⟩ : ∃ wd, wd = ws[k] := ⟨_, rfl⟩
        rw [← hwd] at cw hx
        have hsw : (ByteArray.mk wd.toArray).size ≤ 1048576 := by simpa [ByteArray.size] using hx
        have HT := hide (TT.out wr hb.out)
        have HPI := hide (iPI_any ⟨wd.toArray⟩ wr hsw HT.out)
        obtain ⟨⟨x, t⟩, hd⟩ : ∃ p, p = ParI wd := ⟨_, rfl⟩
        rw [show (ByteArray.mk wd.toArray).data.toList = wd from by simp, ← hd] at HPI
        have HD := hide hd
        have HWD := hide hwd
        clear hd hwd hx hsw
        cases t
        · have hrn := hide (show r = none by
            rw [HR2.out]
            exact addP_bad _ _ ⟨_, List.getElem_mem hkw, by rw [← HWD.out, ← HD.out]⟩)
          go_wp2_with fail
          go_at_call 53
          refine HPI.out.mono ?_
          rintro e w5 ⟨rfl, hb5⟩
          have B5 := hide (hb.out.trans (Only.of_below hb5))
          clear hb5
          go_wp2_with fail
          go_ret
          rw [hrn.out]
          exact ⟨B5.out, rfl⟩
        · have hl64 := HV.out k hlt
          have hlm : k < (mixA cs (vsP ws) k).length := by rw [mixA_length _ _ _ HVL.out]; exact hlt
          go_wp2_with fail
          go_at_call 53
          refine HPI.out.mono ?_
          rintro e w5 ⟨rfl, hb5⟩
          have ho5 := slE.below colE_good ho.out hb5
          obtain ⟨g, cap', c, Fj, FA, FB, hv, hFeq, hgs, hgj, hE, hcl', hcell, hfro, hswap⟩ := slE.swap colE_good ho5 k hlm
          obtain ⟨rfl, rfl⟩ : a = some ⟨g, 0, none⟩ ∧ cap = cap' := by
            simp only [Value.slice.injEq] at hv
            exact ⟨hv.1, hv.2.2⟩
          rw [mixA_at cs (vsP ws) k HVL.out hlt] at hE
          obtain ⟨d, hdd⟩ : ∃ d, d = cs[k] := ⟨_, rfl⟩
          rw [← hdd] at hE hl64
          obtain ⟨n, l⟩ := d
          obtain ⟨u, rfl, hoi⟩ := hE
          simp only at hl64 hoi
          have hcc1 := hcell 1 (by omega)
          simp only [List.getElem?_cons_zero, List.getElem?_cons_succ] at hcc1
          have hff1 := hfro (k * 2 + 1)
          obtain ⟨au, capu, rfl, -⟩ := hoi.form
          have hbox : w5.cell? ⟨w.heap.size, 0, none⟩ = some (.slice (some ⟨g, 0, none⟩) cs.length cap) := by
            have e1 := hkeep.out w.heap.size (Nat.le_refl _) BL.out.2.2
            rw [hb5.cell (p := ⟨w.heap.size, 0, none⟩) (Nat.lt_of_lt_of_le BL.out.2.2 hsz.out), World.cell?_of_block (w := wl) (a := ⟨w.heap.size, 0, none⟩) e1]
            exact BL.out.2.1
          have HOI := hide hoi
          have HSW := hide hswap
          have HFE := hide hFeq
          have HND := hide (slE.nodup ho5)
          have HLT5 := hide (slE.lt colE_good ho5)
          have HDD := hide hdd
          have HB5 := hide hb5
          have HGS := hide hgs
          have HGJ := hide hgj
          clear hv hcell hfro hswap hoi hFeq ho5 hdd hb5 hcl' hgs hgj cw
          go_wp2_with (first | (at_builtin; refine oi_append _ rfl _ _ 40 rfl 3 Tryd.underlying40 infoI _ l Fj HOI.out rfl x 1 rfl (by omega) ?_; intro g' capx w6 ho6 hg6 hw6 hs6; have c61 := (hw6.cell (p := ⟨g, k * 2 + 1, none⟩) HGS.out HGJ.out).trans hcc1; have f61 := (hw6.frozen (p := ⟨g, k * 2 + 1, none⟩) HGS.out HGJ.out).trans hff1))
          go_roundw
          case rel =>
            have hx : x = (vsP ws)[k]'(by rw [HVL.out]; exact hlt) := by simp [vsP, ← HWD.out, ← HD.out]
            have hFj : ∀ b ∈ Fj, b ∈ F' := fun b hb => by rw [HFE.out]; simp [hb]
            have hgF : g ∈ F' := by rw [HFE.out]; simp
            have hne : g' ≠ g := by
              rintro rfl
              rcases hg6 with hh | hh
              · exact HGJ.out hh
              · have := HGS.out; omega
            have o7 : OI (w6.setCell ⟨g, k * 2 + 1, none⟩ (.slice (some ⟨g', 0, none⟩) (l.length + 1) capx)) 3 (.slice (some ⟨g', 0, none⟩) (l.length + 1) capx) (l ++ [x]) [g'] :=
              ho6.only (Only.setCell (F := [g]) (Only.refl _ _) (by simp) _) (fun b hb hbg => by simp at hb hbg; omega)
            have hdis : ∀ b ∈ [g'], b ∉ g :: (FA ++ FB) := by
              intro b hb hh
              simp at hb
              subst hb
              rcases hg6 with hj | hj
              · have hnd := HND.out
                rw [HFE.out, List.nodup_cons, List.nodup_append, List.nodup_append] at hnd
                obtain ⟨-, -, ⟨-, -, hd1⟩, hd2⟩ := hnd
                rcases List.mem_cons.1 hh with hh | hh
                · exact hne hh
                · rcases List.mem_append.1 hh with hh | hh
                  · exact hd2 _ hh _ (by simp [hj]) rfl
                  · exact hd1 _ hj _ hh rfl
              · have : b ∈ F' := by
                  rw [HFE.out]
                  rcases List.mem_cons.1 hh with hh | hh
                  · simp [hh]
                  · rcases List.mem_append.1 hh with hh | hh <;> simp [hh]
                have := HLT5.out b this
                omega
            have h7 := HSW.out w6 1 (.slice (some ⟨g', 0, none⟩) (l.length + 1) capx) (n, l ++ [x]) [g'] hw6 (by omega) ⟨_, rfl, o7⟩ hdis (by simp)
            have hset := mixA_set cs (vsP ws) k HVL.out hlt
            rw [← hx, ← HDD.out] at hset
            simp only at hset
            rw [hset] at h7
            have hwlw : w.heap.size ≤ wl.heap.size := Nat.le_of_lt BL.out.2.2
            have hnew : g' ∈ F ∨ wl.heap.size ≤ g' := by
              rcases hg6 with hj | hj
              · exact hF'.out g' (hFj g' hj)
              · have := HB5.out.size
                have := hsz.out
                exact .inr (by omega)
            have hnotF' : ∀ b, b < w.heap.size → b ∉ F → b ∉ F' := fun b hb1 hb2 hb3 => by
              rcases hF'.out b hb3 with h | h
              · exact hb2 h
              · omega
            have b5 : Only F w w5 := hb.out.trans (Only.of_below HB5.out)
            have b6 : Only F w w6 := ⟨b5.below.trans hw6.below, fun b hb1 hb2 => (hw6.block b (Nat.lt_of_lt_of_le hb1 b5.below.size) (fun hh => hnotF' b hb1 hb2 (hFj b hh))).trans (b5.block b hb1 hb2)⟩
            have b7 : Only F w (w6.setCell ⟨g, k * 2 + 1, none⟩ (.slice (some ⟨g', 0, none⟩) (l.length + 1) capx)) :=
              ⟨b6.below.setCell (p := ⟨g, k * 2 + 1, none⟩) (Nat.zero_le _) _, fun b hb1 hb2 => (Below.heap_setCell _ _ _ _ (fun e => hnotF' b hb1 hb2 (by rw [e]; exact hgF))).trans (b6.block b hb1 hb2)⟩
            refine ⟨k + 1, g :: (FA ++ ([g'] ++ FB)), by omega, by go_num, ?_, h7, ?_, ?_, b7, ?_⟩
            · intro j hjl hj
              by_cases hjk : j = k
              · subst hjk
                rw [← HWD.out, ← HD.out]
              · exact hpre.out j hjl (by omega)
            · intro b hb
              rcases List.mem_cons.1 hb with rfl | hb
              · exact hF'.out _ hgF
              · rcases List.mem_append.1 hb with hb | hb
                · exact hF'.out b (by rw [HFE.out]; simp [hb])
                · rcases List.mem_append.1 hb with hb | hb
                  · simp at hb; subst hb; exact hnew
                  · exact hF'.out b (by rw [HFE.out]; simp [hb])
            · intro b hb1 hb2
              have hnF : ∀ b', b' ∈ F' → b' ≠ b := fun b' hb' e => by
                subst e
                rcases hF'.out _ hb' with h | h
                · have := FLT.out _ h; omega
                · omega
              have hbs : b < wr.heap.size := Nat.lt_of_lt_of_le hb2 hsz.out
              rw [Below.heap_setCell _ _ _ _ (show b ≠ g from (hnF g hgF).symm), hw6.block b (Nat.lt_of_lt_of_le hbs HB5.out.size) (fun hh => hnF b (hFj b hh) rfl), HB5.out.block b hbs]
              exact hkeep.out b hb1 hb2
            · show wl.heap.size ≤ _
              have := hsz.out
              have := HB5.out.size
              simp [World.setCell]
              omega
          case measure => simp [intOf]; omega
      · have hke : k = cs.length := by omega
        have hrs := hide (show r = some (zapp cs (vsP ws)) by
          rw [HR2.out]
          refine addP_ok cs ws HWE.out fun x hx => ?_
          obtain ⟨j, hj, rfl⟩ := List.getElem_of_mem hx
          exact hpre.out j hj (by have := HWE.out; omega))
        have hoF := ho
        rw [hke, mixA_all _ _ HVL.out] at hoF
        have hkw : ws.length ≤ k := by have := HWE.out; omega
        clear hke
        go_wp2_with fail
        go_ret
        rw [hrs.out]
        exact ⟨hb.out, rfl, F', hoF.out, fun b hb => (hF'.out b hb).elim .inl (fun h => .inr (Nat.le_trans (Nat.le_of_lt BL.out.2.2) h))⟩
  · have hrn := hide (show r = none by rw [HR.out, if_neg hC])
    cases sx
    · go_enter Tryd.func31, Tryd.ntmps31
      go_wp2_with fail
      obtain ⟨w1, hw1⟩ : ∃ w1, w1 = w.alloc (.cells #[.slice a cs.length cap] 29) := ⟨_, rfl⟩
      rw [← hw1] at HB1 H1 ML1 ⊢
      clear hw1
      go_at_call 52
      refine (HCS2.out w1).mono ?_
      rintro e w1' ⟨rfl, rfl⟩
      have c1 := HB1.out.2.1
      go_wp2_with fail
      go_at_call 48
      refine (HSN.out w1' ML1.out).mono ?_
      rintro e w2 ⟨cap2, rfl, hc2, hs2, hb2⟩
      have B2 := hide (HB1.out.up hb2)
      clear hc2 hb2 hs2 c1
      go_wp2_with fail
      go_ret
      rw [hrn.out]
      exact ⟨Only.of_below B2.out.1, rfl⟩
    · have hne : ((ws.length : Int) != (cs.length : Int)) = true := by rw [bne_iff_ne]; exact fun e => hC ⟨rfl, by omega⟩
      clear hC
      go_enter Tryd.func31, Tryd.ntmps31
      go_wp2_with fail
      obtain ⟨w1, hw1⟩ : ∃ w1, w1 = w.alloc (.cells #[.slice a cs.length cap] 29) := ⟨_, rfl⟩
      rw [← hw1] at HB1 H1 ML1 ⊢
      clear hw1
      go_at_call 52
      refine (HCS2.out w1).mono ?_
      rintro e w1' ⟨rfl, rfl⟩
      have c1 := HB1.out.2.1
      go_wp2_with fail
      go_at_call 48
      refine (HSN.out w1' ML1.out).mono ?_
      rintro e w2 ⟨cap2, rfl, hc2, hs2, hb2⟩
      have B2 := hide (HB1.out.up hb2)
      have c2 := B2.out.2.1
      clear hc2 hb2 hs2 c1
      go_wp2_with fail
      go_ret
      rw [hrn.out]
      exact ⟨Only.of_below B2.out.1, rfl⟩

end Go.Proofs.YtiianddblanffaaDoor
