/- The program's tableWithNames; strings.SplitN and strings.Clone as they are called. -/
import Derived.Test.YtiianddblanffaaDoorCutS
import Derived.Test.YtiianddblanffaaDoorOwnCol
import Derived.Lib.Split
namespace Go.Proofs.YtiianddblanffaaDoor
open Go.RowKit Go.ChangeShapes
set_option linter.unusedSimpArgs false
set_option linter.unusedVariables false
set_option maxRecDepth 100000

/-- The library's variable MaxLen holds some number. -/
def ML (w : World) : Prop := ∃ m, w.cell? ⟨0, 0, none⟩ = some (.int .i64 m)

theorem ML.up {w w' : World} (h : ML w) (hb : Below w.heap.size w w') : ML w' := by
  obtain ⟨m, hm⟩ := h
  exact ⟨m, by rw [hb.cell (World.block_lt_of_cell? _ _ hm)]; exact hm⟩

theorem splitB_parts (s : ByteArray) (n : Nat) : Lib.splitB ⟨#[32]⟩ 0 (min n (s.size + 1) - 1) s = wB (partsP s.data.toList n) := by
  have h := Lib.splitB_data ⟨#[32]⟩ 0 (min n (s.size + 1) - 1) s
  have hs : s.data.toList.length = s.size := by simp
  have e : partsP s.data.toList n = (Lib.splitB ⟨#[32]⟩ 0 (min n (s.size + 1) - 1) s).map (·.data.toList) := by
    rw [h]; unfold partsP; rw [hs]
  rw [e]
  unfold wB
  rw [List.map_map]
  conv => lhs; rw [← List.map_id (Lib.splitB ⟨#[32]⟩ 0 (min n (s.size + 1) - 1) s)]
  apply List.map_congr_left
  intro x _
  simp [Function.comp]

/-- Words in a block of the call's own, as SplitN leaves them. -/
def RetW (w : World) (ws : List (List UInt8)) (e : Ending) (w' : World) : Prop := ∃ cap, e = .returned (.slice (some ⟨w.heap.size, 0, none⟩) ws.length cap) ∧ (∀ j (h : j < ws.length), w'.cell? ⟨w.heap.size, j, none⟩ = some (.string ⟨ws[j].toArray⟩)) ∧ w.heap.size < w'.heap.size ∧ Below w.heap.size w w'

theorem splitN_any (s : ByteArray) (n : Nat) (w : World) (hm : ML w) (hs : s.size ≤ 1048576) (h1 : 1 ≤ n) (h2 : n ≤ 1048577) :
    Calls Tryd.prog 48 #[.string s, .string ⟨#[32]⟩, .int .i64 n] w (RetW w (partsP s.data.toList n)) := by
  obtain ⟨m, hm⟩ := hm
  refine (Tryd.strings_SplitN s ⟨#[32]⟩ n m w (by omega) hm (by decide) h1 (by omega)).mono ?_
  rintro e w' ⟨rfl, rfl⟩
  have hl : (partsP s.data.toList n).length ≤ min n (s.size + 1) := by
    have := Lib.splitB_length_le ⟨#[32]⟩ 0 (min n (s.size + 1) - 1) s
    rw [splitB_parts, wB_length] at this
    omega
  rw [splitB_parts, wB_length]
  refine ⟨_, rfl, fun j hj => ?_, by rw [alloc_size]; omega, (Below.refl _ _).alloc (Nat.le_refl _) _⟩
  rw [cell_new]
  unfold Lib.cellsOf
  rw [List.getElem?_toArray, List.getElem?_append_left (by simp [wB_length, hj])]
  simp [wB, hj]

theorem clone_str (s : ByteArray) (w : World) (hs : s.size ≤ 281474976710656) :
    Calls Tryd.prog 49 #[.string s] w fun e w' => e = .returned (.string s) ∧ Below w.heap.size w w' := by
  have H := hide (Tryd.stringslite_Clone s w hs)
  go_enter Tryd.func49, Tryd.ntmps49
  go_wp2_with (go_at_call 65; refine H.out.mono ?_; rintro e wa ⟨rfl, ha⟩)
  go_ret
  exact ⟨rfl, ha⟩

theorem rowE_zero (w : World) : ∀ n, rowE colE w (List.replicate n (⟨#[]⟩, [])) (List.replicate n [Value.string ⟨#[]⟩, Value.slice none 0 0]).flatten [] := by
  intro n
  induction n with
  | zero => exact ⟨rfl, rfl⟩
  | succ n ih =>
    refine ⟨[.string ⟨#[]⟩, .slice none 0 0], (List.replicate n [Value.string ⟨#[]⟩, Value.slice none 0 0]).flatten, [], [], by simp [List.replicate_succ], rfl, ⟨.slice none 0 0, rfl, World.ownsRow_nil _ _ _ _, rfl⟩, ih⟩

theorem made_cols (n : Nat) : (madeCells (Value.agg #[.string ⟨#[]⟩, .slice none 0 0]).cells (n * 2)).toList = (List.replicate n [Value.string ⟨#[]⟩, Value.slice none 0 0]).flatten := by
  apply List.ext_getElem?
  intro j
  simp only [madeCells, Value.cells]
  by_cases hj : j < n * 2
  · have h2 : (List.replicate n [Value.string ⟨#[]⟩, Value.slice none 0 0]).flatten[j]? = [Value.string ⟨#[]⟩, Value.slice none 0 0][j % 2]? := by
      induction n generalizing j with
      | zero => omega
      | succ n ih =>
        rw [List.replicate_succ, List.flatten_cons]
        by_cases h : j < 2
        · rw [List.getElem?_append_left (by simpa using h), Nat.mod_eq_of_lt h]
        · rw [List.getElem?_append_right (by simp; omega), show j - [Value.string ⟨#[]⟩, Value.slice none 0 0].length = j - 2 from rfl, ih (j - 2) (by omega)]
          congr 1
          omega
    rw [h2]
    have hm : j % 2 < 2 := Nat.mod_lt _ (by omega)
    simp [hj]
    have : j % 2 = 0 ∨ j % 2 = 1 := by omega
    rcases this with e | e <;> simp [e]
  · rw [List.getElem?_eq_none (by simp; omega), List.getElem?_eq_none (by simp; omega)]

theorem rowE_emptyF {w : World} : ∀ (ds : List Col) (c : List Value), rowE colE w ds c [] → rowE colE w ds c [] := fun _ _ h => h

theorem mixN_at (ns : List (List UInt8)) (k : Nat) (h : k < ns.length) : ((nameC ns).take k ++ List.replicate (ns.length - k) ((⟨#[]⟩ : ByteArray), ([] : List Int)))[k]'(by simp [nameC]; omega) = (⟨#[]⟩, []) := by
  rw [List.getElem_append_right (by simp [nameC]; omega)]
  simp

theorem nameC_get (ns : List (List UInt8)) (k : Nat) (h : k < ns.length) : (nameC ns)[k]'(by simpa [nameC] using h) = (⟨ns[k].toArray⟩, []) := by simp [nameC]

set_option maxHeartbeats 2000000 in
theorem tabN_any (s : ByteArray) (w : World) (hm : ML w) (hs : s.size ≤ 1048576) :
    Calls Tryd.prog 29 #[.string s] w (RetOT w (nameC (partsP s.data.toList 5))) := by
  obtain ⟨i0, hi0, hz0, hz1, hz2⟩ := info_parts infoC
  have HI := hide hi0
  have HZ := hide hz0
  have HZ1 := hide hz1
  have HZ2 := hide hz2
  clear hi0 hz0 hz1 hz2
  have hpl := (splitK_join 32 (min 5 (s.data.toList.length + 1) - 1) s.data.toList)
  have hlen5 : (partsP s.data.toList 5).length ≤ 5 := by
    have := Lib.splitB_length_le ⟨#[32]⟩ 0 (min 5 (s.size + 1) - 1) s
    rw [splitB_parts, wB_length] at this
    omega
  have hw5 : ∀ x ∈ partsP s.data.toList 5, x.length ≤ 1048576 := by
    have hj : Lib.join (partsP s.data.toList 5) [32] = s.data.toList := hpl.2
    have hsz : s.data.toList.length ≤ 1048576 := by simpa using hs
    rw [← hj] at hsz
    have key : ∀ (ws : List (List UInt8)), ∀ x ∈ ws, x.length ≤ (Lib.join ws [32]).length := by
      intro ws
      induction ws with
      | nil => simp
      | cons v vs ih =>
        intro x hx
        cases vs with
        | nil => rw [Lib.join_one]; simp at hx; subst hx; exact Nat.le_refl _
        | cons u us =>
          have e : Lib.join (v :: u :: us) [32] = v ++ 32 :: Lib.join (u :: us) [32] := by
            rw [Lib.join_cons, Lib.join_cons]
            simp [Lib.joinTail]
          rw [e, List.length_append, List.length_cons]
          rcases List.mem_cons.1 hx with rfl | hx
          · omega
          · have := ih x hx; omega
    intro x hx
    have := key _ x hx
    omega
  obtain ⟨ns, hns⟩ : ∃ ns, ns = partsP s.data.toList 5 := ⟨_, rfl⟩
  have HS := hide (fun (W : World) (h : ML W) => splitN_any s 5 W h hs (by omega) (by omega))
  rw [← hns] at HS hlen5 hw5 ⊢
  have HW5 := hide hw5
  clear hns hpl hw5
  have hb1 := (Below.refl w.heap.size w).alloc (Nat.le_refl _) (.cells #[.slice none 0 0] 29)
  have ML1 := hide (hm.up hb1)
  have C1 := hide (show (w.alloc (.cells #[.slice none 0 0] 29)).cell? ⟨w.heap.size, 0, none⟩ = some (.slice none 0 0) from cell_new w _ _ 0)
  have F1 := hide (froz_new w #[.slice none 0 0] 29 0)
  have Z1 := hide (alloc_size w (.cells #[.slice none 0 0] 29))
  have B1 := hide hb1
  clear hb1 hm
  go_enter Tryd.func29, Tryd.ntmps29
  go_wp2_with fail
  obtain ⟨w1, hw1⟩ : ∃ w1, w1 = w.alloc (.cells #[.slice none 0 0] 29) := ⟨_, rfl⟩
  rw [← hw1] at ML1 C1 F1 Z1 B1 ⊢
  clear hw1
  go_at_call 48
  refine (HS.out w1 ML1.out).mono ?_
  rintro e w2 ⟨cap2, rfl, hc2, hs2, hb2⟩
  have C2 := hide hc2
  have B2 := hide hb2
  obtain ⟨g1, hg1⟩ : ∃ g1, g1 = w1.heap.size := ⟨_, rfl⟩
  rw [← hg1] at C2 hs2
  try rw [← hg1]
  have S2 := hide hs2
  have G1 := hide hg1
  clear hc2 hb2 hs2 hg1
  go_wp2_with (first | (at_make; refine wpList_make_full _ rfl _ _ 27 rfl w2.heap.size 42 i0 _ 2 Tryd.underlying27 HI.out HZ.out HZ1.out .i64 .i64 _ _ ns.length rfl rfl rfl rfl (by rw [HZ2.out]; omega) (by unfold maxLen; omega) (Nat.le_refl _) ?_; intro w3 hown3 hgrow3))
  have hb3 := (Below.refl w2.heap.size w2).grown hgrow3 (Nat.le_refl _) (fun k hk => by cases hk)
  have hs3 : w2.heap.size < w3.heap.size := (World.ownsRow.lt hown3 w2.heap.size (by simp [Value.ownBlock])).2
  rw [made_cols] at hown3
  obtain ⟨g, hg⟩ : ∃ g, g = w2.heap.size := ⟨_, rfl⟩
  rw [← hg] at hown3
  try rw [← hg]
  have hE : colsE w3 (.slice (some ⟨g, 0, none⟩) ns.length ns.length) (List.replicate ns.length (⟨#[]⟩, [])) [g] :=
    .inr ⟨g, ns.length, _, [], by rw [List.length_replicate], by rw [List.length_replicate]; exact owns_zero hown3, rowE_zero w3 _, rfl, by simp⟩
  have HE := hide hE
  have HG := hide (show g1 < g ∧ w.heap.size < g1 by have := S2.out; have := Z1.out; have := G1.out; omega)
  have B3 := hide (B2.out.trans (hb3.mono B2.out.size))
  have B23 := hide (show Below g w2 w3 by rw [hg]; exact hb3)
  have G2 := hide (show g < w3.heap.size by rw [hg]; exact hs3)
  clear hown3 hgrow3 hb3 hs3 hE hg
  go_loopw [14] (fun i wr => ∃ (k : Nat), k ≤ ns.length ∧ i = .int .i64 k ∧ Hid (colsE wr (.slice (some ⟨g, 0, none⟩) ns.length ns.length) ((nameC ns).take k ++ List.replicate (ns.length - k) (⟨#[]⟩, [])) [g]) ∧ Hid (Below w1.heap.size w1 wr) ∧ Hid (Below g w3 wr)) (fun i _ => ns.length - (intOf i).toNat)
  case atStart => exact ⟨0, by omega, rfl, by show colsE _ _ _ _; simpa using HE.out, B3.out, Below.refl _ _⟩
  case round =>
    clear HE
    obtain ⟨k, hk, rfl, ho, hb, hbg⟩ := hrel
    by_cases hlt : k < ns.length
    · have hwl := HW5.out _ (List.getElem_mem hlt)
      obtain ⟨n, hn⟩ : ∃ n, n = (⟨ns[k].toArray⟩ : ByteArray) := ⟨_, rfl⟩
      have hns : n.size ≤ 1048576 := by rw [hn]; simpa [ByteArray.size] using hwl
      have ck : wr.cell? ⟨g1, k, none⟩ = some (.string n) := by
        rw [hbg.out.cell (p := ⟨g1, k, none⟩) HG.out.1, B23.out.cell (p := ⟨g1, k, none⟩) HG.out.1, hn]
        exact C2.out k hlt
      have HN := hide hn
      clear hwl hn
      go_wp2_with fail
      go_at_call 49
      refine (clone_str n wr (by omega)).mono ?_
      rintro e w5 ⟨rfl, hb5⟩
      have hlm : k < ((nameC ns).take k ++ List.replicate (ns.length - k) ((⟨#[]⟩ : ByteArray), ([] : List Int))).length := by simp [nameC]; omega
      obtain ⟨g', cap', c, Fj, hv, hgF, hgs, hgj, hsub, hE, hcl, hcell, hfro, hput, hsto⟩ := slE.at colE_good (slE.below colE_good ho.out hb5) k hlm
      obtain rfl : g = g' := by
        simp only [Value.slice.injEq, Option.some.injEq, Addr.mk.injEq, and_true] at hv
        exact hv.1
      rw [mixN_at ns k hlt] at hE
      obtain ⟨u, rfl, hoi⟩ := hE
      have c0 := hcell 0 (by omega)
      simp only [Nat.add_zero, List.getElem?_cons_zero] at c0
      have f0 := hfro (k * 2)
      have S2 := hide (hsto 0 (.string n) (n, []) (by omega) ⟨u, rfl, hoi.only (Only.setCell (F := [g]) (Only.refl _ _) (by simp) _) (fun b hb hbg => by simp at hbg; subst hbg; exact hgj hb)⟩)
      have W5 := hide (hb.out.trans (hb5.mono hb.out.size))
      have V5 := hide (hbg.out.trans (hb5.mono (Nat.le_trans (Nat.le_of_lt G2.out) hbg.out.size)))
      clear hv hcell hfro hput hsto hoi hb5 hcl hgj hsub hlm ck
      go_wp2_with fail
      go_roundw
      case rel =>
        refine ⟨k + 1, by omega, by go_num, ?_, W5.out.setCell (p := ⟨g, k * 2, none⟩) (by rw [← G1.out]; exact Nat.le_of_lt HG.out.1) _, V5.out.setCell (p := ⟨g, k * 2, none⟩) (Nat.le_refl _) _⟩
        have hl : (nameC ns).length = ns.length := by simp [nameC]
        have ht := take_setG ((⟨#[]⟩, []) : Col) (nameC ns) ((nameC ns).take k ++ List.replicate (ns.length - k) ((⟨#[]⟩ : ByteArray), ([] : List Int))) k (by omega) (by rw [hl])
        rw [nameC_get ns k hlt, ← HN.out] at ht
        rw [hl] at ht
        show colsE _ _ _ _
        rw [← ht]
        exact S2.out
      case measure => simp [intOf]; omega
    · have hke : k = ns.length := by omega
      have hHE : Hid (colsE wr (.slice (some ⟨g, 0, none⟩) ns.length ns.length) (nameC ns) [g]) := by
        have h := ho.out
        rw [hke, List.take_of_length_le (by simp [nameC])] at h
        have h2 : colsE wr (.slice (some ⟨g, 0, none⟩) ns.length ns.length) (nameC ns) [g] := by simpa using h
        exact h2
      have HBW := hide (B1.out.trans (hb.out.mono (by rw [Z1.out]; omega)))
      have c1 : wr.cell? ⟨w.heap.size, 0, none⟩ = some (.slice none 0 0) := by rw [hb.out.cell (p := ⟨w.heap.size, 0, none⟩) (by show w.heap.size < _; rw [Z1.out]; omega)]; exact C1.out
      have f1 : wr.frozen? ⟨w.heap.size, 0, none⟩ = false := by rw [hb.out.frozen (p := ⟨w.heap.size, 0, none⟩) (by show w.heap.size < _; rw [Z1.out]; omega)]; exact F1.out
      clear hke
      go_wp2_with fail
      have hl : (nameC ns).length = ns.length := by simp [nameC]
      have o3 : Only [w.heap.size] wr (wr.setCell ⟨w.heap.size, 0, none⟩ (.slice (some ⟨g, 0, none⟩) ns.length ns.length)) := (Only.refl _ _).setCell (by simp) _
      exact bodyPost_ret (v := .agg #[.slice (some ⟨g, 0, none⟩) ns.length ns.length]) (by simp [results, Tryd.results29, go_sem, c1]) rfl ⟨some ⟨g, 0, none⟩, ns.length, [g], by rw [hl], by rw [hl]; exact slE.only colE_good hHE.out o3 (fun b hb => by simp at hb ⊢; have := HG.out; omega), fun b hb => by simp at hb; have := HG.out; omega, HBW.out.setCell (p := ⟨w.heap.size, 0, none⟩) (Nat.le_refl _) _⟩

end Go.Proofs.YtiianddblanffaaDoor
