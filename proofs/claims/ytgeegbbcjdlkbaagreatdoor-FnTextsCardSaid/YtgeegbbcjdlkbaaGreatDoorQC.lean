/- Several texts in one: ColApp, TabN, AddRow, Lines, Last, ParI. -/
import Derived.Test.YtgeegbbcjdlkbaaGreatDoorOwnCol
import Derived.Deep.DrawnRows
import Derived.Deep.AppendLies
import Derived.Test.YtgeegbbcjdlkbaaGreatDoorCutS
import Derived.Test.YtgeegbbcjdlkbaaGreatDoorMl
import Derived.Lib.Split
import Derived.Test.YtgeegbbcjdlkbaaGreatDoorIter
import Derived.Shelf.RegionOpen
import Derived.Deep.RegionHeld3
import Derived.StillTail
/- Appending to a row of columns, and to one column's values, of the call's own. -/
namespace Go.Proofs.YtgeegbbcjdlkbaaGreatDoor
open Go.RowKit Go.ChangeShapes
set_option linter.unusedSimpArgs false
set_option linter.unusedVariables false
set_option maxRecDepth 100000

theorem slE.nodup {D : Type} {t : TypeId} {z : Nat} {E : Pr D} {w : World} {v : Value} {ds : List D} {F : List Nat} (h : slE t z E w v ds F) : F.Nodup := by
  rcases h with ⟨_, _, rfl⟩ | ⟨g, cap, xs, F', _, _, _, _, h5⟩
  · simp
  · exact h5

theorem oi_nil (w : World) : OI w 3 (.slice none 0 0) [] [] := ⟨World.ownsRow_nil _ _ _ _, rfl⟩

theorem colsE_row {w : World} {v : Value} {cs : List Col} {F : List Nat} (h : colsE w v cs F) : ∃ xs F', w.ownsRow 0 58 2 v cs.length xs ∧ rowE colE w cs xs F' ∧ F = v.ownBlock.toList ++ F' ∧ F.Nodup := by
  rcases h with ⟨rfl, rfl, rfl⟩ | ⟨g, cap, xs, F', rfl, h2, h3, rfl, h5⟩
  · exact ⟨[], [], ⟨by simp, .inl ⟨rfl, rfl⟩⟩, ⟨rfl, rfl⟩, rfl, by simp⟩
  · exact ⟨xs, F', h2, h3, rfl, h5⟩

/-- append(t.Columns, Column{..}) at a step of a region that draws its order. -/
theorem step_cols {ops : Array Oper} {o : Oper} {a : Act} {K : Act → World → Prop} {Q : Exit → Act → World → Prop} {E : Prop} (W : World) (hgd : o.guard = none) (s x : Operand)
    (ho : o.op = .call { callee := .builtin .append, args := #[s, x], argTypes := #[24, 24] })
    (v : Value) (cs : List Col) (F : List Nat) (hs : a.eval s = v) (hown : colsE W v cs F) (b : ByteArray) (H c : Nat)
    (hx : a.eval x = .slice (some ⟨H, 0, none⟩) 1 c) (hH : W.heap[H]? = some (.cells #[.string b, .slice none 0 0] 58 (0, 0))) (hlen : cs.length < 1099511627776)
    (h : ∀ g cap F' w', colsE w' (.slice (some ⟨g, 0, none⟩) (cs.length + 1) cap) (cs ++ [(b, [])]) F' → (∀ b ∈ F', b ∈ F ∨ W.heap.size ≤ b) → Only F W w' → K (a.put o.dst (.slice (some ⟨g, 0, none⟩) (cs.length + 1) cap)) w') :
    if Region.wanted o (yielded ops a.tmps) = true then Oper.wp Tryz.prog o a W K Q else E := by
  obtain ⟨i0, hi, hz0, hz1, hz2⟩ := info_parts infoC
  obtain ⟨xs, F0, h2, h3, hF, h5⟩ := colsE_row hown
  refine step_append_lies W hgd s x 24 ho 0 58 i0 _ 2 40 Tryz.underlying24 hi hz0 hz1 hz2 rfl (by decide) v cs.length xs hs h2 ⟨H, 0, none⟩ 1 c [.string b, .slice none 0 0] hx rfl
    (World.news_of_block (cs := #[.string b, .slice none 0 0]) hH) (by simp [Value.oneCell']) (by omega) (by unfold maxLen; omega) (by omega) (Nat.zero_le _) W.heap.size rfl ?_
  intro g cap w' hown' hgrow hat hlt
  have hsub : ∀ b ∈ F0, b ∈ F := fun b hb => by rw [hF]; simp [hb]
  have hkeep : ∀ b ∈ F0, w'.heap[b]? = W.heap[b]? := fun b hb => hgrow.block b (rowE_lt colE_good _ _ _ h3 b hb) (fun e => by
    rw [hF, ← e] at h5
    simp at h5
    exact h5.1 hb)
  refine h g cap (g :: F0) w' (.inr ⟨g, cap, xs ++ [.string b, .slice none 0 0], F0, by simp, by simpa using hown', ?_, rfl, ?_⟩) ?_ ?_
  · exact (rowE_append _ _ _ _).2 ⟨xs, [.string b, .slice none 0 0], F0, [], rfl, by simp, rowE_kept colE_good _ _ _ h3 hkeep, [.string b, .slice none 0 0], [], [], [], by simp, by simp, ⟨_, rfl, oi_nil w'⟩, rfl, rfl⟩
  · rcases hat with hat | rfl
    · rw [hF, hat] at h5
      simpa using h5
    · rw [List.nodup_cons]
      refine ⟨fun hh => ?_, ?_⟩
      · have := rowE_lt colE_good _ _ _ h3 _ hh
        omega
      · rw [hF] at h5
        exact (List.nodup_append.1 h5).2.1
  · intro b hb
    rcases List.mem_cons.1 hb with rfl | hb
    · rcases hat with hat | rfl
      · left; rw [hF, hat]; simp
      · right; exact Nat.le_refl _
    · exact .inl (hsub b hb)
  · exact ⟨⟨hgrow.os, hgrow.tape, hgrow.output, hgrow.size, fun k hk => absurd hk (Nat.not_lt_zero k)⟩, fun k hk hn => hgrow.block k hk (fun ek => hn (by rw [hF, ← ek]; simp))⟩

/-- append(t.Columns[i].Values, x) at such a step. -/
theorem step_oi {ops : Array Oper} {o : Oper} {a : Act} {K : Act → World → Prop} {Q : Exit → Act → World → Prop} {E : Prop} (W : World) (hgd : o.guard = none) (s x : Operand)
    (ho : o.op = .call { callee := .builtin .append, args := #[s, x], argTypes := #[47, 47] })
    (v : Value) (l : List Int) (F : List Nat) (hs : a.eval s = v) (hown : OI W 3 v l F) (b : Int) (H c : Nat)
    (hx : a.eval x = .slice (some ⟨H, 0, none⟩) 1 c) (hH : W.heap[H]? = some (.cells #[.int .i64 b] 3 (0, 0))) (hlen : l.length < 1099511627776)
    (h : ∀ g cap w', OI w' 3 (.slice (some ⟨g, 0, none⟩) (l.length + 1) cap) (l ++ [b]) [g] → (g ∈ F ∨ W.heap.size ≤ g) → Only F W w' → K (a.put o.dst (.slice (some ⟨g, 0, none⟩) (l.length + 1) cap)) w') :
    if Region.wanted o (yielded ops a.tmps) = true then Oper.wp Tryz.prog o a W K Q else E := by
  obtain ⟨i0, hi, hz0, hz1, hz2⟩ := info_parts infoI
  have hF : F = v.ownBlock.toList := hown.2
  refine step_append_lies W hgd s x 47 ho 0 3 i0 _ 1 8 Tryz.underlying47 hi hz0 hz1 hz2 rfl (by decide) v l.length (intVs l) hs hown.1 ⟨H, 0, none⟩ 1 c [.int .i64 b] hx rfl
    (World.news_of_block (cs := #[.int .i64 b]) hH) (by simp [Value.oneCell']) (by omega) (by unfold maxLen; omega) (by omega) (Nat.zero_le _) W.heap.size rfl ?_
  intro g cap w' hown' hgrow hat hlt
  refine h g cap w' ⟨?_, rfl⟩ ?_ ⟨⟨hgrow.os, hgrow.tape, hgrow.output, hgrow.size, fun k hk => absurd hk (Nat.not_lt_zero k)⟩, fun k hk hn => hgrow.block k hk (fun ek => hn (by rw [hF, ← ek]; simp))⟩
  · unfold Is
    have e1 : intVs (l ++ [b]) = intVs l ++ [.int .i64 b] := by simp [intVs]
    rw [e1, List.length_append]
    exact hown'
  · rcases hat with hat | rfl
    · left; rw [hF, hat]; simp
    · right; exact Nat.le_refl _

/-- Column k's values, and what an append to them with the store behind it makes of the row. -/
theorem col_app {W : World} {v : Value} {cs : List Col} {F : List Nat} (h : colsE W v cs F) (k : Nat) (hk : k < cs.length) :
    ∃ g cap au capu Fj, v = .slice (some ⟨g, 0, none⟩) cs.length cap ∧ g < W.heap.size ∧ g ∈ F ∧ g ∉ Fj ∧ (∀ b ∈ Fj, b ∈ F) ∧ W.cell? ⟨g, k * 2 + 1, none⟩ = some (.slice au cs[k].2.length capu) ∧ (∀ o, W.frozen? ⟨g, o, none⟩ = false) ∧ OI W 3 (.slice au cs[k].2.length capu) cs[k].2 Fj ∧
      ∀ (w6 : World) (g' capx : Nat) (x : Int), OI w6 3 (.slice (some ⟨g', 0, none⟩) (cs[k].2.length + 1) capx) (cs[k].2 ++ [x]) [g'] → (g' ∈ Fj ∨ W.heap.size ≤ g') → Only Fj W w6 →
        ∃ F', colsE (w6.setCell ⟨g, k * 2 + 1, none⟩ (.slice (some ⟨g', 0, none⟩) (cs[k].2.length + 1) capx)) v (cs.set k (cs[k].1, cs[k].2 ++ [x])) F' ∧ ∀ b ∈ F', b ∈ F ∨ W.heap.size ≤ b := by
  have hnd := slE.nodup h
  have hlt := slE.lt colE_good h
  obtain ⟨g, cap, c, Fj, FA, FB, hv, hFeq, hgs, hgj, hE, hcl, hcell, hfro, hswap⟩ := slE.swap colE_good h k hk
  obtain ⟨u, rfl, hoi⟩ := hE
  have hcc := hcell 1 (by omega)
  simp only [List.getElem?_cons_zero, List.getElem?_cons_succ] at hcc
  obtain ⟨au, capu, rfl, -⟩ := hoi.form
  have hgF : g ∈ F := by rw [hFeq]; simp
  have hjF : ∀ b ∈ Fj, b ∈ F := fun b hb => by rw [hFeq]; simp [hb]
  refine ⟨g, cap, au, capu, Fj, hv, hgs, hgF, hgj, hjF, hcc, hfro, hoi, fun w6 g' capx x ho6 hg6 hw6 => ?_⟩
  have hne : g' ≠ g := by
    rintro rfl
    rcases hg6 with hh | hh
    · exact hgj hh
    · omega
  have o7 : OI (w6.setCell ⟨g, k * 2 + 1, none⟩ (.slice (some ⟨g', 0, none⟩) (cs[k].2.length + 1) capx)) 3 (.slice (some ⟨g', 0, none⟩) (cs[k].2.length + 1) capx) (cs[k].2 ++ [x]) [g'] :=
    ho6.only (Only.setCell (F := [g]) (Only.refl _ _) (by simp) _) (fun b hb hbg => by simp at hb hbg; omega)
  have hdis : ∀ b ∈ [g'], b ∉ g :: (FA ++ FB) := by
    intro b hb hh
    simp at hb
    subst hb
    rcases hg6 with hj | hj
    · rw [hFeq, List.nodup_cons, List.nodup_append, List.nodup_append] at hnd
      obtain ⟨-, -, ⟨-, -, hd1⟩, hd2⟩ := hnd
      rcases List.mem_cons.1 hh with hh | hh
      · exact hne hh
      · rcases List.mem_append.1 hh with hh | hh
        · exact hd2 _ hh _ (by simp [hj]) rfl
        · exact hd1 _ hj _ hh rfl
    · have : b ∈ F := by
        rw [hFeq]
        rcases List.mem_cons.1 hh with hh | hh
        · simp [hh]
        · rcases List.mem_append.1 hh with hh | hh <;> simp [hh]
      have := hlt b this
      omega
  refine ⟨_, hswap w6 1 _ (cs[k].1, cs[k].2 ++ [x]) [g'] hw6 (by omega) ⟨_, rfl, o7⟩ hdis (by simp), fun b hb => ?_⟩
  rcases List.mem_cons.1 hb with rfl | hb
  · exact .inl hgF
  · rcases List.mem_append.1 hb with hb | hb
    · exact .inl (by rw [hFeq]; simp [hb])
    · rcases List.mem_append.1 hb with hb | hb
      · simp at hb
        subst hb
        rcases hg6 with hj | hj
        · exact .inl (hjF _ hj)
        · exact .inr hj
      · exact .inl (by rw [hFeq]; simp [hb])

end Go.Proofs.YtgeegbbcjdlkbaaGreatDoor

/- The program's tableWithNames; strings.SplitN and strings.Clone as they are called. -/
namespace Go.Proofs.YtgeegbbcjdlkbaaGreatDoor
open Go.RowKit Go.ChangeShapes
set_option linter.unusedSimpArgs false
set_option linter.unusedVariables false
set_option maxRecDepth 100000

theorem splitB_parts (s : ByteArray) (n : Nat) : Lib.splitB ⟨#[32]⟩ 0 (min n (s.size + 1) - 1) s = wB (partsP s.data.toList n) := by
  have h := Lib.splitB_data ⟨#[32]⟩ 0 (min n (s.size + 1) - 1) s
  have hs : s.data.toList.length = s.size := by simp
  have e : partsP s.data.toList n = (Lib.splitB ⟨#[32]⟩ 0 (min n (s.size + 1) - 1) s).map (·.data.toList) := by
    rw [h]; unfold partsP; rw [hs]
  rw [e]
  unfold wB
  rw [List.map_map]
  conv => lhs; rw [← List.map_id (Lib.splitB ⟨#[32]⟩ 0 (min n (s.size + 1) - 1) s)]
  apply List.map_congr_left
  intro x _
  simp [Function.comp]

/-- Words in a block of the call's own, as SplitN leaves them. -/
def RetW (w : World) (ws : List (List UInt8)) (e : Ending) (w' : World) : Prop := ∃ cap, e = .returned (.slice (some ⟨w.heap.size, 0, none⟩) ws.length cap) ∧ (∀ j (h : j < ws.length), w'.cell? ⟨w.heap.size, j, none⟩ = some (.string ⟨ws[j].toArray⟩)) ∧ w.heap.size < w'.heap.size ∧ Below w.heap.size w w'

theorem splitN_any (s : ByteArray) (n : Nat) (w : World) (hm : ML w) (hs : s.size ≤ 1048576) (h1 : 1 ≤ n) (h2 : n ≤ 1048577) :
    Calls Tryz.prog 58 #[.string s, .string ⟨#[32]⟩, .int .i64 n] w (RetW w (partsP s.data.toList n)) := by
  obtain ⟨m, hm⟩ := hm
  refine (Tryz.strings_SplitN s ⟨#[32]⟩ n m w (by omega) hm (by decide) h1 (by omega)).mono ?_
  rintro e w' ⟨rfl, rfl⟩
  have hl : (partsP s.data.toList n).length ≤ min n (s.size + 1) := by
    have := Lib.splitB_length_le ⟨#[32]⟩ 0 (min n (s.size + 1) - 1) s
    rw [splitB_parts, wB_length] at this
    omega
  rw [splitB_parts, wB_length]
  refine ⟨_, rfl, fun j hj => ?_, by rw [alloc_size]; omega, (Below.refl _ _).alloc (Nat.le_refl _) _⟩
  rw [cell_new]
  unfold Lib.cellsOf
  rw [List.getElem?_toArray, List.getElem?_append_left (by simp [wB_length, hj])]
  simp [wB, hj]

theorem clone_str (s : ByteArray) (w : World) (hs : s.size ≤ 281474976710656) :
    Calls Tryz.prog 59 #[.string s] w fun e w' => e = .returned (.string s) ∧ Below w.heap.size w w' := by
  have H := hide (Tryz.stringslite_Clone s w hs)
  go_enter Tryz.func59, Tryz.ntmps59
  go_wp2_with (go_at_call 72; refine H.out.mono ?_; rintro e wa ⟨rfl, ha⟩)
  go_ret
  exact ⟨rfl, ha⟩

theorem rowE_zero (w : World) : ∀ n, rowE colE w (List.replicate n (⟨#[]⟩, [])) (List.replicate n [Value.string ⟨#[]⟩, Value.slice none 0 0]).flatten [] := by
  intro n
  induction n with
  | zero => exact ⟨rfl, rfl⟩
  | succ n ih =>
    refine ⟨[.string ⟨#[]⟩, .slice none 0 0], (List.replicate n [Value.string ⟨#[]⟩, Value.slice none 0 0]).flatten, [], [], by simp [List.replicate_succ], rfl, ⟨.slice none 0 0, rfl, World.ownsRow_nil _ _ _ _, rfl⟩, ih⟩

theorem made_cols (n : Nat) : (madeCells (Value.agg #[.string ⟨#[]⟩, .slice none 0 0]).cells (n * 2)).toList = (List.replicate n [Value.string ⟨#[]⟩, Value.slice none 0 0]).flatten := by
  apply List.ext_getElem?
  intro j
  simp only [madeCells, Value.cells]
  by_cases hj : j < n * 2
  · have h2 : (List.replicate n [Value.string ⟨#[]⟩, Value.slice none 0 0]).flatten[j]? = [Value.string ⟨#[]⟩, Value.slice none 0 0][j % 2]? := by
      induction n generalizing j with
      | zero => omega
      | succ n ih =>
        rw [List.replicate_succ, List.flatten_cons]
        by_cases h : j < 2
        · rw [List.getElem?_append_left (by simpa using h), Nat.mod_eq_of_lt h]
        · rw [List.getElem?_append_right (by simp; omega), show j - [Value.string ⟨#[]⟩, Value.slice none 0 0].length = j - 2 from rfl, ih (j - 2) (by omega)]
          congr 1
          omega
    rw [h2]
    have hm : j % 2 < 2 := Nat.mod_lt _ (by omega)
    simp [hj]
    have : j % 2 = 0 ∨ j % 2 = 1 := by omega
    rcases this with e | e <;> simp [e]
  · rw [List.getElem?_eq_none (by simp; omega), List.getElem?_eq_none (by simp; omega)]

theorem rowE_emptyF {w : World} : ∀ (ds : List Col) (c : List Value), rowE colE w ds c [] → rowE colE w ds c [] := fun _ _ h => h

theorem mixN_at (ns : List (List UInt8)) (k : Nat) (h : k < ns.length) : ((nameC ns).take k ++ List.replicate (ns.length - k) ((⟨#[]⟩ : ByteArray), ([] : List Int)))[k]'(by simp [nameC]; omega) = (⟨#[]⟩, []) := by
  rw [List.getElem_append_right (by simp [nameC]; omega)]
  simp

theorem nameC_get (ns : List (List UInt8)) (k : Nat) (h : k < ns.length) : (nameC ns)[k]'(by simpa [nameC] using h) = (⟨ns[k].toArray⟩, []) := by simp [nameC]

set_option maxHeartbeats 2000000 in
theorem tabN_any (s : ByteArray) (w : World) (hm : ML w) (hs : s.size ≤ 1048576) :
    Calls Tryz.prog 36 #[.string s] w (RetOT w (nameC (partsP s.data.toList 5))) := by
  obtain ⟨i0, hi0, hz0, hz1, hz2⟩ := info_parts infoC
  have HI := hide hi0
  have HZ := hide hz0
  have HZ1 := hide hz1
  have HZ2 := hide hz2
  clear hi0 hz0 hz1 hz2
  have hpl := (splitK_join 32 (min 5 (s.data.toList.length + 1) - 1) s.data.toList)
  have hlen5 : (partsP s.data.toList 5).length ≤ 5 := by
    have := Lib.splitB_length_le ⟨#[32]⟩ 0 (min 5 (s.size + 1) - 1) s
    rw [splitB_parts, wB_length] at this
    omega
  have hw5 : ∀ x ∈ partsP s.data.toList 5, x.length ≤ 1048576 := by
    have hj : Lib.join (partsP s.data.toList 5) [32] = s.data.toList := hpl.2
    have hsz : s.data.toList.length ≤ 1048576 := by simpa using hs
    rw [← hj] at hsz
    have key : ∀ (ws : List (List UInt8)), ∀ x ∈ ws, x.length ≤ (Lib.join ws [32]).length := by
      intro ws
      induction ws with
      | nil => simp
      | cons v vs ih =>
        intro x hx
        cases vs with
        | nil => rw [Lib.join_one]; simp at hx; subst hx; exact Nat.le_refl _
        | cons u us =>
          have e : Lib.join (v :: u :: us) [32] = v ++ 32 :: Lib.join (u :: us) [32] := by
            rw [Lib.join_cons, Lib.join_cons]
            simp [Lib.joinTail]
          rw [e, List.length_append, List.length_cons]
          rcases List.mem_cons.1 hx with rfl | hx
          · omega
          · have := ih x hx; omega
    intro x hx
    have := key _ x hx
    omega
  obtain ⟨ns, hns⟩ : ∃ ns, ns = partsP s.data.toList 5 := ⟨_, rfl⟩
  have HS := hide (fun (W : World) (h : ML W) => splitN_any s 5 W h hs (by omega) (by omega))
  rw [← hns] at HS hlen5 hw5 ⊢
  have HW5 := hide hw5
  clear hns hpl hw5
  have hb1 := (Below.refl w.heap.size w).alloc (Nat.le_refl _) (.cells #[.slice none 0 0] 26)
  have ML1 := hide (hm.up hb1)
  have C1 := hide (show (w.alloc (.cells #[.slice none 0 0] 26)).cell? ⟨w.heap.size, 0, none⟩ = some (.slice none 0 0) from cell_new w _ _ 0)
  have F1 := hide (froz_new w #[.slice none 0 0] 26 0)
  have Z1 := hide (alloc_size w (.cells #[.slice none 0 0] 26))
  have B1 := hide hb1
  clear hb1 hm
  go_enter Tryz.func36, Tryz.ntmps36
  go_wp2_with fail
  obtain ⟨w1, hw1⟩ : ∃ w1, w1 = w.alloc (.cells #[.slice none 0 0] 26) := ⟨_, rfl⟩
  rw [← hw1] at ML1 C1 F1 Z1 B1 ⊢
  clear hw1
  go_at_call 58
  refine (HS.out w1 ML1.out).mono ?_
  rintro e w2 ⟨cap2, rfl, hc2, hs2, hb2⟩
  have C2 := hide hc2
  have B2 := hide hb2
  obtain ⟨g1, hg1⟩ : ∃ g1, g1 = w1.heap.size := ⟨_, rfl⟩
  rw [← hg1] at C2 hs2
  try rw [← hg1]
  have S2 := hide hs2
  have G1 := hide hg1
  clear hc2 hb2 hs2 hg1
  go_wp2_with (first | (at_make; refine wpList_make_full _ rfl _ _ 24 rfl w2.heap.size 58 i0 _ 2 Tryz.underlying24 HI.out HZ.out HZ1.out .i64 .i64 _ _ ns.length rfl rfl rfl rfl (by rw [HZ2.out]; omega) (by unfold maxLen; omega) (Nat.le_refl _) ?_; intro w3 hown3 hgrow3))
  have hb3 := (Below.refl w2.heap.size w2).grown hgrow3 (Nat.le_refl _) (fun k hk => by cases hk)
  have hs3 : w2.heap.size < w3.heap.size := (World.ownsRow.lt hown3 w2.heap.size (by simp [Value.ownBlock])).2
  rw [made_cols] at hown3
  obtain ⟨g, hg⟩ : ∃ g, g = w2.heap.size := ⟨_, rfl⟩
  rw [← hg] at hown3
  try rw [← hg]
  have hE : colsE w3 (.slice (some ⟨g, 0, none⟩) ns.length ns.length) (List.replicate ns.length (⟨#[]⟩, [])) [g] :=
    .inr ⟨g, ns.length, _, [], by rw [List.length_replicate], by rw [List.length_replicate]; exact owns_zero hown3, rowE_zero w3 _, rfl, by simp⟩
  have HE := hide hE
  have HG := hide (show g1 < g ∧ w.heap.size < g1 by have := S2.out; have := Z1.out; have := G1.out; omega)
  have B3 := hide (B2.out.trans (hb3.mono B2.out.size))
  have B23 := hide (show Below g w2 w3 by rw [hg]; exact hb3)
  have G2 := hide (show g < w3.heap.size by rw [hg]; exact hs3)
  clear hown3 hgrow3 hb3 hs3 hE hg
  go_loopw [14] (fun i wr => ∃ (k : Nat), k ≤ ns.length ∧ i = .int .i64 k ∧ Hid (colsE wr (.slice (some ⟨g, 0, none⟩) ns.length ns.length) ((nameC ns).take k ++ List.replicate (ns.length - k) (⟨#[]⟩, [])) [g]) ∧ Hid (Below w1.heap.size w1 wr) ∧ Hid (Below g w3 wr)) (fun i _ => ns.length - (intOf i).toNat)
  case atStart => exact ⟨0, by omega, rfl, by show colsE _ _ _ _; simpa using HE.out, B3.out, Below.refl _ _⟩
  case round =>
    clear HE
    obtain ⟨k, hk, rfl, ho, hb, hbg⟩ := hrel
    by_cases hlt : k < ns.length
    · have hwl := HW5.out _ (List.getElem_mem hlt)
      obtain ⟨n, hn⟩ : ∃ n, n = (⟨ns[k].toArray⟩ : ByteArray) := ⟨_, rfl⟩
      have hns : n.size ≤ 1048576 := by rw [hn]; simpa [ByteArray.size] using hwl
      have ck : wr.cell? ⟨g1, k, none⟩ = some (.string n) := by
        rw [hbg.out.cell (p := ⟨g1, k, none⟩) HG.out.1, B23.out.cell (p := ⟨g1, k, none⟩) HG.out.1, hn]
        exact C2.out k hlt
      have HN := hide hn
      clear hwl hn
      go_wp2_with fail
      go_at_call 59
      refine (clone_str n wr (by omega)).mono ?_
      rintro e w5 ⟨rfl, hb5⟩
      have hlm : k < ((nameC ns).take k ++ List.replicate (ns.length - k) ((⟨#[]⟩ : ByteArray), ([] : List Int))).length := by simp [nameC]; omega
      obtain ⟨g', cap', c, Fj, hv, hgF, hgs, hgj, hsub, hE, hcl, hcell, hfro, hput, hsto⟩ := slE.at colE_good (slE.below colE_good ho.out hb5) k hlm
      obtain rfl : g = g' := by
        simp only [Value.slice.injEq, Option.some.injEq, Addr.mk.injEq, and_true] at hv
        exact hv.1
      rw [mixN_at ns k hlt] at hE
      obtain ⟨u, rfl, hoi⟩ := hE
      have c0 := hcell 0 (by omega)
      simp only [Nat.add_zero, List.getElem?_cons_zero] at c0
      have f0 := hfro (k * 2)
      have S2 := hide (hsto 0 (.string n) (n, []) (by omega) ⟨u, rfl, hoi.only (Only.setCell (F := [g]) (Only.refl _ _) (by simp) _) (fun b hb hbg => by simp at hbg; subst hbg; exact hgj hb)⟩)
      have W5 := hide (hb.out.trans (hb5.mono hb.out.size))
      have V5 := hide (hbg.out.trans (hb5.mono (Nat.le_trans (Nat.le_of_lt G2.out) hbg.out.size)))
      clear hv hcell hfro hput hsto hoi hb5 hcl hgj hsub hlm ck
      go_wp2_with fail
      go_roundw
      case rel =>
        refine ⟨k + 1, by omega, by go_num, ?_, W5.out.setCell (p := ⟨g, k * 2, none⟩) (by rw [← G1.out]; exact Nat.le_of_lt HG.out.1) _, V5.out.setCell (p := ⟨g, k * 2, none⟩) (Nat.le_refl _) _⟩
        have hl : (nameC ns).length = ns.length := by simp [nameC]
        have ht := take_setG ((⟨#[]⟩, []) : Col) (nameC ns) ((nameC ns).take k ++ List.replicate (ns.length - k) ((⟨#[]⟩ : ByteArray), ([] : List Int))) k (by omega) (by rw [hl])
        rw [nameC_get ns k hlt, ← HN.out] at ht
        rw [hl] at ht
        show colsE _ _ _ _
        rw [← ht]
        exact S2.out
      case measure => simp [intOf]; omega
    · have hke : k = ns.length := by omega
      have hHE : Hid (colsE wr (.slice (some ⟨g, 0, none⟩) ns.length ns.length) (nameC ns) [g]) := by
        have h := ho.out
        rw [hke, List.take_of_length_le (by simp [nameC])] at h
        have h2 : colsE wr (.slice (some ⟨g, 0, none⟩) ns.length ns.length) (nameC ns) [g] := by simpa using h
        exact h2
      have HBW := hide (B1.out.trans (hb.out.mono (by rw [Z1.out]; omega)))
      have c1 : wr.cell? ⟨w.heap.size, 0, none⟩ = some (.slice none 0 0) := by rw [hb.out.cell (p := ⟨w.heap.size, 0, none⟩) (by show w.heap.size < _; rw [Z1.out]; omega)]; exact C1.out
      have f1 : wr.frozen? ⟨w.heap.size, 0, none⟩ = false := by rw [hb.out.frozen (p := ⟨w.heap.size, 0, none⟩) (by show w.heap.size < _; rw [Z1.out]; omega)]; exact F1.out
      clear hke
      go_wp2_with fail
      have hl : (nameC ns).length = ns.length := by simp [nameC]
      have o3 : Only [w.heap.size] wr (wr.setCell ⟨w.heap.size, 0, none⟩ (.slice (some ⟨g, 0, none⟩) ns.length ns.length)) := (Only.refl _ _).setCell (by simp) _
      exact bodyPost_ret (v := .agg #[.slice (some ⟨g, 0, none⟩) ns.length ns.length]) (by simp [results, Tryz.results36, go_sem, c1]) rfl ⟨some ⟨g, 0, none⟩, ns.length, [g], by rw [hl], by rw [hl]; exact slE.only colE_good hHE.out o3 (fun b hb => by simp at hb ⊢; have := HG.out; omega), fun b hb => by simp at hb; have := HG.out; omega, HBW.out.setCell (p := ⟨w.heap.size, 0, none⟩) (Nat.le_refl _) _⟩

end Go.Proofs.YtgeegbbcjdlkbaaGreatDoor

/- The program's addRow. -/
namespace Go.Proofs.YtgeegbbcjdlkbaaGreatDoor
open Go.RowKit Go.ChangeShapes
set_option linter.unusedSimpArgs false
set_option linter.unusedVariables false
set_option maxRecDepth 100000

theorem Only.cell {F : List Nat} {w w' : World} (h : Only F w w') {p : Addr} (hp : p.block < w.heap.size) (hn : p.block ∉ F) : w'.cell? p = w.cell? p := World.cell?_of_block (h.block _ hp hn)

theorem Only.frozen {F : List Nat} {w w' : World} (h : Only F w w') {p : Addr} (hp : p.block < w.heap.size) (hn : p.block ∉ F) : w'.frozen? p = w.frozen? p := World.frozen?_of_block (h.block _ hp hn)

def vsP (ws : List (List UInt8)) : List Int := ws.map fun w => (ParI w).1

theorem addP_ok : ∀ (cs : List Col) (ws : List (List UInt8)), ws.length = cs.length → (∀ w ∈ ws, (ParI w).2 = true) → addP cs ws = some (zapp cs (vsP ws)) := by
  intro cs
  induction cs with
  | nil => intro ws h _; have : ws = [] := List.eq_nil_of_length_eq_zero h; subst this; rfl
  | cons c cs ih =>
    intro ws h hp
    cases ws with
    | nil => simp at h
    | cons w ws =>
      simp only [addP]
      rw [if_pos (hp w (by simp)), ih ws (by simpa using h) (fun x hx => hp x (by simp [hx]))]
      simp [zapp, vsP]

theorem addP_bad : ∀ (cs : List Col) (ws : List (List UInt8)), (∃ w ∈ ws, (ParI w).2 = false) → addP cs ws = none := by
  intro cs
  induction cs with
  | nil =>
    rintro ws ⟨w, hw, _⟩
    cases ws with
    | nil => simp at hw
    | cons v vs => rfl
  | cons c cs ih =>
    rintro ws ⟨w, hw, hp⟩
    cases ws with
    | nil => simp at hw
    | cons v vs =>
      simp only [addP]
      rcases List.mem_cons.1 hw with rfl | hw
      · rw [if_neg (by rw [hp]; simp)]
      · split
        · rw [ih vs ⟨w, hw, hp⟩]; rfl
        · rfl

/-- Columns of which the first k have one value more. -/
def mixA (cs : List Col) (vs : List Int) (k : Nat) : List Col := zapp (cs.take k) (vs.take k) ++ cs.drop k

theorem mixA_length (cs : List Col) (vs : List Int) (k : Nat) (h : vs.length = cs.length) : (mixA cs vs k).length = cs.length := by simp [mixA, zapp, h]; omega

theorem mixA_at (cs : List Col) (vs : List Int) (k : Nat) (h : vs.length = cs.length) (hk : k < cs.length) : (mixA cs vs k)[k]'(by rw [mixA_length cs vs k h]; exact hk) = cs[k] := by
  have e : (zapp (cs.take k) (vs.take k)).length = k := by simp [zapp, h]; omega
  unfold mixA
  rw [List.getElem_append_right (by omega)]
  simp [e]

theorem mixA_set (cs : List Col) (vs : List Int) (k : Nat) (h : vs.length = cs.length) (hk : k < cs.length) : (mixA cs vs k).set k (cs[k].1, cs[k].2 ++ [vs[k]'(by omega)]) = mixA cs vs (k + 1) := by
  have e : (zapp (cs.take k) (vs.take k)).length = k := by simp [zapp, h]; omega
  unfold mixA
  rw [List.set_append_right _ _ (by omega), e, Nat.sub_self, List.drop_eq_getElem_cons hk, List.set_cons_zero]
  have e2 : zapp (cs.take (k + 1)) (vs.take (k + 1)) = zapp (cs.take k) (vs.take k) ++ [(cs[k].1, cs[k].2 ++ [vs[k]'(by omega)])] := by
    unfold zapp
    rw [List.take_succ_eq_append_getElem hk, List.take_succ_eq_append_getElem (show k < vs.length by omega), List.zipWith_append (by simp [h])]
    rfl
  rw [e2, List.append_assoc, List.singleton_append]

theorem mixA_all (cs : List Col) (vs : List Int) (h : vs.length = cs.length) : mixA cs vs cs.length = zapp cs vs := by
  unfold mixA
  rw [List.take_of_length_le (Nat.le_refl _), List.take_of_length_le (by omega), List.drop_of_length_le (Nat.le_refl _), List.append_nil]

theorem mixA_zero (cs : List Col) (vs : List Int) : mixA cs vs 0 = cs := by simp [mixA, zapp]

/-- A row has been added to v's own columns, or not. -/
def RetAdd (F : List Nat) (w : World) (v : Value) (r : Option (List Col)) (e : Ending) (w' : World) : Prop :=
  Only F w w' ∧ match r with
    | some ds => e = .returned (.bool true) ∧ ∃ F', colsE w' v ds F' ∧ ∀ b ∈ F', b ∈ F ∨ w.heap.size ≤ b
    | none => e = .returned (.bool false)

set_option maxHeartbeats 4000000 in
theorem addRow_any (a : Option Addr) (cap : Nat) (cs : List Col) (F : List Nat) (line : ByteArray) (w : World) (h : colsE w (.slice a cs.length cap) cs F)
    (ht : isT cs = true) (W0 : World) (hT0 : Tab W0) (hM0 : ML W0) (hW0 : Below W0.heap.size W0 w) (hF0 : ∀ b ∈ F, W0.heap.size ≤ b) (hs : line.size ≤ 1048576) :
    Calls Tryz.prog 38 #[.agg #[.slice a cs.length cap], .string line] w (RetAdd F w (.slice a cs.length cap) (addRowP cs line.data.toList)) := by
  have hcl := (isT_len ht).2
  have hcl1 := (isT_len ht).1
  have HV := hide (fun j (hj : j < cs.length) => (show cs[j].2.length ≤ 64 by
    have := ((isT_ok ht).2 j hj).2.1
    simp [areVals] at this
    exact this.1))
  have HB1 := hide (Box.new w (.slice a cs.length cap) 26)
  have H1 := hide (slE.below colE_good h HB1.out.1)
  have ML1 := hide ((hM0.up hW0).up HB1.out.1)
  have TT := hide (fun (W : World) (hb : Only F w W) => Tab.stays hT0 (hW0.trans (hb.toBelow hF0 hW0.size)) (Nat.le_refl _))
  have FLT := hide (slE.lt colE_good h)
  have HCS := hide (Tryz.strings_CutSuffix line ⟨#[10]⟩)
  clear h hF0 hT0 hM0 hW0 ht
  obtain ⟨r, hr⟩ : ∃ r, r = addRowP cs line.data.toList := ⟨_, rfl⟩
  rw [← hr]
  obtain ⟨row, hrow⟩ : ∃ row, row = Lib.trimSuffix line.data.toList [10] := ⟨_, rfl⟩
  obtain ⟨sx, hsx⟩ : ∃ sx, sx = Lib.hasSuffix line.data.toList [10] := ⟨_, rfl⟩
  obtain ⟨ws, hws⟩ : ∃ ws, ws = partsP row (cs.length + 1) := ⟨_, rfl⟩
  unfold addRowP at hr
  rw [← hrow, ← hsx, ← hws] at hr
  have hrl : row.length ≤ 1048576 := by
    have hll : line.data.toList.length ≤ 1048576 := by simpa using hs
    rw [hrow]; unfold Lib.trimSuffix
    split
    · rw [List.length_take]; omega
    · exact hll
  have hsl : (ByteArray.mk #[10]).data.toList = [10] := rfl
  have HCS2 : Hid (∀ W : World, Calls Tryz.prog 62 #[.string line, .string ⟨#[10]⟩] W fun e w' => e = .returned (.tuple #[.string ⟨row.toArray⟩, .bool sx]) ∧ w' = W) := fun W => by
    have := HCS.out W (by omega)
    rw [hsl, ← hrow, ← hsx] at this
    exact this
  have hrs : (ByteArray.mk row.toArray).size = row.length := by simp [ByteArray.size]
  have HSN : Hid (∀ W : World, ML W → Calls Tryz.prog 58 #[.string ⟨row.toArray⟩, .string ⟨#[32]⟩, .int .i64 ((cs.length : Int) + 1)] W (RetW W ws)) := fun W hW => by
    have := splitN_any ⟨row.toArray⟩ (cs.length + 1) W hW (by omega) (by omega) (by omega)
    rw [show (ByteArray.mk row.toArray).data.toList = row from by simp, ← hws] at this
    exact this
  have HWL : Hid (∀ x ∈ ws, x.length ≤ 1048576) := by
    intro x hx
    have hj : Lib.join ws [32] = row := by rw [hws]; exact (splitK_join 32 _ _).2
    have key : ∀ (ws : List (List UInt8)), ∀ x ∈ ws, x.length ≤ (Lib.join ws [32]).length := by
      intro ws
      induction ws with
      | nil => simp
      | cons v vs ih =>
        intro x hx
        cases vs with
        | nil => rw [Lib.join_one]; simp at hx; subst hx; exact Nat.le_refl _
        | cons u us =>
          have e : Lib.join (v :: u :: us) [32] = v ++ 32 :: Lib.join (u :: us) [32] := by
            rw [Lib.join_cons, Lib.join_cons]
            simp [Lib.joinTail]
          rw [e, List.length_append, List.length_cons]
          rcases List.mem_cons.1 hx with rfl | hx
          · omega
          · have := ih x hx; omega
    have := key ws x hx
    rw [hj] at this
    omega
  have HR := hide hr
  clear hr hrow hsx hws hrs hrl HCS hsl
  by_cases hC : sx = true ∧ ws.length = cs.length
  · obtain ⟨rfl, hwl⟩ := hC
    have hne : ((ws.length : Int) != (cs.length : Int)) = false := by rw [bne_eq_false_iff_eq]; omega
    have HWE := hide hwl
    have HR2 := hide (show r = addP cs ws by rw [HR.out, if_pos ⟨rfl, hwl⟩])
    clear HR hwl
    go_enter Tryz.func38, Tryz.ntmps38
    go_wp2_with fail
    obtain ⟨w1, hw1⟩ : ∃ w1, w1 = w.alloc (.cells #[.slice a cs.length cap] 26) := ⟨_, rfl⟩
    rw [← hw1] at HB1 H1 ML1 ⊢
    clear hw1
    go_at_call 62
    refine (HCS2.out w1).mono ?_
    rintro e w1' ⟨rfl, rfl⟩
    have c1 := HB1.out.2.1
    go_wp2_with fail
    go_at_call 58
    refine (HSN.out w1' ML1.out).mono ?_
    rintro e w2 ⟨cap2, rfl, hc2, hs2, hb2⟩
    have C2 := hide hc2
    have B2 := hide (HB1.out.up hb2)
    have H2 := hide (slE.below colE_good H1.out hb2)
    have c2 := B2.out.2.1
    obtain ⟨gw, hgw⟩ : ∃ gw, gw = w1'.heap.size := ⟨_, rfl⟩
    rw [← hgw] at C2 hs2
    try rw [← hgw]
    have GW := hide (show w.heap.size < gw by rw [hgw]; exact HB1.out.2.2)
    have S2 := hide hs2
    clear hc2 hb2 hs2 hgw c1
    go_wp2_with fail
    obtain ⟨wl, hwl⟩ : ∃ wl : World, wl = w2 := ⟨_, rfl⟩
    have CL := hide (show ∀ j (h : j < ws.length), wl.cell? ⟨gw, j, none⟩ = some (.string ⟨ws[j].toArray⟩) by rw [hwl]; exact C2.out)
    have BL := hide (show Box w wl (.slice a cs.length cap) by rw [hwl]; exact B2.out)
    have GL := hide (show gw < wl.heap.size by rw [hwl]; exact S2.out)
    have HWL2 := hide hwl
    clear c2 hwl
    go_loopw [36] (fun i wr => ∃ (k : Nat) (F' : List Nat), k ≤ cs.length ∧ i = .int .i64 k ∧ Hid (∀ j (h : j < ws.length), j < k → (ParI ws[j]).2 = true) ∧ Hid (colsE wr (.slice a cs.length cap) (mixA cs (vsP ws) k) F') ∧ Hid (∀ b ∈ F', b ∈ F ∨ wl.heap.size ≤ b) ∧ Hid (∀ b, w.heap.size ≤ b → b < wl.heap.size → wr.heap[b]? = wl.heap[b]?) ∧ Hid (Only F w wr) ∧ Hid (wl.heap.size ≤ wr.heap.size)) (fun i _ => cs.length - (intOf i).toNat)
    case atStart => exact ⟨0, F, by omega, rfl, fun j h hj => by omega, by show colsE _ _ _ _; rw [mixA_zero]; exact H2.out, fun b hb => .inl hb, fun b _ _ => by rw [HWL2.out], Only.of_below B2.out.1, by show _ ≤ _; rw [HWL2.out]; exact Nat.le_refl _⟩
    case round =>
      obtain ⟨k, F', hk, rfl, hpre, ho, hF', hkeep, hb, hsz⟩ := hrel
      have hvl : (vsP ws).length = cs.length := by simp [vsP, HWE.out]
      have HVL := hide hvl
      clear hvl
      by_cases hlt : k < cs.length
      · have hkw : k < ws.length := by have := HWE.out; omega
        have cw : wr.cell? ⟨gw, k, none⟩ = some (.string ⟨ws[k].toArray⟩) := by
          rw [World.cell?_of_block (w := wl) (a := ⟨gw, k, none⟩) (hkeep.out gw (Nat.le_of_lt GW.out) GL.out)]; exact CL.out k hkw
        have hx := HWL.out _ (List.getElem_mem hkw)
        obtain ⟨wd, hwd⟩ : ∃ wd, wd = ws[k] := ⟨_, rfl⟩
        rw [← hwd] at cw hx
        have hsw : (ByteArray.mk wd.toArray).size ≤ 1048576 := by simpa [ByteArray.size] using hx
        have HT := hide (TT.out wr hb.out)
        have HPI := hide (iPI_any ⟨wd.toArray⟩ wr hsw HT.out)
        obtain ⟨⟨x, t⟩, hd⟩ : ∃ p, p = ParI wd := ⟨_, rfl⟩
        rw [show (ByteArray.mk wd.toArray).data.toList = wd from by simp, ← hd] at HPI
        have HD := hide hd
        have HWD := hide hwd
        clear hd hwd hx hsw
        cases t
        · have hrn := hide (show r = none by
            rw [HR2.out]
            exact addP_bad _ _ ⟨_, List.getElem_mem hkw, by rw [← HWD.out, ← HD.out]⟩)
          go_wp2_with fail
          go_at_call 40
          refine HPI.out.mono ?_
          rintro e w5 ⟨rfl, hb5⟩
          have B5 := hide (hb.out.trans (Only.of_below hb5))
          clear hb5
          go_wp2_with fail
          go_ret
          rw [hrn.out]
          exact ⟨B5.out, rfl⟩
        · have hl64 := HV.out k hlt
          have hlm : k < (mixA cs (vsP ws) k).length := by rw [mixA_length _ _ _ HVL.out]; exact hlt
          go_wp2_with fail
          go_at_call 40
          refine HPI.out.mono ?_
          rintro e w5 ⟨rfl, hb5⟩
          have ho5 := slE.below colE_good ho.out hb5
          obtain ⟨g, cap', c, Fj, FA, FB, hv, hFeq, hgs, hgj, hE, hcl', hcell, hfro, hswap⟩ := slE.swap colE_good ho5 k hlm
          obtain ⟨rfl, rfl⟩ : a = some ⟨g, 0, none⟩ ∧ cap = cap' := by
            simp only [Value.slice.injEq] at hv
            exact ⟨hv.1, hv.2.2⟩
          rw [mixA_at cs (vsP ws) k HVL.out hlt] at hE
          obtain ⟨d, hdd⟩ : ∃ d, d = cs[k] := ⟨_, rfl⟩
          rw [← hdd] at hE hl64
          obtain ⟨n, l⟩ := d
          obtain ⟨u, rfl, hoi⟩ := hE
          simp only at hl64 hoi
          have hcc1 := hcell 1 (by omega)
          simp only [List.getElem?_cons_zero, List.getElem?_cons_succ] at hcc1
          have hff1 := hfro (k * 2 + 1)
          obtain ⟨au, capu, rfl, -⟩ := hoi.form
          have hbox : w5.cell? ⟨w.heap.size, 0, none⟩ = some (.slice (some ⟨g, 0, none⟩) cs.length cap) := by
            have e1 := hkeep.out w.heap.size (Nat.le_refl _) BL.out.2.2
            rw [hb5.cell (p := ⟨w.heap.size, 0, none⟩) (Nat.lt_of_lt_of_le BL.out.2.2 hsz.out), World.cell?_of_block (w := wl) (a := ⟨w.heap.size, 0, none⟩) e1]
            exact BL.out.2.1
          have HOI := hide hoi
          have HSW := hide hswap
          have HFE := hide hFeq
          have HND := hide (slE.nodup ho5)
          have HLT5 := hide (slE.lt colE_good ho5)
          have HDD := hide hdd
          have HB5 := hide hb5
          have HGS := hide hgs
          have HGJ := hide hgj
          clear hv hcell hfro hswap hoi hFeq ho5 hdd hb5 hcl' hgs hgj cw
          go_wp2_with (first | (at_builtin; refine oi_append _ rfl _ _ 47 rfl 3 Tryz.underlying47 infoI _ l Fj HOI.out rfl x 1 rfl (by omega) ?_; intro g' capx w6 ho6 hg6 hw6 hs6; have c61 := (hw6.cell (p := ⟨g, k * 2 + 1, none⟩) HGS.out HGJ.out).trans hcc1; have f61 := (hw6.frozen (p := ⟨g, k * 2 + 1, none⟩) HGS.out HGJ.out).trans hff1))
          go_roundw
          case rel =>
            have hx : x = (vsP ws)[k]'(by rw [HVL.out]; exact hlt) := by simp [vsP, ← HWD.out, ← HD.out]
            have hFj : ∀ b ∈ Fj, b ∈ F' := fun b hb => by rw [HFE.out]; simp [hb]
            have hgF : g ∈ F' := by rw [HFE.out]; simp
            have hne : g' ≠ g := by
              rintro rfl
              rcases hg6 with hh | hh
              · exact HGJ.out hh
              · have := HGS.out; omega
            have o7 : OI (w6.setCell ⟨g, k * 2 + 1, none⟩ (.slice (some ⟨g', 0, none⟩) (l.length + 1) capx)) 3 (.slice (some ⟨g', 0, none⟩) (l.length + 1) capx) (l ++ [x]) [g'] :=
              ho6.only (Only.setCell (F := [g]) (Only.refl _ _) (by simp) _) (fun b hb hbg => by simp at hb hbg; omega)
            have hdis : ∀ b ∈ [g'], b ∉ g :: (FA ++ FB) := by
              intro b hb hh
              simp at hb
              subst hb
              rcases hg6 with hj | hj
              · have hnd := HND.out
                rw [HFE.out, List.nodup_cons, List.nodup_append, List.nodup_append] at hnd
                obtain ⟨-, -, ⟨-, -, hd1⟩, hd2⟩ := hnd
                rcases List.mem_cons.1 hh with hh | hh
                · exact hne hh
                · rcases List.mem_append.1 hh with hh | hh
                  · exact hd2 _ hh _ (by simp [hj]) rfl
                  · exact hd1 _ hj _ hh rfl
              · have : b ∈ F' := by
                  rw [HFE.out]
                  rcases List.mem_cons.1 hh with hh | hh
                  · simp [hh]
                  · rcases List.mem_append.1 hh with hh | hh <;> simp [hh]
                have := HLT5.out b this
                omega
            have h7 := HSW.out w6 1 (.slice (some ⟨g', 0, none⟩) (l.length + 1) capx) (n, l ++ [x]) [g'] hw6 (by omega) ⟨_, rfl, o7⟩ hdis (by simp)
            have hset := mixA_set cs (vsP ws) k HVL.out hlt
            rw [← hx, ← HDD.out] at hset
            simp only at hset
            rw [hset] at h7
            have hwlw : w.heap.size ≤ wl.heap.size := Nat.le_of_lt BL.out.2.2
            have hnew : g' ∈ F ∨ wl.heap.size ≤ g' := by
              rcases hg6 with hj | hj
              · exact hF'.out g' (hFj g' hj)
              · have := HB5.out.size
                have := hsz.out
                exact .inr (by omega)
            have hnotF' : ∀ b, b < w.heap.size → b ∉ F → b ∉ F' := fun b hb1 hb2 hb3 => by
              rcases hF'.out b hb3 with h | h
              · exact hb2 h
              · omega
            have b5 : Only F w w5 := hb.out.trans (Only.of_below HB5.out)
            have b6 : Only F w w6 := ⟨b5.below.trans hw6.below, fun b hb1 hb2 => (hw6.block b (Nat.lt_of_lt_of_le hb1 b5.below.size) (fun hh => hnotF' b hb1 hb2 (hFj b hh))).trans (b5.block b hb1 hb2)⟩
            have b7 : Only F w (w6.setCell ⟨g, k * 2 + 1, none⟩ (.slice (some ⟨g', 0, none⟩) (l.length + 1) capx)) :=
              ⟨b6.below.setCell (p := ⟨g, k * 2 + 1, none⟩) (Nat.zero_le _) _, fun b hb1 hb2 => (Below.heap_setCell _ _ _ _ (fun e => hnotF' b hb1 hb2 (by rw [e]; exact hgF))).trans (b6.block b hb1 hb2)⟩
            refine ⟨k + 1, g :: (FA ++ ([g'] ++ FB)), by omega, by go_num, ?_, h7, ?_, ?_, b7, ?_⟩
            · intro j hjl hj
              by_cases hjk : j = k
              · subst hjk
                rw [← HWD.out, ← HD.out]
              · exact hpre.out j hjl (by omega)
            · intro b hb
              rcases List.mem_cons.1 hb with rfl | hb
              · exact hF'.out _ hgF
              · rcases List.mem_append.1 hb with hb | hb
                · exact hF'.out b (by rw [HFE.out]; simp [hb])
                · rcases List.mem_append.1 hb with hb | hb
                  · simp at hb; subst hb; exact hnew
                  · exact hF'.out b (by rw [HFE.out]; simp [hb])
            · intro b hb1 hb2
              have hnF : ∀ b', b' ∈ F' → b' ≠ b := fun b' hb' e => by
                subst e
                rcases hF'.out _ hb' with h | h
                · have := FLT.out _ h; omega
                · omega
              have hbs : b < wr.heap.size := Nat.lt_of_lt_of_le hb2 hsz.out
              rw [Below.heap_setCell _ _ _ _ (show b ≠ g from (hnF g hgF).symm), hw6.block b (Nat.lt_of_lt_of_le hbs HB5.out.size) (fun hh => hnF b (hFj b hh) rfl), HB5.out.block b hbs]
              exact hkeep.out b hb1 hb2
            · show wl.heap.size ≤ _
              have := hsz.out
              have := HB5.out.size
              simp [World.setCell]
              omega
          case measure => simp [intOf]; omega
      · have hke : k = cs.length := by omega
        have hrs := hide (show r = some (zapp cs (vsP ws)) by
          rw [HR2.out]
          refine addP_ok cs ws HWE.out fun x hx => ?_
          obtain ⟨j, hj, rfl⟩ := List.getElem_of_mem hx
          exact hpre.out j hj (by have := HWE.out; omega))
        have hoF := ho
        rw [hke, mixA_all _ _ HVL.out] at hoF
        have hkw : ws.length ≤ k := by have := HWE.out; omega
        clear hke
        go_wp2_with fail
        go_ret
        rw [hrs.out]
        exact ⟨hb.out, rfl, F', hoF.out, fun b hb => (hF'.out b hb).elim .inl (fun h => .inr (Nat.le_trans (Nat.le_of_lt BL.out.2.2) h))⟩
  · have hrn := hide (show r = none by rw [HR.out, if_neg hC])
    cases sx
    · go_enter Tryz.func38, Tryz.ntmps38
      go_wp2_with fail
      obtain ⟨w1, hw1⟩ : ∃ w1, w1 = w.alloc (.cells #[.slice a cs.length cap] 26) := ⟨_, rfl⟩
      rw [← hw1] at HB1 H1 ML1 ⊢
      clear hw1
      go_at_call 62
      refine (HCS2.out w1).mono ?_
      rintro e w1' ⟨rfl, rfl⟩
      have c1 := HB1.out.2.1
      go_wp2_with fail
      go_at_call 58
      refine (HSN.out w1' ML1.out).mono ?_
      rintro e w2 ⟨cap2, rfl, hc2, hs2, hb2⟩
      have B2 := hide (HB1.out.up hb2)
      clear hc2 hb2 hs2 c1
      go_wp2_with fail
      go_ret
      rw [hrn.out]
      exact ⟨Only.of_below B2.out.1, rfl⟩
    · have hne : ((ws.length : Int) != (cs.length : Int)) = true := by rw [bne_iff_ne]; exact fun e => hC ⟨rfl, by omega⟩
      clear hC
      go_enter Tryz.func38, Tryz.ntmps38
      go_wp2_with fail
      obtain ⟨w1, hw1⟩ : ∃ w1, w1 = w.alloc (.cells #[.slice a cs.length cap] 26) := ⟨_, rfl⟩
      rw [← hw1] at HB1 H1 ML1 ⊢
      clear hw1
      go_at_call 62
      refine (HCS2.out w1).mono ?_
      rintro e w1' ⟨rfl, rfl⟩
      have c1 := HB1.out.2.1
      go_wp2_with fail
      go_at_call 58
      refine (HSN.out w1' ML1.out).mono ?_
      rintro e w2 ⟨cap2, rfl, hc2, hs2, hb2⟩
      have B2 := hide (HB1.out.up hb2)
      have c2 := B2.out.2.1
      clear hc2 hb2 hs2 c1
      go_wp2_with fail
      go_ret
      rw [hrn.out]
      exact ⟨Only.of_below B2.out.1, rfl⟩

end Go.Proofs.YtgeegbbcjdlkbaaGreatDoor

/- strings.Lines: the iterator and its contract. -/
namespace Go.Proofs.YtgeegbbcjdlkbaaGreatDoor
open Go.RowKit Go.ChangeShapes
set_option linter.unusedSimpArgs false
set_option linter.unusedVariables false
set_option maxRecDepth 100000

/-- How long the text is that the iterator still holds. -/
def lenAt (Bs : Nat) (w : World) : Nat := match w.cell? ⟨Bs, 0, none⟩ with | some (.string s) => s.size | _ => 0

theorem cell_blk {w : World} {b : Nat} {x : Value} {t : TypeId} (h : w.heap[b]? = some (.cells #[x] t (0, 0))) : w.cell? ⟨b, 0, none⟩ = some x ∧ w.frozen? ⟨b, 0, none⟩ = false :=
  ⟨(cell_of_row w b 0 #[x] t (0, 0) h).trans rfl, frozen_of_row w b 0 #[x] t h⟩

theorem blk_set {w : World} {b : Nat} {x y : Value} {t : TypeId} (h : w.heap[b]? = some (.cells #[x] t (0, 0))) : (w.setCell ⟨b, 0, none⟩ y).heap[b]? = some (.cells #[y] t (0, 0)) := by
  simp [World.setCell, Array.getElem?_modify, h]

theorem ext_take (s : List UInt8) (k : Nat) : (ByteArray.mk s.toArray).extract 0 k = ⟨(s.take k).toArray⟩ := by
  apply ByteArray.ext
  apply Array.toList_inj.1
  rw [Lib.extract_from_zero]

theorem ext_drop (s : List UInt8) (k : Nat) : (ByteArray.mk s.toArray).extract k s.length = ⟨(s.drop k).toArray⟩ := by
  apply ByteArray.ext
  apply Array.toList_inj.1
  have h : (ByteArray.mk s.toArray).size = s.length := by simp [ByteArray.size]
  have := Lib.extract_to_end (ByteArray.mk s.toArray) k
  rw [h] at this
  rw [this]

set_option maxHeartbeats 2000000 in
theorem lines_seq (n : Nat) (hn : 1 ≤ n) (Bs : Nat) (l : List UInt8) (w : World) (hb : w.heap[Bs]? = some (.cells #[.string ⟨l.toArray⟩] 9 (0, 0))) (hl : l.length ≤ 1048576) :
    SeqW Fence.wide n Tryz.prog 60 #[.pointer (some ⟨Bs, 0, none⟩)] (fun x : ByteArray => #[.string x]) Bs (wB (linesL l)) w := by
  intro lp J Jx W hW hBW hJ hJx hY h0
  have HJ := hide hJ
  have HJx := hide hJx
  have HY := hide hY
  rw [hb] at hBW
  have HBW := hide hBW
  obtain ⟨xs, hxs⟩ : ∃ xs, xs = wB (linesL l) := ⟨_, rfl⟩
  have HXS := hide hxs
  rw [← hxs] at HY ⊢
  have H0 := hide h0
  clear hJ hJx hY hb hBW hxs h0
  refine callsIn_of_wp Tryz.func60 rfl trivial ?_ rfl
  simp only [Tryz.ntmps60, List.size_toArray, List.length_cons, List.length_nil, Nat.reduceAdd, Nat.reduceSub, Array.replicate_succ, Array.replicate_zero, List.push_toArray, List.append_toArray, List.nil_append, List.cons_append]
  gi_wp2
  gi_loopw [3] (fun p wr => ∃ (pre : List ByteArray) (f : Nat) (s : List UInt8), Hid (wr.heap[Bs]? = some (.cells #[.string ⟨s.toArray⟩] 9 (0, 0))) ∧ s.length ≤ 1048576 ∧ s.length ≤ f ∧ Hid (xs = pre ++ wB (linesF f s)) ∧ Hid (J pre wr)) (fun p wr => lenAt Bs wr)
  case atStart => exact ⟨[], l.length, l, HBW.out, hl, Nat.le_refl _, by show _ = _; rw [HXS.out]; rfl, H0.out⟩
  case round =>
    obtain ⟨pre, f, s, hbs, hsl, hsf, hpre, hj⟩ := hrel
    obtain ⟨c0, f0⟩ := cell_blk hbs.out
    have hsz : (ByteArray.mk s.toArray).size = s.length := by simp [ByteArray.size]
    have HSZ := hide hsz
    clear hsz
    by_cases hs0 : s = []
    · have hsz2 : s.length ≤ 0 := by simp [hs0]
      have HF := hide (show xs = pre by rw [hpre.out, hs0]; cases f <;> simp [linesF, wB])
      clear hs0
      gi_wp2
      go_end0
      exact ⟨⟨_, rfl⟩, .inl (by rw [HF.out]; exact hj.out)⟩
    · have hpos : 0 < s.length := List.length_pos_iff.2 hs0
      obtain ⟨f', rfl⟩ : ∃ f', f = f' + 1 := ⟨f - 1, by omega⟩
      have hge := Lib.indexByte_ge s 10
      obtain ⟨ix, hix⟩ : ∃ ix, ix = Lib.indexByte s 10 := ⟨_, rfl⟩
      have HIB := hide (show ∀ W : World, Calls Tryz.prog 61 #[.string ⟨s.toArray⟩, .int .u8 10] W fun e w' => e = .returned (.int .i64 ix) ∧ W = w' from fun W => by
        have := Tryz.strings_IndexByte ⟨s.toArray⟩ 10 W
        rw [hix]
        exact this.mono fun _ _ ⟨p, q⟩ => ⟨p, q.symm⟩)
      rw [← hix] at hge
      have HIX := hide hix
      have HS0 := hide hs0
      clear hix hs0
      by_cases h0 : 0 ≤ ix
      · obtain ⟨i, hi⟩ : ∃ i : Nat, ix = i := ⟨ix.toNat, by omega⟩
        have hil : i < s.length := by
          by_cases hm : (10 : UInt8) ∈ s
          · obtain ⟨a, b, rfl, ha⟩ := first_at 10 s hm
            have := HIX.out
            rw [ibyte_hit 10 a b ha] at this
            simp
            omega
          · have := HIX.out
            rw [ibyte_miss 10 s hm] at this
            omega
        have hnext : linesF (f' + 1) s = s.take (i + 1) :: linesF f' (s.drop (i + 1)) := by
          rw [linesF, if_neg HS0.out, ← HIX.out, if_pos h0, hi]
          rfl
        have HN := hide hnext
        have hd : decide ((i : Int) ≥ 0) = true := by simp
        subst hi
        clear hnext
        obtain ⟨x, hx⟩ : ∃ x, x = (ByteArray.mk s.toArray).extract 0 (i + 1) := ⟨_, rfl⟩
        obtain ⟨y, hy0⟩ : ∃ y, y = (ByteArray.mk s.toArray).extract (i + 1) s.length := ⟨_, rfl⟩
        have hxe := ext_take s (i + 1)
        have hye := ext_drop s (i + 1)
        rw [← hx] at hxe
        rw [← hy0] at hye
        obtain ⟨fn, tmps, assign, body, hy, hR⟩ := HY.out pre x (wr.setCell ⟨Bs, 0, none⟩ (.string y)).drew
          (HJ.out pre wr _ hj.out (by simp [World.setCell, World.drew]) rfl rfl rfl (fun k hk hne => Below.heap_setCell _ _ _ _ hne))
          (by rw [hpre.out, HN.out]; simp [wB])
          (by rw [hpre.out, HN.out, hxe]; simp [wB])
          (by show Bs < (wr.setCell _ _).heap.size; have := (Array.getElem?_eq_some_iff.1 hbs.out).1; simpa [World.setCell] using this)
        rw [hx, hy0] at hy
        rw [hy0] at hR
        have HR := hide hR
        have HXE := hide hxe
        have HYE := hide hye
        have HX := hide hx
        have HY0 := hide hy0
        clear hR hxe hye hx hy0
        gi_wp2_with (refine ⟨trivial, ?_⟩; gi_at_call 61; refine (callsIn_wide.2 (HIB.out _)).mono ?_; rintro e w' ⟨rfl, rfl⟩)
        gi_region
        all_goals gi_wp2
        refine HR.out.mono ?_
        rintro e W3 (⟨rfl, hJ3, hk3⟩ | ⟨rfl, hJx3⟩)
        · have hb3 : W3.heap[Bs]? = some (.cells #[.string ⟨(s.drop (i + 1)).toArray⟩] 9 (0, 0)) := by
            rw [hk3, ← HYE.out, HY0.out]
            exact blk_set hbs.out
          have HB3 := hide hb3
          have HJ3 := hide hJ3
          have HM := hide (show lenAt Bs W3 < lenAt Bs wr by
            unfold lenAt
            rw [(cell_blk hb3).1, (cell_blk hbs.out).1]
            show (ByteArray.mk _).size < (ByteArray.mk _).size
            simp [ByteArray.size]
            omega)
          clear hb3 hJ3 hk3
          gi_wp2
          refine ⟨⟨pre ++ [x], f', s.drop (i + 1), HB3.out, by simp; omega, by simp; omega, ?_, HJ3.out⟩, HM.out⟩
          show _ = _
          rw [hpre.out, HN.out, HXE.out]
          simp [wB]
        · have HJ3 := hide hJx3
          clear hJx3
          gi_wp2
          exact bodyPost_ret (v := .tuple #[]) (by simp [results, Tryz.results60, go_sem]) rfl ⟨⟨_, rfl⟩, .inr ⟨_, HJ3.out⟩⟩
      · have hixm : ix = -1 := by omega
        have hnext : linesF (f' + 1) s = [s] := by
          rw [linesF, if_neg HS0.out, ← HIX.out, if_neg h0]
        have HN := hide hnext
        subst hixm
        obtain ⟨fn, tmps, assign, body, hy, hR⟩ := HY.out pre (ByteArray.mk s.toArray) (wr.setCell ⟨Bs, 0, none⟩ (.string ⟨#[]⟩))
          (HJ.out pre wr _ hj.out (by simp [World.setCell]) rfl rfl rfl (fun k hk hne => Below.heap_setCell _ _ _ _ hne))
          (by rw [hpre.out, HN.out]; simp [wB])
          (by rw [hpre.out, HN.out]; simp [wB])
          (by have := (Array.getElem?_eq_some_iff.1 hbs.out).1; simpa [World.setCell] using this)
        have HR := hide hR
        clear hR hnext h0
        gi_wp2_with (refine ⟨trivial, ?_⟩; gi_at_call 61; refine (callsIn_wide.2 (HIB.out _)).mono ?_; rintro e w' ⟨rfl, rfl⟩)
        refine HR.out.mono ?_
        rintro e W3 (⟨rfl, hJ3, hk3⟩ | ⟨rfl, hJx3⟩)
        · have hb3 : W3.heap[Bs]? = some (.cells #[.string ⟨([] : List UInt8).toArray⟩] 9 (0, 0)) := by
            rw [hk3]
            exact blk_set hbs.out
          have HB3 := hide hb3
          have HJ3 := hide hJ3
          have HM := hide (show lenAt Bs W3 < lenAt Bs wr by
            unfold lenAt
            rw [(cell_blk hb3).1, (cell_blk hbs.out).1]
            show (ByteArray.mk _).size < (ByteArray.mk _).size
            simp [ByteArray.size]
            omega)
          clear hb3 hJ3 hk3
          gi_wp2
          refine ⟨⟨pre ++ [ByteArray.mk s.toArray], f', [], HB3.out, by simp, by simp, ?_, HJ3.out⟩, HM.out⟩
          show _ = _
          rw [hpre.out, HN.out]
          have e0 : linesF f' [] = [] := by cases f' <;> simp [linesF]
          rw [e0]
          simp [wB]
        · have HJ3 := hide hJx3
          clear hJx3
          gi_wp2
          exact bodyPost_ret (v := .tuple #[]) (by simp [results, Tryz.results60, go_sem]) rfl ⟨⟨_, rfl⟩, .inr ⟨_, HJ3.out⟩⟩

end Go.Proofs.YtgeegbbcjdlkbaaGreatDoor

/- A region that draws its order, whose last operation waits for all others: its loads are taken first under S, and S need not hold behind the last operation. -/
namespace Go.Proofs.YtgeegbbcjdlkbaaGreatDoor
open Go.RowKit Go.ChangeShapes

section
variable {P : Program} {ops : Array Oper} {Q : Exit → Act → World → Prop} {md : Region.Mode} {S : World → Prop}

/-- f operations, none of them number n, in whatever order, S behind each; then number n alone. -/
def Heads (P : Program) (md : Region.Mode) (ops : Array Oper) (Q : Exit → Act → World → Prop) (S : World → Prop) (n : Nat) : Nat → Array Bool → Act → World → Prop
  | 0, listed, a, w => (∀ j ∈ Region.ready md ops listed, j = n) ∧ wpAny P md ops Q 1 listed a w
  | f + 1, listed, a, w => Region.ready md ops listed ≠ [] ∧ ∀ i ∈ Region.ready md ops listed, i ≠ n ∧ wpOp P ops Q i (fun a' w' => S w' ∧ Heads P md ops Q S n f (listed.setIfInBounds i true) a' w') a w

theorem Heads.any {n : Nat} : ∀ (f : Nat) (listed : Array Bool) (a : Act) (w : World), Heads P md ops Q S n f listed a w → wpAny P md ops Q (f + 1) listed a w
  | 0, _, _, _, h => h.2
  | f + 1, _, _, _, h => ⟨fun h0 => absurd h0 h.1, fun i hi => wpOp_mono (fun a' w' h' => Heads.any f _ a' w' h'.2) (h.2 i hi).2⟩

theorem not_ready {n i : Nat} {listed : Array Bool} (hw : Region.waitsFor md ops n i = true) (hi : listed.getD i true = false) : n ∉ Region.ready md ops listed := by
  intro h
  obtain ⟨oj, hoj, e, he, hb, rfl⟩ := Region.waitsFor_spec hw
  obtain ⟨_, o', ho', hall⟩ := mem_ready.1 h
  obtain rfl : oj = o' := Option.some.inj (hoj.symm.trans ho')
  have := hall e he hb
  rw [getD_both hi] at this
  cases this

theorem Heads.first {n i : Nat} {oi : Oper} {v : Value} (hi : ops[i]? = some oi) (hsel : ∀ (j : Nat) (o : Oper) cs b, ops[j]? = some o → o.op ≠ .select cs b)
    (hQ : ∀ c a w, Q (.panic c) (a.put oi.dst v) w → Q (.panic c) a w) (hw : Region.waitsFor md ops n i = true) (hin : i ≠ n) :
    ∀ (f : Nat) (listed : Array Bool) (a : Act) (w : World),
      (∀ j oj, ops[j]? = some oj → j ≠ i → listed.getD j true = false → (∀ e ∈ oj.after, Region.binds md e = true → e.on ≠ i) → oi.apart ops oj = true) →
      i ∈ Region.ready md ops listed → YieldsIf P ops S oi v a → S w →
      Heads P md ops Q S n f (listed.setIfInBounds i true) (a.put oi.dst v) w → Heads P md ops Q S n (f + 1) listed a w := by
  intro f
  induction f with
  | zero =>
    intro listed a w _ hr hy hS H
    have hnr := not_ready hw (mem_ready.1 hr).1
    refine ⟨fun h => (by rw [h] at hr; cases hr), fun j hj => ?_⟩
    by_cases hji : j = i
    · subst hji
      exact ⟨hin, hy.wpOp hi hS ⟨hS, H⟩⟩
    · have e := H.1 j (ready_mono hj hji)
      subst e
      exact absurd hj hnr
  | succ f ih =>
    intro listed a w hfree hr hy hS H
    have hnr := not_ready hw (mem_ready.1 hr).1
    refine ⟨fun h => (by rw [h] at hr; cases hr), fun j hj => ⟨fun e => hnr (e ▸ hj), ?_⟩⟩
    by_cases hji : j = i
    · subst hji
      exact hy.wpOp hi hS ⟨hS, H⟩
    · have h1 := (H.2 j (ready_mono hj hji)).2
      obtain ⟨hjun, oj, hoj, hall⟩ := mem_ready.1 hj
      have hnot : ∀ e ∈ oj.after, Region.binds md e = true → e.on ≠ i := fun e he hb heq => by
        have h2 := hall e he hb
        rw [heq, getD_both (mem_ready.1 hr).1] at h2
        cases h2
      have h2 := wpOp_putIf hoj (hfree j oj hoj hji hjun hnot) (fun cs b => hsel i oi cs b hi) (fun cs b => hsel j oj cs b hoj) hQ hy h1
      have hfree' : ∀ k ok, ops[k]? = some ok → k ≠ i → (listed.setIfInBounds j true).getD k true = false →
          (∀ e ∈ ok.after, Region.binds md e = true → e.on ≠ i) → oi.apart ops ok = true := fun k ok hk hki hun hno => by
        refine hfree k ok hk hki ?_ hno
        by_cases hjk : j = k
        · subst hjk; exact hjun
        · rw [getD_set_ne true hjk] at hun; exact hun
      refine wpOp_mono (fun a' w' h3 => ⟨h3.2.1, ih (listed.setIfInBounds j true) a' w' hfree' (ready_mono hr (Ne.symm hji)) h3.1 h3.2.1 ?_⟩) h2
      rw [Array.setIfInBounds_comm _ _ hji]
      exact h3.2.2

/-- Number i is taken first. -/
theorem Heads.take {n i : Nat} {oi : Oper} {v : Value} {f : Nat} {listed : Array Bool} {a : Act} {w : World} (hi : ops[i]? = some oi)
    (hs : Region.noSelect ops = true) (hf : Region.free md ops listed i = true) (hr : (Region.ready md ops listed).contains i = true) (hw : Region.waitsFor md ops n i = true) (hin : i ≠ n)
    (hQ : ∀ c a w, Q (.panic c) (a.put oi.dst v) w → Q (.panic c) a w) (hwant : Region.wanted oi (yielded ops a.tmps) = true) (hy : ∀ w, S w → (execOp a.eval oi).run P w = .ok (.value v) w) (hS : S w)
    (h : Heads P md ops Q S n f (listed.setIfInBounds i true) (a.put oi.dst v) w) : Heads P md ops Q S n (f + 1) listed a w :=
  Heads.first hi (Region.noSelect_spec hs) hQ hw hin f listed a w (Region.free_spec hi hf) (by simpa using hr) (.inl ⟨hwant, hy⟩) hS h

/-- One alone may come up: it does; S behind it. -/
theorem Heads.one {n i : Nat} {o : Oper} {f : Nat} {listed : Array Bool} {a : Act} {w : World} (hr : Region.ready md ops listed = [i]) (hin : i ≠ n) (ho : ops[i]? = some o)
    (h : ∀ K' : Act → World → Prop, Shut (∀ a w, S w → Heads P md ops Q S n f (listed.setIfInBounds i true) a w → K' a w) → if Region.wanted o (yielded ops a.tmps) = true then Oper.wp P o a w K' Q else K' (a.put o.dst undef) w) :
    Heads P md ops Q S n (f + 1) listed a w := by
  refine ⟨by rw [hr]; simp, fun j hj => ?_⟩
  rw [hr] at hj
  obtain rfl : j = i := by simpa using hj
  exact ⟨hin, wpOp_step ho fun K' hK => h K' fun a w hS hH => hK a w ⟨hS, hH⟩⟩

/-- The last. -/
theorem Heads.last {n : Nat} {o : Oper} {listed : Array Bool} {a : Act} {w : World} (hr : Region.ready md ops listed = [n]) (ho : ops[n]? = some o) (hend : Region.ready md ops (listed.setIfInBounds n true) = [])
    (h : ∀ K' : Act → World → Prop, Shut (∀ a w, Q .normal a w → K' a w) → if Region.wanted o (yielded ops a.tmps) = true then Oper.wp P o a w K' Q else K' (a.put o.dst undef) w) :
    Heads P md ops Q S n 0 listed a w := by
  refine ⟨fun j hj => by rw [hr] at hj; simpa using hj, fun h0 => by rw [hr] at h0; simp at h0, fun j hj => ?_⟩
  rw [hr] at hj
  obtain rfl : j = n := by simpa using hj
  exact wpOp_step ho fun K' hK => h K' fun a w hq => hK a w ⟨hend, hq⟩

theorem Heads.region {id n : Nat} {a : Act} {w : World} (hm : P.follows .mixedOrders = true) (hn : ops.size = n + 1) (hS : S w.drew)
    (h : S w.drew → Heads P .any ops Q S n n (Array.replicate ops.size false) a w.drew) : (Code.region id ops true).wp P Q a w := by
  refine wp_region_any hm ?_
  rw [hn]
  have := Heads.any n _ _ _ (h hS)
  rw [hn] at this
  exact this

end

end Go.Proofs.YtgeegbbcjdlkbaaGreatDoor

/- What ParseTable of the program returns (promise 2). -/
namespace Go.Proofs.YtgeegbbcjdlkbaaGreatDoor
open Go.RowKit Go.ChangeShapes
set_option linter.unusedSimpArgs false
set_option linter.unusedVariables false
set_option maxRecDepth 100000
attribute [local go_sem] Oper.semAt_some

theorem row_cells {w : World} {base : Nat} {e : TypeId} {z n : Nat} {v : Value} {xs : List Value} (h : w.ownsRow base e z v n xs) : ∀ g, v.ownBlock = some g → ∃ o, w.heap[g]? = some o ∧ o.isCells = true := by
  intro g hg
  rcases h.2 with ⟨rfl, _⟩ | ⟨g', cap, cur, rfl, _, hh, _⟩
  · simp [Value.ownBlock] at hg
  · simp [Value.ownBlock] at hg
    subst hg
    exact ⟨_, hh, rfl⟩

theorem colsE_cells {w : World} {v : Value} {cs : List Col} {F : List Nat} (h : colsE w v cs F) : ∀ b ∈ F, ∃ o, w.heap[b]? = some o ∧ o.isCells = true := by
  rcases h with ⟨_, _, rfl⟩ | ⟨g, cap, xs, F', rfl, h2, h3, rfl, h5⟩
  · intro b hb; simp at hb
  · intro b hb
    rcases List.mem_cons.1 hb with rfl | hb
    · exact row_cells h2 _ rfl
    · clear h2 h5
      have key : ∀ (ds : List Col) (c : List Value) (F : List Nat), rowE colE w ds c F → ∀ b ∈ F, ∃ o, w.heap[b]? = some o ∧ o.isCells = true := by
        intro ds
        induction ds with
        | nil => rintro c F ⟨_, rfl⟩ b hb; simp at hb
        | cons d ds ih =>
          rintro c F ⟨c1, c2, F1, F2, rfl, rfl, ⟨u, _, hoi⟩, hr⟩ b hb
          rcases List.mem_append.1 hb with hb | hb
          · rw [hoi.2] at hb
            exact row_cells hoi.1 b (by simpa using hb)
          · exact ih _ _ hr b hb
      exact key _ _ _ h3 b hb

theorem rowsP_append : ∀ (a b : List (List UInt8)) (cs : List Col), rowsP cs (a ++ b) = (rowsP cs a).bind fun ds => rowsP ds b := by
  intro a
  induction a with
  | nil => intro b cs; simp [rowsP]
  | cons l a ih =>
    intro b cs
    simp only [List.cons_append, rowsP]
    split
    · split
      · exact ih b _
      · rfl
    · rfl

theorem rowsP_len : ∀ (ls : List (List UInt8)) (cs ds : List Col), isT cs = true → rowsP cs ls = some ds → ds.length = cs.length := by
  intro ls
  induction ls with
  | nil => intro cs ds _ h; simp only [rowsP, Option.some.injEq] at h; rw [h]
  | cons l ls ih =>
    intro cs ds ht h
    simp only [rowsP] at h
    split at h
    · rename_i es he
      split at h
      · rename_i hi
        obtain ⟨vs, hl, rfl, _⟩ := addRow_sound ht he
        rw [ih _ _ hi h, zapp_length cs vs hl]
      · cases h
    · cases h

/-- A parsed table of the call's own is returned, or none; nothing that was there has turned. -/
def RetPar (w : World) (r : Option (List Col)) (e : Ending) (w' : World) : Prop := Below w.heap.size w w' ∧ match r with
  | some cs => ∃ a cap F, e = .returned (.tuple #[.agg #[.slice a cs.length cap], .bool true]) ∧ colsE w' (.slice a cs.length cap) cs F ∧ ∀ b ∈ F, w.heap.size ≤ b
  | none => e = .returned (.tuple #[.agg #[.slice none 0 0], .bool false])

/-- The result's two variables, as they were made; nothing old has turned. -/
structure RB (w W : World) : Prop where
  below : Below w.heap.size w W
  b0 : W.heap[w.heap.size]? = some (.cells #[.slice none 0 0] 26 (0, 0))
  b1 : W.heap[w.heap.size + 1]? = some (.cells #[.bool false] 4 (0, 0))

theorem RB.new (w : World) : RB w ((w.alloc (.cells #[.slice none 0 0] 26)).alloc (.cells #[.bool false] 4)) := by
  have e := alloc_size w (.cells #[.slice none 0 0] 26)
  refine ⟨((Below.refl _ _).alloc (Nat.le_refl _) _).alloc (by omega) _, ?_, ?_⟩
  · rw [Below.heap_alloc _ _ _ (by omega)]
    exact heap_alloc_new w _
  · rw [← e]
    exact heap_alloc_new _ _

theorem RB.lt {w W : World} (h : RB w W) : w.heap.size + 1 < W.heap.size := (Array.getElem?_eq_some_iff.1 h.b1).1

theorem RB.up {w W W' : World} (h : RB w W) (hb : Below W.heap.size W W') : RB w W' :=
  ⟨h.below.trans (hb.mono h.below.size), by rw [hb.block _ (by have := h.lt; omega)]; exact h.b0, by rw [hb.block _ h.lt]; exact h.b1⟩

theorem RB.cells {w W : World} (h : RB w W) : W.cell? ⟨w.heap.size, 0, none⟩ = some (.slice none 0 0) ∧ W.frozen? ⟨w.heap.size, 0, none⟩ = false ∧ W.cell? ⟨w.heap.size + 1, 0, none⟩ = some (.bool false) ∧ W.frozen? ⟨w.heap.size + 1, 0, none⟩ = false :=
  ⟨(cell_blk h.b0).1, (cell_blk h.b0).2, (cell_blk h.b1).1, (cell_blk h.b1).2⟩

theorem set2 {W : World} {p q : Nat} {u z v x : Value} {T T' : TypeId} (h0 : W.heap[p]? = some (.cells #[u] T (0, 0))) (h1 : W.heap[q]? = some (.cells #[z] T' (0, 0))) (hne : p ≠ q) :
    ((W.setCell ⟨p, 0, none⟩ v).setCell ⟨q, 0, none⟩ x).cell? ⟨p, 0, none⟩ = some v ∧ ((W.setCell ⟨p, 0, none⟩ v).setCell ⟨q, 0, none⟩ x).cell? ⟨q, 0, none⟩ = some x := by
  have a0 := blk_set (y := v) h0
  have a1 : (W.setCell ⟨p, 0, none⟩ v).heap[q]? = some (.cells #[z] T' (0, 0)) := (Below.heap_setCell _ _ _ _ (fun e => hne e.symm)).trans h1
  have c1 := blk_set (y := x) a1
  have c0 : ((W.setCell ⟨p, 0, none⟩ v).setCell ⟨q, 0, none⟩ x).heap[p]? = some (.cells #[v] T (0, 0)) := (Below.heap_setCell _ _ _ _ hne).trans a0
  exact ⟨(cell_blk c0).1, (cell_blk c1).1⟩

theorem keepBlk {B Bs : Nat} {W W' : World} (h : ∀ k, k < W.heap.size → k ≠ Bs → W'.heap[k]? = W.heap[k]? ∨ (B ≤ k ∧ ∃ o, W.heap[k]? = some o ∧ o.isCells = false)) {k : Nat} {o : Obj} (hk : W.heap[k]? = some o) (ho : o.isCells = true) (hne : k ≠ Bs) : W'.heap[k]? = W.heap[k]? := by
  rcases h k (Array.getElem?_eq_some_iff.1 hk).1 hne with h | ⟨_, o', ho', hc⟩
  · exact h
  · rw [hk] at ho'
    cases ho'
    rw [ho] at hc
    cases hc

theorem RB.lets {w W W' : World} {B Bs : Nat} (h : RB w W) (hs : W.heap.size ≤ W'.heap.size) (ho : W'.os = W.os) (hu : W'.output = W.output) (ht : W'.tape = W.tape) (hB : w.heap.size ≤ B) (hBs : w.heap.size + 1 < Bs)
    (hk : ∀ k, k < W.heap.size → k ≠ Bs → W'.heap[k]? = W.heap[k]? ∨ (B ≤ k ∧ ∃ o, W.heap[k]? = some o ∧ o.isCells = false)) : RB w W' := by
  refine ⟨h.below.trans ⟨ho, ht, hu, hs, fun k hkw => ?_⟩, ?_, ?_⟩
  · rcases hk k (Nat.lt_of_lt_of_le hkw h.below.size) (by omega) with e | ⟨hb, _⟩
    · exact e
    · omega
  · rw [keepBlk hk h.b0 rfl (by omega)]; exact h.b0
  · rw [keepBlk hk h.b1 rfl (by omega)]; exact h.b1

theorem RB.only {w W W' : World} {F : List Nat} (h : RB w W) (hb : Only F W W') (hF : ∀ b ∈ F, w.heap.size + 1 < b) : RB w W' := by
  have hl := h.lt
  refine ⟨h.below.trans (hb.toBelow (fun b hf => by have := hF b hf; omega) (by omega)), ?_, ?_⟩
  · rw [hb.block _ (by omega) (fun hf => by have := hF _ hf; omega)]; exact h.b0
  · rw [hb.block _ hl (fun hf => by have := hF _ hf; omega)]; exact h.b1

theorem RB.stored {w W : World} (h : RB w W) : RB w ((W.setCell ⟨w.heap.size, 0, none⟩ (.slice none 0 0)).setCell ⟨w.heap.size + 1, 0, none⟩ (.bool false)) := by
  refine ⟨(h.below.setCell (p := ⟨w.heap.size, 0, none⟩) (Nat.le_refl _) _).setCell (p := ⟨w.heap.size + 1, 0, none⟩) (Nat.le_succ _) _, ?_, ?_⟩
  · exact (Below.heap_setCell _ _ _ _ (show w.heap.size ≠ w.heap.size + 1 by omega)).trans (blk_set h.b0)
  · exact blk_set ((Below.heap_setCell _ _ _ _ (show w.heap.size + 1 ≠ w.heap.size by omega)).trans h.b1)

theorem KeepsOthers.of_only {W W' : World} {F : List Nat} (h : Only F W W') (hF : ∀ b ∈ F, ∃ o, W.heap[b]? = some o ∧ o.isCells = true) : KeepsOthers W W' :=
  ⟨h.below.size, fun k o hk ho => by
    rw [h.block k (Array.getElem?_eq_some_iff.1 hk).1 (fun hf => by
      obtain ⟨o', h1, h2⟩ := hF k hf
      rw [hk] at h1
      cases h1
      rw [ho] at h2
      cases h2)]
    exact hk⟩

theorem KeepsOthers.of_below {W W' : World} (h : Below W.heap.size W W') : KeepsOthers W W' :=
  ⟨h.size, fun k o hk _ => by rw [h.block k (Array.getElem?_eq_some_iff.1 hk).1]; exact hk⟩

theorem mem_len {x : List UInt8} : ∀ {ls : List (List UInt8)}, x ∈ ls → x.length ≤ ls.flatten.length := by
  intro ls
  induction ls with
  | nil => intro h; simp at h
  | cons l ls ih =>
    intro h
    rw [List.flatten_cons, List.length_append]
    rcases List.mem_cons.1 h with rfl | h
    · omega
    · have := ih h; omega

theorem addP_from : ∀ (cs : List Col) (ws : List (List UInt8)) (ds : List Col), addP cs ws = some ds → ∀ c ∈ ds, ∃ c0 ∈ cs, ∃ w, c = (c0.1, c0.2 ++ [(ParI w).1]) := by
  intro cs
  induction cs with
  | nil =>
    intro ws ds h
    cases ws with
    | nil => simp [addP] at h; subst h; intro c hc; simp at hc
    | cons w ws => simp [addP] at h
  | cons c cs ih =>
    intro ws ds h
    cases ws with
    | nil => simp [addP] at h
    | cons w ws =>
      simp only [addP] at h
      split at h
      · rw [Option.map_eq_some_iff] at h
        obtain ⟨es, he, rfl⟩ := h
        intro d hd
        rcases List.mem_cons.1 hd with rfl | hd
        · exact ⟨c, by simp, w, rfl⟩
        · obtain ⟨c0, h0, w0, e0⟩ := ih ws es he d hd
          exact ⟨c0, by simp [h0], w0, e0⟩
      · cases h

theorem par_i64 (w : List UInt8) : I64 (ParI w).1 := by
  have := numS_le w
  unfold ParI I64
  split
  · simp only; omega
  · simp

theorem addRow_bounds {cs ds : List Col} {line : List UInt8} (h : isT cs = true) (ha : addRowP cs line = some ds) : ∀ c ∈ ds, c.1.size ≤ 9223372036854775807 ∧ ∀ x ∈ c.2, I64 x := by
  have ht := isT_ok h
  unfold addRowP at ha
  split at ha
  · intro c hc
    obtain ⟨c0, h0, w, rfl⟩ := addP_from _ _ _ ha c hc
    obtain ⟨j, hj, rfl⟩ := List.getElem_of_mem h0
    obtain ⟨h1, h2, -, -⟩ := ht.2 j hj
    constructor
    · simp [isNm] at h1
      simp only
      omega
    · intro x hx
      rcases List.mem_append.1 hx with hx | hx
      · simp [areVals] at h2
        have := h2.2 x hx
        unfold I64
        omega
      · simp at hx
        subst hx
        exact par_i64 w
  · cases ha

/-- What holds between two lines. -/
def BetweenL (w : World) (a : Option Addr) (n cap bt Bs : Nat) (cs0 : List Col) (xs : List ByteArray) (pre : List ByteArray) (W : World) : Prop :=
  ∃ cs F, pre <+: xs ∧ rowsP cs0 (pre.map (·.data.toList)) = some cs ∧ isT cs = true ∧ cs.length = n ∧ colsE W (.slice a n cap) cs F ∧ (∀ b ∈ F, w.heap.size + 1 < b ∧ b ≠ bt ∧ b ≠ Bs) ∧ W.heap[bt]? = some (.cells #[.slice a n cap] 26 (0, 0)) ∧ RB w W

theorem between_lets (w : World) (a : Option Addr) (n cap bt Bs B : Nat) (cs0 : List Col) (xs : List ByteArray) (hB : w.heap.size ≤ B) (hBs : w.heap.size + 1 < Bs) (hne : bt ≠ Bs) : LetsC B Bs (BetweenL w a n cap bt Bs cs0 xs) := by
  rintro pre W W' ⟨cs, F, h1, h2, h3, h4, h5, h6, h7, h8⟩ hs ho hu ht hk
  refine ⟨cs, F, h1, h2, h3, h4, ?_, h6, ?_, h8.lets hs ho hu ht hB hBs hk⟩
  · exact slE.kept colE_good h5 fun b hb => by
      obtain ⟨o, h9, h10⟩ := colsE_cells h5 b hb
      exact keepBlk hk h9 h10 (h6 b hb).2.2
  · rw [keepBlk hk h7 rfl hne]; exact h7

theorem lines_make (s : ByteArray) (w : World) : Calls Tryz.prog 37 #[.string s] w fun e w' => e = .returned (.func (.func 60) #[] #[.pointer (some ⟨w.heap.size, 0, none⟩)]) ∧ w' = w.alloc (.cells #[.string s] 9) := by
  go_enter Tryz.func37, Tryz.ntmps37
  go_wp2
  go_ret
  exact ⟨rfl, rfl⟩

set_option maxHeartbeats 4000000 in
theorem iParse_any (s : ByteArray) (w : World) (hs : s.size ≤ 1048576) (hT : Tab w) (hM : ML w) :
    Calls Tryz.prog 7 #[.string s] w (RetPar w (implP s.data.toList)) := by
  have h0 := fun (x y : World) (hb : Below w.heap.size w x) => hb
  obtain ⟨r, hr⟩ : ∃ r, r = implP s.data.toList := ⟨_, rfl⟩
  rw [← hr]
  obtain ⟨⟨hd, bd, en⟩, hcut⟩ : ∃ p, p = Lib.cut s.data.toList [10] := ⟨_, rfl⟩
  unfold implP at hr
  rw [← hcut] at hr
  simp only at hr
  have HCUT := hide (show ∀ W : World, ML W → Calls Tryz.prog 35 #[.string s, .string ⟨#[10]⟩] W fun e w' => e = .returned (.tuple #[.string ⟨hd.toArray⟩, .string ⟨bd.toArray⟩, .bool en]) ∧ Below W.heap.size W w' from fun W ⟨m, hm⟩ => by
    have := Tryz.strings_Cut s ⟨#[10]⟩ m W (by omega) hm
    rw [show (ByteArray.mk #[10]).data.toList = [10] from rfl, ← hcut] at this
    exact this.mono fun _ _ ⟨p, n, q⟩ => ⟨p, by rw [q]; exact below_drewN (Below.refl _ _) _⟩)
  have hlen : hd.length ≤ 1048576 ∧ bd.length ≤ 1048576 := by
    have hl : s.data.toList.length ≤ 1048576 := by simpa using hs
    by_cases hm : (10 : UInt8) ∈ s.data.toList
    · obtain ⟨a, b, e, ha⟩ := first_at 10 _ hm
      rw [e, cut_hit 10 a b ha] at hcut
      rw [e] at hl
      simp at hcut hl
      obtain ⟨rfl, rfl, _⟩ := hcut
      omega
    · rw [cut_miss 10 _ hm] at hcut
      simp at hcut
      obtain ⟨rfl, rfl, _⟩ := hcut
      simp
      simpa using hs
  obtain ⟨hl1, hl2⟩ := hlen
  have HTN := hide (show ∀ W : World, ML W → Calls Tryz.prog 36 #[.string ⟨hd.toArray⟩] W (RetOT W (nameC (partsP hd 5))) from fun W hW => by
    have := tabN_any ⟨hd.toArray⟩ W hW (by simpa [ByteArray.size] using hl1)
    rw [show (ByteArray.mk hd.toArray).data.toList = hd from by simp] at this
    exact this)
  obtain ⟨cs0, hcs0⟩ : ∃ cs0, cs0 = nameC (partsP hd 5) := ⟨_, rfl⟩
  have hsz0 : ∀ c ∈ cs0, c.1.size ≤ 9223372036854775807 ∧ ∀ x ∈ c.2, I64 x := by
    intro c hc
    rw [hcs0] at hc
    obtain ⟨wd, hw, rfl⟩ := List.mem_map.1 hc
    refine ⟨?_, by simp⟩
    have hj : Lib.join (partsP hd 5) [32] = hd := (splitK_join 32 _ _).2
    have key : ∀ (ws : List (List UInt8)), ∀ x ∈ ws, x.length ≤ (Lib.join ws [32]).length := by
      intro ws
      induction ws with
      | nil => simp
      | cons v vs ih =>
        intro x hx
        cases vs with
        | nil => rw [Lib.join_one]; simp at hx; subst hx; exact Nat.le_refl _
        | cons u us =>
          have e : Lib.join (v :: u :: us) [32] = v ++ 32 :: Lib.join (u :: us) [32] := by
            rw [Lib.join_cons, Lib.join_cons]
            simp [Lib.joinTail]
          rw [e, List.length_append, List.length_cons]
          rcases List.mem_cons.1 hx with rfl | hx
          · omega
          · have := ih x hx; omega
    have := key _ wd hw
    rw [hj] at this
    simp [ByteArray.size]
    omega
  rw [← hcs0] at hr HTN
  have HSZ := hide hsz0
  have HR := hide hr
  have HT := hide hT
  have HM := hide hM
  clear hr hcut hcs0 hsz0 hT hM h0 hl1
  have R2 := hide (RB.new w)
  have M2 := hide (HM.out.up R2.out.below)
  refine (callsIn_wide (n := 8)).1 ?_
  refine callsIn_of_wp_marks Tryz.func7 rfl trivial ?_ rfl
  simp only [Tryz.ntmps7, List.size_toArray, List.length_cons, List.length_nil, Nat.reduceAdd, Nat.reduceSub, Array.replicate_succ, Array.replicate_zero, List.push_toArray, List.append_toArray, List.nil_append, List.cons_append]
  gi_wp2_with fail
  obtain ⟨w2, hw2⟩ : ∃ w2, w2 = (w.alloc (.cells #[.slice none 0 0] 26)).alloc (.cells #[.bool false] 4) := ⟨_, rfl⟩
  rw [← hw2] at R2 M2 ⊢
  clear hw2
  refine ⟨trivial, ?_⟩
  gi_at_call 35
  refine (callsIn_wide.2 (HCUT.out _ M2.out)).mono ?_
  rintro e w3 ⟨rfl, hb3⟩
  have R3 := hide (R2.out.up hb3)
  have M3 := hide (M2.out.up hb3)
  clear hb3
  gi_wp2_with fail
  refine ⟨trivial, ?_⟩
  gi_at_call 36
  refine (callsIn_wide.2 (HTN.out _ M3.out)).mono ?_
  rintro e w4 ⟨a, cap, F0, rfl, ho4, hlo4, hb4⟩
  have R4 := hide (R3.out.up hb4)
  have O4 := hide ho4
  have F4lo := hide (show ∀ b ∈ F0, w.heap.size + 1 < b from fun b hb => Nat.lt_of_lt_of_le R3.out.lt (hlo4 b hb))
  have F4hi := hide (slE.lt colE_good ho4)
  clear ho4 hlo4 hb4
  have R5 := hide (R4.out.up ((Below.refl w4.heap.size w4).alloc (Nat.le_refl _) (.cells #[.slice a cs0.length cap] 26)))
  obtain ⟨rc0, rf0, rc1, rf1⟩ := R5.out.cells
  cases en
  · have hrn := hide (show r = none by rw [HR.out, if_neg (by simp)])
    gi_wp2_with fail
    refine ⟨trivial, ?_⟩
    gi_wp2_with fail
    obtain ⟨e0, e1⟩ := set2 (v := .slice none 0 0) (x := .bool false) R5.out.b0 R5.out.b1 (by omega)
    refine ⟨.tuple #[.agg #[.slice none 0 0], .bool false], by simp [results, Tryz.results7, go_sem, e0, e1], ?_⟩
    rw [hrn.out]
    exact ⟨(R5.out.below.setCell (p := ⟨w.heap.size, 0, none⟩) (Nat.le_refl _) _).setCell (p := ⟨w.heap.size + 1, 0, none⟩) (Nat.le_succ _) _, rfl⟩
  · have HB5 := hide ((Below.refl w4.heap.size w4).alloc (Nat.le_refl _) (.cells #[.slice a cs0.length cap] 26))
    have O5 := hide (slE.below colE_good O4.out HB5.out)
    have X5 := hide (show (w4.alloc (.cells #[.slice a cs0.length cap] 26)).heap[w4.heap.size]? = some (.cells #[.slice a cs0.length cap] 26 (0, 0)) from heap_alloc_new w4 _)
    have T5 := hide (show Tbl (w4.alloc (.cells #[.slice a cs0.length cap] 26)) (w4.alloc (.cells #[.slice a cs0.length cap] 26)).heap.size (.agg #[.slice a cs0.length cap]) cs0 from ⟨_, rfl, colsE_cols O5.out (Nat.le_refl _) HSZ.out⟩)
    obtain ⟨t0, ht0⟩ : ∃ t0, t0 = isT cs0 := ⟨_, rfl⟩
    have HT0 := hide ht0
    have HITA := hide (iTable_any _ cs0 _ _ T5.out (Nat.le_refl _))
    rw [← ht0] at HITA
    clear ht0
    obtain ⟨bt, hbt⟩ : ∃ bt, bt = w4.heap.size := ⟨_, rfl⟩
    have BT := hide (show w.heap.size + 1 < bt ∧ ∀ b ∈ F0, b ≠ bt from ⟨by rw [hbt]; exact R4.out.lt, fun b hb e => by have := F4hi.out b hb; omega⟩)
    gi_wp2_with fail
    rw [← hbt] at X5
    try rw [← hbt]
    obtain ⟨w5, hw5⟩ : ∃ w5, w5 = w4.alloc (.cells #[.slice a cs0.length cap] 26) := ⟨_, rfl⟩
    rw [← hw5] at R5 O5 X5 T5 HITA rc0 rf0 rc1 rf1
    try rw [← hw5]
    clear hw5 hbt HB5
    refine ⟨trivial, ?_⟩
    gi_at_call 30
    refine (callsIn_wide.2 HITA.out).mono ?_
    rintro e w6 ⟨rfl, hb6⟩
    clear rc0 rf0 rc1 rf1
    have R6 := hide (R5.out.up hb6)
    obtain ⟨rc0, rf0, rc1, rf1⟩ := R6.out.cells
    have O6 := hide (slE.below colE_good O5.out hb6)
    have X6 := hide (show w6.heap[bt]? = some (.cells #[.slice a cs0.length cap] 26 (0, 0)) by rw [hb6.block bt (Array.getElem?_eq_some_iff.1 X5.out).1]; exact X5.out)
    clear hb6
    cases t0
    · have hrn := hide (show r = none by rw [HR.out, if_neg (by rw [← HT0.out]; simp)])
      gi_wp2_with fail
      obtain ⟨e0, e1⟩ := set2 (v := .slice none 0 0) (x := .bool false) R6.out.b0 R6.out.b1 (by omega)
      refine ⟨.tuple #[.agg #[.slice none 0 0], .bool false], by simp [results, Tryz.results7, go_sem, e0, e1], ?_⟩
      rw [hrn.out]
      exact ⟨(R6.out.below.setCell (p := ⟨w.heap.size, 0, none⟩) (Nat.le_refl _) _).setCell (p := ⟨w.heap.size + 1, 0, none⟩) (Nat.le_succ _) _, rfl⟩
    · have HR2 := hide (show r = rowsP cs0 (linesL bd) by rw [HR.out, if_pos ⟨trivial, HT0.out.symm⟩])
      gi_wp2_with fail
      refine ⟨trivial, ?_⟩
      gi_at_call 37
      refine (callsIn_wide.2 (lines_make ⟨bd.toArray⟩ w6)).mono ?_
      rintro e wL ⟨he, hwL⟩
      subst he
      have RL := hide (show RB w wL by rw [hwL]; exact R6.out.up ((Below.refl _ _).alloc (Nat.le_refl _) _))
      have OL := hide (show colsE wL (.slice a cs0.length cap) cs0 F0 by rw [hwL]; exact slE.below colE_good O6.out ((Below.refl _ _).alloc (Nat.le_refl _) _))
      obtain ⟨Bs, hBs⟩ : ∃ Bs, Bs = w6.heap.size := ⟨_, rfl⟩
      have XL := hide (show wL.heap[bt]? = some (.cells #[.slice a cs0.length cap] 26 (0, 0)) by
        rw [hwL, Below.heap_alloc _ _ _ (Array.getElem?_eq_some_iff.1 X6.out).1]; exact X6.out)
      have SL := hide (show wL.heap[Bs]? = some (.cells #[.string ⟨bd.toArray⟩] 9 (0, 0)) by rw [hwL, hBs]; exact heap_alloc_new w6 _)
      have ZL := hide (show bt < Bs ∧ wL.heap.size = Bs + 1 ∧ (∀ b ∈ F0, b < Bs) by
        refine ⟨by rw [hBs]; exact (Array.getElem?_eq_some_iff.1 X6.out).1, by rw [hwL, hBs]; exact alloc_size _ _, fun b hb => by rw [hBs]; exact slE.lt colE_good O6.out b hb⟩)
      rw [← hBs]
      clear hwL hBs rc0 rf0 rc1 rf1
      gi_wp2_with fail
      obtain ⟨xs, hxs⟩ : ∃ xs, xs = wB (linesL bd) := ⟨_, rfl⟩
      have hseq := lines_seq 7 (by omega) Bs bd wL SL.out hl2
      rw [← hxs] at hseq
      have HXS := hide hxs
      have hbig : w.heap.size ≤ wL.heap.size ∧ w.heap.size + 1 < Bs ∧ bt ≠ Bs ∧ Bs < wL.heap.size := by have := BT.out.1; have := ZL.out; omega
      obtain ⟨hg1, hg2, hg3, hg4⟩ := hbig
      clear hxs
      refine rangeFunc_w rfl (by omega) (gf := 60) (lb := #[.pointer (some ⟨Bs, 0, none⟩)]) rfl trivial (enters_of Tryz.func60 (by kernel_rfl) rfl) hg4 hseq (fun _ => rfl)
        (BetweenL w a cs0.length cap bt Bs cs0 xs) (fun _ _ W => RB w W ∧ r = none)
        (between_lets w a _ cap bt Bs _ cs0 xs hg1 hg2 hg3) (fun _ => fun s W W' h h1 h2 h3 h4 h5 => ⟨h.1.lets h1 h2 h3 h4 hg1 hg2 h5, h.2⟩)
        ⟨cs0, F0, List.nil_prefix, rfl, HT0.out.symm, rfl, OL.out, fun b hb => ⟨F4lo.out b hb, BT.out.2 b hb, by have := ZL.out.2.2 b hb; omega⟩, XL.out, RL.out⟩
        (fun x => { tmps := #[.string s, undef, .pointer (some ⟨w.heap.size, 0, none⟩), .pointer (some ⟨w.heap.size + 1, 0, none⟩), .string ⟨hd.toArray⟩, .string ⟨bd.toArray⟩, .bool true, .pointer (some ⟨bt, 0, none⟩), .string x, .tuple #[.string ⟨hd.toArray⟩, .string ⟨bd.toArray⟩, .bool true], .string s, .tuple #[.string ⟨hd.toArray⟩, .string ⟨bd.toArray⟩, .bool true], .string ⟨hd.toArray⟩, .string ⟨bd.toArray⟩, .bool true, .string ⟨hd.toArray⟩, .agg #[.slice a cs0.length cap], .bool true, .bool false, .bool false, .agg #[.slice a cs0.length cap], .bool true, .bool false, .bool false, undef, .string ⟨bd.toArray⟩, .func (.func 60) #[] #[.pointer (some ⟨Bs, 0, none⟩)], .string x, undef, undef, undef, undef, undef, undef, undef, undef, undef, undef, undef], defers := [] })
        ?assign ?body ?done ?stop
      case assign =>
        intro l x W K hK
        gi_wp2
        exact hK
      case body =>
        rintro l pre x W ⟨cs, F, h1, h2, h3, h4, h5, h6, h7, h8⟩ hx hBW hlW
        have hxm : x ∈ xs := List.mem_of_getElem? hx
        have hpx : (pre ++ [x]) <+: xs := by
          obtain ⟨rest, hrest⟩ := h1
          rw [← hrest, List.getElem?_append_right (Nat.le_refl _), Nat.sub_self] at hx
          cases rest with
          | nil => simp at hx
          | cons y ys =>
            simp at hx
            subst hx
            exact ⟨ys, by rw [← hrest]; simp⟩
        have hxl : x.size ≤ 1048576 := by
          rw [HXS.out] at hxm
          obtain ⟨y, hy, rfl⟩ := List.mem_map.1 hxm
          have := mem_len hy
          rw [linesL_flat] at this
          simp [ByteArray.size]
          omega
        have hbelow := h8.below
        have hF0 : ∀ b ∈ F, w.heap.size ≤ b := fun b hb => by have := (h6 b hb).1; omega
        have hadd := addRow_any a cap cs F x W (by rw [h4]; exact h5) h3 w HT.out HM.out hbelow hF0 hxl
        rw [h4] at hadd
        have hcellF := colsE_cells h5
        obtain ⟨q, hq⟩ : ∃ q, q = addRowP cs x.data.toList := ⟨_, rfl⟩
        rw [← hq] at hadd
        have ctb := (cell_blk h7).1
        have HADD := hide hadd
        have HPX := hide hpx
        have HQ := hide hq
        have H2 := hide h2
        have H4 := hide h4
        have H5 := hide h5
        have H6 := hide h6
        have H7 := hide h7
        have H8 := hide h8
        have HCF := hide hcellF
        have hdead : Hid (∀ c : Option (List Col), (match q with | some ds => if isT ds = true then some ds else none | none => none) = none → r = none) := by
          intro _ hm
          rw [HR2.out]
          obtain ⟨rest, hrest⟩ := HPX.out
          have e : linesL bd = (pre.map (·.data.toList) ++ [x.data.toList]) ++ rest.map (·.data.toList) := by
            have : (wB (linesL bd)).map (·.data.toList) = linesL bd := wB_data _
            rw [← this, ← HXS.out, ← hrest]
            simp
          rw [e, rowsP_append, rowsP_append, H2.out]
          simp only [Option.bind_some, rowsP]
          rw [← HQ.out]
          cases q with
          | none => rfl
          | some ds =>
            simp only at hm ⊢
            by_cases hi : isT ds = true
            · rw [if_pos hi] at hm; cases hm
            · rw [if_neg hi]; rfl
        clear h1 h2 h4 h5 h6 h8 hx hxm hpx hbelow hF0 hadd hcellF hq
        cases q with
        | none =>
          have hrn := hide (hdead.out none rfl)
          gi_wp2_with fail
          refine ⟨trivial, ?_⟩
          gi_at_call 38
          refine (CallsIn.inRound l (callsIn_wide.2 HADD.out)).mono ?_
          rintro e W2 ⟨ho2, rfl⟩
          have hk2 := hide (KeepsOthers.of_only ho2 HCF.out)
          have hR2 := hide (H8.out.only ho2 (fun b hb => (H6.out b hb).1))
          obtain ⟨rc0, rf0, rc1, rf1⟩ := hR2.out.cells
          clear ho2
          gi_wp2_with fail
          refine ⟨trivial, ?_⟩
          gi_wp2_with fail
          exact ⟨(hk2.out.trans (KeepsOthers.setCell _ _ _)).trans (KeepsOthers.setCell _ _ _), hR2.out.stored, hrn.out⟩
        | some ds =>
          have hbnd := hide (addRow_bounds h3 HQ.out.symm)
          obtain ⟨t1, ht1⟩ : ∃ t, t = isT ds := ⟨_, rfl⟩
          have HT1 := hide ht1
          clear ht1
          gi_wp2_with fail
          refine ⟨trivial, ?_⟩
          gi_at_call 38
          refine (CallsIn.inRound l (callsIn_wide.2 HADD.out)).mono ?_
          rintro e W2 ⟨ho2, rfl, F', hds, hF'⟩
          have hk2 := hide (KeepsOthers.of_only ho2 HCF.out)
          have hR2 := hide (H8.out.only ho2 (fun b hb => (H6.out b hb).1))
          have hX2 := hide (show W2.heap[bt]? = some (.cells #[.slice a cs0.length cap] 26 (0, 0)) by
            rw [ho2.block bt (Array.getElem?_eq_some_iff.1 H7.out).1 (fun hf => (H6.out bt hf).2.1 rfl)]; exact H7.out)
          have hB2 := hide (ho2.block Bs hBW (fun hf => (H6.out Bs hf).2.2 rfl))
          have hlen : ds.length = cs0.length := by
            obtain ⟨_, _, hv, _⟩ := hds.form
            simp only [Value.slice.injEq] at hv
            exact hv.2.1.symm
          have HF' := hide (show ∀ b ∈ F', w.heap.size + 1 < b ∧ b ≠ bt ∧ b ≠ Bs from fun b hb => by
            rcases hF' b hb with h | h
            · exact H6.out b h
            · have h1 := (Array.getElem?_eq_some_iff.1 H7.out).1
              have h2 := H8.out.lt
              exact ⟨by omega, by omega, by omega⟩)
          have hT2 : Tbl W2 W2.heap.size (.agg #[.slice a cs0.length cap]) ds := ⟨_, rfl, colsE_cols hds (Nat.le_refl _) hbnd.out⟩
          have HIT2 := hide (iTable_any _ ds W2 _ hT2 (Nat.le_refl _))
          rw [← HT1.out] at HIT2
          have HDS := hide hds
          have HLEN := hide hlen
          have ctb2 := (cell_blk hX2.out).1
          clear ho2 hds hF' hlen hT2 ctb
          gi_wp2_with fail
          refine ⟨trivial, ?_⟩
          gi_at_call 30
          refine (CallsIn.inRound l (callsIn_wide.2 HIT2.out)).mono ?_
          rintro e W3 ⟨rfl, hb3⟩
          have hk3 := hide (hk2.out.trans (KeepsOthers.of_below hb3))
          have hR3 := hide (hR2.out.up hb3)
          have hX3 := hide (show W3.heap[bt]? = some (.cells #[.slice a cs0.length cap] 26 (0, 0)) by
            rw [hb3.block bt (Array.getElem?_eq_some_iff.1 hX2.out).1]; exact hX2.out)
          have hB3 := hide (show W3.heap[Bs]? = W.heap[Bs]? by
            rw [hb3.block Bs (Nat.lt_of_lt_of_le hBW hk2.out.size)]; exact hB2.out)
          have hD3 := hide (slE.below colE_good HDS.out hb3)
          obtain ⟨rc0, rf0, rc1, rf1⟩ := hR3.out.cells
          clear hb3 ctb2
          cases t1
          · have hrn := hide (hdead.out none (by rw [← HT1.out]; rfl))
            gi_wp2_with fail
            exact ⟨(hk3.out.trans (KeepsOthers.setCell _ _ _)).trans (KeepsOthers.setCell _ _ _), hR3.out.stored, hrn.out⟩
          · gi_wp2_with fail
            refine ⟨hk3.out, hB3.out, ds, F', HPX.out, ?_, HT1.out.symm, HLEN.out, hD3.out, HF'.out, hX3.out, hR3.out⟩
            rw [List.map_append, rowsP_append, H2.out]
            simp only [Option.bind_some, List.map_cons, List.map_nil, rowsP]
            rw [← HQ.out]
            simp only
            rw [if_pos HT1.out.symm]
      case done =>
        rintro D W hD ⟨cs, F, h1, h2, h3, h4, h5, h6, h7, h8⟩ hK
        have hrs : r = some cs := by
          rw [HR2.out, ← h2, HXS.out, wB_data]
        have ctb := (cell_blk h7).1
        obtain ⟨rc0, rf0, rc1, rf1⟩ := h8.cells
        have H1 := hide h1
        have H4 := hide h4
        have H5 := hide h5
        have H6 := hide h6
        have H8 := hide h8
        have HK := hide hK
        have HRS := hide hrs
        clear h1 h2 h4 h5 h6 h7 h8 hK hrs
        gi_wp2_with fail
        obtain ⟨e0, e1⟩ := set2 (v := .slice a cs0.length cap) (x := .bool true) H8.out.b0 H8.out.b1 (by omega)
        have hlt := H8.out.lt
        have hDlt := (Array.getElem?_eq_some_iff.1 HK.out).1
        have hD1 : w.heap.size + 1 < D := by omega
        refine ⟨by simp, .inl ⟨D, _, rfl, run_takeDeferred ((Below.heap_setCell _ _ _ _ (by simp only; omega)).trans ((Below.heap_setCell _ _ _ _ (by simp only; omega)).trans HK.out)), ?_⟩⟩
        obtain ⟨W1, hW1⟩ : ∃ W1, W1 = (W.setCell ⟨w.heap.size, 0, none⟩ (.slice a cs0.length cap)).setCell ⟨w.heap.size + 1, 0, none⟩ (.bool true) := ⟨_, rfl⟩
        have hb1 : Below w.heap.size w W1 := by
          rw [hW1]
          exact (H8.out.below.setCell (p := ⟨w.heap.size, 0, none⟩) (Nat.le_refl _) _).setCell (p := ⟨w.heap.size + 1, 0, none⟩) (Nat.le_succ _) _
        have hc1 : colsE W1 (.slice a cs0.length cap) cs F := by
          refine slE.kept colE_good H5.out fun b hb => ?_
          have := (H6.out b hb).1
          rw [hW1]
          exact (Below.heap_setCell _ _ _ _ (by simp only; omega)).trans (Below.heap_setCell _ _ _ _ (by simp only; omega))
        have hcl1 := colsE_cells hc1
        have hD2 : W1.heap[D]? = some (.deferred (some [])) := by
          rw [hW1]
          exact (Below.heap_setCell _ _ _ _ (by simp only; omega)).trans ((Below.heap_setCell _ _ _ _ (by simp only; omega)).trans HK.out)
        rw [← hW1] at e0 e1 ⊢
        obtain ⟨W2, hW2⟩ : ∃ W2, W2 = W1.putObj D (.deferred none) := ⟨_, rfl⟩
        have hoth : ∀ k, k ≠ D → W2.heap[k]? = W1.heap[k]? := fun k hk => by rw [hW2]; exact World.putObj_heap_other hk
        have g0 : W2.cell? ⟨w.heap.size, 0, none⟩ = some (.slice a cs0.length cap) := (World.cell?_of_block (hoth _ (by simp only; omega))).trans e0
        have g1 : W2.cell? ⟨w.heap.size + 1, 0, none⟩ = some (.bool true) := (World.cell?_of_block (hoth _ (by simp only; omega))).trans e1
        have hb2 : Below w.heap.size w W2 := by
          refine ⟨by rw [hW2]; exact hb1.os, by rw [hW2]; exact hb1.tape, by rw [hW2]; exact hb1.output, by rw [hW2, World.putObj_size]; exact hb1.size, fun k hk => ?_⟩
          rw [hoth k (by omega)]
          exact hb1.block k hk
        have hc2 : colsE W2 (.slice a cs0.length cap) cs F := by
          refine slE.kept colE_good hc1 fun b hb => hoth b ?_
          rintro rfl
          obtain ⟨o, h9, h10⟩ := hcl1 b hb
          rw [hD2] at h9
          cases h9
          cases h10
        rw [← hW2]
        refine ⟨.tuple #[.agg #[.slice a cs0.length cap], .bool true], by simp [results, Tryz.results7, go_sem, g0, g1], ?_⟩
        rw [HRS.out]
        refine ⟨hb2, a, cap, F, by rw [H4.out], by rw [H4.out]; exact hc2, fun b hb => by have := (H6.out b hb).1; omega⟩
      case stop =>
        rintro D c pre W hD ⟨hrb, hrn⟩ rfl hK
        obtain ⟨e0, -, e1, -⟩ := hrb.cells
        have hDlt := (Array.getElem?_eq_some_iff.1 hK).1
        have hlt := hrb.lt
        have hb1 := hrb.below
        gi_wp2_with fail
        refine ⟨by simp, .inl ⟨D, _, rfl, run_takeDeferred hK, ?_⟩⟩
        obtain ⟨W1, hW1⟩ : ∃ W1, W1 = W := ⟨_, rfl⟩
        rw [← hW1] at e0 e1 hb1 hlt hDlt ⊢
        obtain ⟨W2, hW2⟩ : ∃ W2, W2 = W1.putObj D (.deferred none) := ⟨_, rfl⟩
        have hoth : ∀ k, k ≠ D → W2.heap[k]? = W1.heap[k]? := fun k hk => by rw [hW2]; exact World.putObj_heap_other hk
        have g0 : W2.cell? ⟨w.heap.size, 0, none⟩ = some (.slice none 0 0) := (World.cell?_of_block (hoth _ (by simp only; omega))).trans e0
        have g1 : W2.cell? ⟨w.heap.size + 1, 0, none⟩ = some (.bool false) := (World.cell?_of_block (hoth _ (by simp only; omega))).trans e1
        have hb2 : Below w.heap.size w W2 := by
          refine ⟨by rw [hW2]; exact hb1.os, by rw [hW2]; exact hb1.tape, by rw [hW2]; exact hb1.output, by rw [hW2, World.putObj_size]; exact hb1.size, fun k hk => ?_⟩
          rw [hoth k (by omega)]
          exact hb1.block k hk
        rw [← hW2]
        refine ⟨.tuple #[.agg #[.slice none 0 0], .bool false], by simp [results, Tryz.results7, go_sem, g0, g1], ?_⟩
        rw [hrn]
        exact ⟨hb2, rfl⟩

end Go.Proofs.YtgeegbbcjdlkbaaGreatDoor
