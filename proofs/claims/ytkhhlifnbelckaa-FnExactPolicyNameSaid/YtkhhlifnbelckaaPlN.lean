/- Settings, seeds, names: what IsSettings, NextSeed and PolicyName return, of the reference and of the program (promise 4). -/
import Derived.Test.YtkhhlifnbelckaaPlA
import Derived.Test.YtkhhlifnbelckaaPlC
import Derived.Test.YtkhhlifnbelckaaIn
import Derived.Test.YtkhhlifnbelckaaMeet
import Derived.Deep.RegionHeld3
import Derived.Deep.RegionWith
import Derived.Laws.EntriesVeiled
namespace Go.Proofs.Ytkhhlifnbelckaa
open Go.RowKit Go.ChangeShapes
set_option linter.unusedSimpArgs false
set_option linter.unusedVariables false
set_option maxRecDepth 100000

/-- Settings that came in as an argument of a law. -/
theorem open_st {H : Type} {enc : TypeId × Value → H} {W : World} {base : Nat} {v : Value} {d : DataW H} {p : List MemPlace} (hv : Value.okWide Try.prog W .any base 54 v) (h : DataW.Trod enc Try.prog W 0 (fun _ => true) true 54 v d p) :
    ∃ a b c : Int, v = .agg #[.int .i64 a, .int .i64 b, .int .i64 c] ∧ I64 a ∧ I64 b ∧ I64 c := by
  obtain ⟨v0, v1, v2, y0, y1, y2, n, rfl, _, _, t0, t1, t2⟩ := Joins.open_agg3 Try.underlying54 (by kernel_rfl) (by kernel_rfl) hv h
  obtain ⟨a, ha, _, wa⟩ := DataW.trod_int Try.underlying3 t0
  obtain ⟨b, hb, _, wb⟩ := DataW.trod_int Try.underlying3 t1
  obtain ⟨c, hc, _, wc⟩ := DataW.trod_int Try.underlying3 t2
  simp at ha hb hc
  subst ha; subst hb; subst hc
  have b0 := bounds_i64 wa
  have b1 := bounds_i64 wb
  have b2 := bounds_i64 wc
  exact ⟨a, b, c, rfl, ⟨by omega, by omega⟩, ⟨by omega, by omega⟩, ⟨by omega, by omega⟩⟩

theorem Kn.join {w u W : World} {L M : List (Nat × Array Value × TypeId)} (h : Kn w u L) (k : Kn u W M) : Kn w W (L ++ M) := by
  have h2 := h.up k.below
  refine ⟨h2.below, fun e he => ?_, fun e he => ?_, ?_⟩
  · rcases List.mem_append.1 he with he | he
    · exact h2.hold e he
    · exact k.hold e he
  · rcases List.mem_append.1 he with he | he
    · exact h.high e he
    · exact Nat.le_trans h.below.size (k.high e he)
  · rw [List.map_append, List.nodup_append]
    refine ⟨h.nodup, k.nodup, fun a ha b hb => ?_⟩
    obtain ⟨e, he, rfl⟩ := List.mem_map.1 ha
    obtain ⟨f, hf, rfl⟩ := List.mem_map.1 hb
    have h3 := (Array.getElem?_eq_some_iff.1 (h.hold e he)).1
    have h4 := k.high f hf
    omega

theorem Kn.put2s {w W : World} {g : Nat} {x y : Value} {t : TypeId} (h : Kn w W [(g, #[x, y], t)]) (a b : Value) :
    Kn w ((W.setCell ⟨g, 0, none⟩ a).setCell ⟨g, 1, none⟩ b) [(g, #[a, b], t)] := (h.set 0 0 rfl a).set 0 1 rfl b

/-- A number is returned; nothing turns. -/
def RetI (w : World) (n : Int) (e : Ending) (w' : World) : Prop := e = .returned (.int .i64 n) ∧ w = w'

theorem tmod_pos {n : Int} (h : 0 ≤ n) : n.tmod 10007 = n % 10007 := Int.tmod_eq_emod_of_nonneg h
theorem tmod_neg {n : Int} (h : n < 0) : n.tmod 10007 = -((-n) % 10007) := by
  have := Int.neg_tmod (-n) 10007
  rw [Int.neg_neg] at this
  rw [this, tmod_pos (by omega)]

theorem tmod_in (n : Int) : -10006 ≤ n.tmod 10007 ∧ n.tmod 10007 ≤ 10006 ∧ (n.tmod 10007 = n % 10007 ∨ n.tmod 10007 = n % 10007 - 10007) := by
  by_cases h : 0 ≤ n
  · rw [tmod_pos h]; omega
  · rw [tmod_neg (by omega)]; omega

theorem ns_end {x : Int} (h : 0 ≤ x ∧ x ≤ 10006) : (wrap64 (wrap64 (x * 1103) + 2345)).tmod 10007 = (x * 1103 + 2345) % 10007 := by
  rw [IntWalk.wrap64_in (x * 1103) (by omega), IntWalk.wrap64_in _ (by omega), tmod_pos (by omega)]

theorem ns_s (n : Int) : (wrap64 (wrap64 ((wrap64 (n.tmod 10007 + 10007)).tmod 10007 * 1103) + 2345)).tmod 10007 = nsF n := by
  have h := tmod_in n
  rw [IntWalk.wrap64_in (n.tmod 10007 + 10007) (by omega), tmod_pos (n := n.tmod 10007 + 10007) (by omega), show (n.tmod 10007 + 10007) % 10007 = n % 10007 by omega, ns_end (by omega)]
  rfl

theorem ns_i {n : Int} (hn : n.tmod 10007 < 0) : (wrap64 (wrap64 (wrap64 (n.tmod 10007 + 10007) * 1103) + 2345)).tmod 10007 = nsF n := by
  have h := tmod_in n
  rw [IntWalk.wrap64_in (n.tmod 10007 + 10007) (by omega), ns_end (by omega), show n.tmod 10007 + 10007 = n % 10007 by omega]
  rfl

theorem ns_j {n : Int} (hn : 0 ≤ n.tmod 10007) : (wrap64 (wrap64 (n.tmod 10007 * 1103) + 2345)).tmod 10007 = nsF n := by
  have h := tmod_in n
  rw [ns_end (by omega), show n.tmod 10007 = n % 10007 by omega]
  rfl

theorem sNext_any (n : Int) (w : World) : Calls Try.prog 33 #[.int .i64 n] w (RetI w (nsF n)) := by
  go_enter Try.func33, Try.ntmps33
  go_wp2_with fail
  go_ret
  exact ⟨by rw [← ns_s n]; rfl, rfl⟩

theorem iNext_any (n : Int) (w : World) : Calls Try.prog 34 #[.int .i64 n] w (RetI w (nsF n)) := by
  by_cases h : n.tmod 10007 < 0
  · go_enter Try.func34, Try.ntmps34
    go_wp2_with fail
    go_ret
    exact ⟨by rw [← ns_i h]; rfl, rfl⟩
  · go_enter Try.func34, Try.ntmps34
    go_wp2_with fail
    go_ret
    exact ⟨by rw [← ns_j h]; rfl, rfl⟩

/-- Settings are returned; nothing that was there has turned. -/
def RetSt (w : World) (a b c : Int) (e : Ending) (w' : World) : Prop := e = .returned (.agg #[.int .i64 a, .int .i64 b, .int .i64 c]) ∧ Below w.heap.size w w'

theorem toSettings_any (a b c : Int) (w : World) : Calls Try.prog 31 #[.agg #[.int .i64 a, .int .i64 b, .int .i64 c]] w (RetSt w a b c) := by
  go_enter Try.func31, Try.ntmps31
  go_wp2_with fail
  exact bodyPost_ret (v := .agg #[.int .i64 a, .int .i64 b, .int .i64 c]) (by simp [results, Try.results31, go_sem]) rfl ⟨rfl, (below1 _ _).trans ((below1 _ _).mono (by simp) |>.trans ((below1 _ _).mono (by simp; omega)))⟩

theorem eqSettings_same (a b c : Int) (w : World) : Calls Try.prog 43 #[.agg #[.int .i64 a, .int .i64 b, .int .i64 c], .agg #[.int .i64 a, .int .i64 b, .int .i64 c]] w (RetB1 w true) := by
  have h1 : (a != a) = false := by simp
  have h2 : (b != b) = false := by simp
  have h3 : (c != c) = false := by simp
  go_enter Try.func43, Try.ntmps43
  go_wp2_with fail
  go_ret
  exact ⟨rfl, (below1 _ _).trans ((below1 _ _).mono (by simp))⟩

set_option maxHeartbeats 2000000 in
theorem sIsSet_any (p t s : Int) (w : World) : Calls Try.prog 30 #[.agg #[.int .i64 p, .int .i64 t, .int .i64 s]] w (RetB1 w (isSet p t s)) := by
  by_cases h1 : 0 ≤ p ∧ p ≤ 2
  · by_cases h2 : 1 ≤ t ∧ t ≤ 64
    · by_cases h3 : 0 ≤ s ∧ s ≤ 10006
      · have e : isSet p t s = true := decide_eq_true (by omega)
        rw [e]
        clear e
        go_enter Try.func30, Try.ntmps30
        go_wp2_with fail
        refine (in_yes _ _ _ _ h1.1 h1.2).mono ?_
        rintro e w1 ⟨rfl, rfl⟩
        go_wp2_with fail
        refine (in_yes _ _ _ _ h2.1 h2.2).mono ?_
        rintro e w1 ⟨rfl, rfl⟩
        go_wp2_with fail
        refine (in_yes _ _ _ _ h3.1 h3.2).mono ?_
        rintro e w1 ⟨rfl, rfl⟩
        go_wp2_with fail
        go_ret
        exact ⟨rfl, below1 _ _⟩
      · have e : isSet p t s = false := decide_eq_false (by omega)
        rw [e]
        clear e
        go_enter Try.func30, Try.ntmps30
        go_wp2_with fail
        refine (in_yes _ _ _ _ h1.1 h1.2).mono ?_
        rintro e w1 ⟨rfl, rfl⟩
        go_wp2_with fail
        refine (in_yes _ _ _ _ h2.1 h2.2).mono ?_
        rintro e w1 ⟨rfl, rfl⟩
        go_wp2_with fail
        refine (in_no _ _ _ _ (by omega)).mono ?_
        rintro e w1 ⟨rfl, rfl⟩
        go_wp2_with fail
        go_ret
        exact ⟨rfl, below1 _ _⟩
    · have e : isSet p t s = false := decide_eq_false (by omega)
      rw [e]
      clear e
      go_enter Try.func30, Try.ntmps30
      go_wp2_with fail
      refine (in_yes _ _ _ _ h1.1 h1.2).mono ?_
      rintro e w1 ⟨rfl, rfl⟩
      go_wp2_with fail
      refine (in_no _ _ _ _ (by omega)).mono ?_
      rintro e w1 ⟨rfl, rfl⟩
      go_wp2_with fail
      go_ret
      exact ⟨rfl, below1 _ _⟩
  · have e : isSet p t s = false := decide_eq_false (by omega)
    rw [e]
    clear e
    go_enter Try.func30, Try.ntmps30
    go_wp2_with fail
    refine (in_no _ _ _ _ (by omega)).mono ?_
    rintro e w1 ⟨rfl, rfl⟩
    go_wp2_with fail
    go_ret
    exact ⟨rfl, below1 _ _⟩

/-- The name of a policy. -/
def polN (p : Int) : ByteArray := if p = 0 then nmPlain else if p = 1 then nmCenter else if p = 2 then nmRandom else .empty

theorem sPol_any (p : Int) (w : World) : Calls Try.prog 49 #[.int .i64 p] w fun e w' => e = .returned (.string (polN p)) ∧ Below w.heap.size w w' := by
  by_cases h1 : 0 ≤ p ∧ p ≤ 2
  · go_enter Try.func49, Try.ntmps49
    go_wp2_with fail
    refine (in_yes _ _ _ _ h1.1 h1.2).mono ?_
    rintro e w1 ⟨rfl, rfl⟩
    have h3 : p = 0 ∨ p = 1 ∨ p = 2 := by omega
    rcases h3 with rfl | rfl | rfl
    · go_wp2_with fail
      go_ret
      exact ⟨rfl, below1 _ _⟩
    · go_wp2_with fail
      go_ret
      exact ⟨rfl, below1 _ _⟩
    · go_wp2_with fail
      go_ret
      exact ⟨rfl, below1 _ _⟩
  · go_enter Try.func49, Try.ntmps49
    go_wp2_with fail
    refine (in_no _ _ _ _ (by omega)).mono ?_
    rintro e w1 ⟨rfl, rfl⟩
    go_wp2_with fail
    go_ret
    refine ⟨?_, Below.refl _ _⟩
    unfold polN
    rw [if_neg (by omega), if_neg (by omega), if_neg (by omega)]
    rfl

theorem chV_form (p : Int) : (∃ n, chV p = .agg #[.string (polN p), .func (.func n) #[] #[]]) ∨ chV p = .agg #[.string (polN p), .nilFunc] := by
  unfold chV polN
  by_cases h0 : p = 0
  · exact .inl ⟨_, by rw [if_pos h0, if_pos h0]⟩
  by_cases h1 : p = 1
  · exact .inl ⟨_, by rw [if_neg h0, if_neg h0, if_pos h1, if_pos h1]⟩
  by_cases h2 : p = 2
  · exact .inl ⟨_, by rw [if_neg h0, if_neg h0, if_neg h1, if_neg h1, if_pos h2, if_pos h2]⟩
  exact .inr (by rw [if_neg h0, if_neg h0, if_neg h1, if_neg h1, if_neg h2, if_neg h2])

theorem field0_ch (x : ByteArray) (y : Value) (W : World) : (Instr.field 100 (.agg #[.string x, y]) 0).run Try.prog W = .ok (.string x) W := by kernel_rfl
theorem field1_chf (x : ByteArray) (n : FuncId) (W : World) : (Instr.field 100 (.agg #[.string x, .func (.func n) #[] #[]]) 1).run Try.prog W = .ok (.func (.func n) #[] #[]) W := by kernel_rfl

theorem iPol_any (p : Int) (w : World) : Calls Try.prog 50 #[.int .i64 p] w fun e w' => e = .returned (.string (polN p)) ∧ Below w.heap.size w w' := by
  go_enter Try.func50, Try.ntmps50
  go_wp2_with fail
  refine (choosers_any _).mono ?_
  rintro e w1 ⟨b, rfl, hb, hlo, hbel⟩
  have hlk := look_ch hb p false
  rw [if_neg (by simp)] at hlk
  have hf0 := fun y => field0_ch (polN p) y w1
  rcases chV_form p with ⟨n, hf⟩ | hf
  · rw [hf] at hlk
    go_wp2_with fail
    go_ret
    exact ⟨rfl, hbel⟩
  · rw [hf] at hlk
    go_wp2_with fail
    go_ret
    exact ⟨rfl, hbel⟩

set_option maxHeartbeats 4000000 in
theorem iIsSet_any (p t s : Int) (w : World) : Calls Try.prog 32 #[.agg #[.int .i64 p, .int .i64 t, .int .i64 s]] w (RetB1 w (isSet p t s)) := by
  have X := hide (Kn.one w #[.int .i64 p, .int .i64 t, .int .i64 s] 56)
  obtain ⟨w1, hw1⟩ : ∃ w1, w1 = w.alloc (.cells #[.int .i64 p, .int .i64 t, .int .i64 s] 56) := ⟨_, rfl⟩
  rw [← hw1] at X
  have c0 : w1.cell? ⟨w.heap.size, 0, none⟩ = some (.int .i64 p) := X.out.cell 0 0 rfl rfl
  rw [hw1] at c0
  obtain ⟨r, hr⟩ : ∃ r, r = isSet p t s := ⟨_, rfl⟩
  have HR := hide hr
  rw [← hr]
  clear hr
  go_enter Try.func32, Try.ntmps32
  go_upto_region 1 with fail
  rw [← hw1]
  rw [← hw1] at c0
  clear hw1
  go_cut [4] (fun x wx => x = .bool (chK p) ∧ Hid (Kn w wx [(w.heap.size, #[.int .i64 p, .int .i64 t, .int .i64 s], 56)]))
  case first =>
    have KS := hide (fun (w' : World) (M : List (Nat × Array Value × TypeId)) (h : Kn w1 w' M) => show w'.cell? ⟨w.heap.size, 0, none⟩ = some (.int .i64 p) from (Kn.join X.out h).cell 0 0 rfl rfl)
    have Y0 := hide (Kn.start w1)
    have Y := hide (Y0.out.drew)
    clear c0
    have c0 := KS.out _ _ Y.out
    rcases chV_form p with ⟨n, hf⟩ | hf
    · have HF := hide hf
      clear hf
      go_region_held3 (fun w' => w'.cell? ⟨w.heap.size, 0, none⟩ = some (.int .i64 p)) (first | with_reducible exact KS.out _ _ Y.out | with_reducible exact KS.out _ _ (Y.out.alloc _ _) | with_reducible exact KS.out _ _ (Y0.out.alloc _ _).drew | with_reducible exact KS.out _ _ (Kn.put2s Y.out _ _) | go_keep) (first
        | (go_at_call 82; refine (choosers_any _).mono ?_; rintro e wq ⟨b, rfl, hb, hlo, hbel⟩; have hlk := look_ch hb p true; rw [if_pos rfl, HF.out] at hlk; have hlk2 := look_ch (w := wq.alloc (.cells #[.string ⟨#[]⟩, .nilFunc] 100)) ((heap_alloc_old _ _ (by exact (Array.getElem?_eq_some_iff.1 hb).1)).trans hb) p true; rw [if_pos rfl, HF.out] at hlk2; (first | replace Y := hide (by with_reducible exact Y.out.up hbel) | replace Y := hide (by with_reducible exact Y.out.upA hbel) | replace Y := hide (by with_reducible exact Y0.out.upD hbel)); clear c0; have c0 := KS.out _ _ Y.out; (first | (have e0 := Y.out.cell 0 0 rfl rfl; have e1 := Y.out.cell 0 1 rfl rfl; have f0 := Y.out.free 0 0 rfl; have f1 := Y.out.free 0 1 rfl) | skip)))
      all_goals go_wp2_with fail
      all_goals go_meet
      all_goals first | exact ⟨rfl, hide (X.out.up (Y.out.alloc _ _).below)⟩ | exact ⟨rfl, hide (X.out.up (Kn.put2s Y.out _ _).below)⟩
    · have HF := hide hf
      clear hf
      go_region_held3 (fun w' => w'.cell? ⟨w.heap.size, 0, none⟩ = some (.int .i64 p)) (first | with_reducible exact KS.out _ _ Y.out | with_reducible exact KS.out _ _ (Y.out.alloc _ _) | with_reducible exact KS.out _ _ (Y0.out.alloc _ _).drew | with_reducible exact KS.out _ _ (Kn.put2s Y.out _ _) | go_keep) (first
        | (go_at_call 82; refine (choosers_any _).mono ?_; rintro e wq ⟨b, rfl, hb, hlo, hbel⟩; have hlk := look_ch hb p true; rw [if_pos rfl, HF.out] at hlk; have hlk2 := look_ch (w := wq.alloc (.cells #[.string ⟨#[]⟩, .nilFunc] 100)) ((heap_alloc_old _ _ (by exact (Array.getElem?_eq_some_iff.1 hb).1)).trans hb) p true; rw [if_pos rfl, HF.out] at hlk2; (first | replace Y := hide (by with_reducible exact Y.out.up hbel) | replace Y := hide (by with_reducible exact Y.out.upA hbel) | replace Y := hide (by with_reducible exact Y0.out.upD hbel)); clear c0; have c0 := KS.out _ _ Y.out; (first | (have e0 := Y.out.cell 0 0 rfl rfl; have e1 := Y.out.cell 0 1 rfl rfl; have f0 := Y.out.free 0 0 rfl; have f1 := Y.out.free 0 1 rfl) | skip)))
      all_goals go_wp2_with fail
      all_goals go_meet
      all_goals first | exact ⟨rfl, hide (X.out.up (Y.out.alloc _ _).below)⟩ | exact ⟨rfl, hide (X.out.up (Kn.put2s Y.out _ _).below)⟩
  case rest =>
    obtain ⟨rfl, X⟩ := hcut
    have c0 : wc.cell? ⟨w.heap.size, 0, none⟩ = some (.int .i64 p) := X.out.cell 0 0 rfl rfl
    have c1 : wc.cell? ⟨w.heap.size, 1, none⟩ = some (.int .i64 t) := X.out.cell 0 1 rfl rfl
    have c2 : wc.cell? ⟨w.heap.size, 2, none⟩ = some (.int .i64 s) := X.out.cell 0 2 rfl rfl
    by_cases h1 : 0 ≤ p ∧ p ≤ 2
    · have e1 : chK p = true := decide_eq_true h1
      rw [e1]
      by_cases h2 : 1 ≤ t
      · by_cases h3 : t ≤ 64
        · by_cases h4 : 0 ≤ s
          · by_cases h5 : s < 10007
            · have e : isSet p t s = true := decide_eq_true (by omega)
              obtain rfl := HR.out.trans e
              clear e e1 HR
              go_wp2_with fail
              go_ret
              exact ⟨rfl, X.out.below⟩
            · have e : isSet p t s = false := decide_eq_false (by omega)
              obtain rfl := HR.out.trans e
              clear e e1 HR
              go_wp2_with fail
              go_ret
              exact ⟨rfl, X.out.below⟩
          · have e : isSet p t s = false := decide_eq_false (by omega)
            obtain rfl := HR.out.trans e
            clear e e1 HR
            go_wp2_with fail
            go_ret
            exact ⟨rfl, X.out.below⟩
        · have e : isSet p t s = false := decide_eq_false (by omega)
          obtain rfl := HR.out.trans e
          clear e e1 HR
          go_wp2_with fail
          go_ret
          exact ⟨rfl, X.out.below⟩
      · have e : isSet p t s = false := decide_eq_false (by omega)
        obtain rfl := HR.out.trans e
        clear e e1 HR
        go_wp2_with fail
        go_ret
        exact ⟨rfl, X.out.below⟩
    · have e1 : chK p = false := decide_eq_false h1
      rw [e1]
      have e : isSet p t s = false := decide_eq_false (by omega)
      obtain rfl := HR.out.trans e
      clear e e1 HR
      go_wp2_with fail
      go_ret
      exact ⟨rfl, X.out.below⟩

end Go.Proofs.Ytkhhlifnbelckaa
