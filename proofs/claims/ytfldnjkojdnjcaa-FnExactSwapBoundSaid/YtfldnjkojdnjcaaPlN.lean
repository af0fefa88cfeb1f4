/- The choosers (a map of functions, made anew at each call, and what is found in it); settings, seeds, names: what IsSettings, NextSeed and PolicyName return, of the reference and of the program (promise 4). -/
import Derived.Test.YtfldnjkojdnjcaaPlA
import Derived.Test.YtfldnjkojdnjcaaIn
import Derived.Test.YtfldnjkojdnjcaaRng
import Derived.Test.YtfldnjkojdnjcaaKn
import Derived.Maps.Own
import Derived.Deep.RegionHeld3
import Derived.Deep.RegionWith
import Derived.Laws.EntriesVeiled
namespace Go.Proofs.Ytfldnjkojdnjcaa
open Go.RowKit Go.ChangeShapes
open Go.ChangeMaps (setBlock)
set_option linter.unusedSimpArgs false
set_option linter.unusedVariables false
set_option maxRecDepth 100000

theorem Kn.apart {w W : World} {L : List (Nat × Array Value × TypeId)} (h : Kn w W L) (i j : Nat) {g g' : Nat} {c c' : Array Value} {t t' : TypeId} (ho : L[i]? = some (g, c, t)) (ho' : L[j]? = some (g', c', t')) (hij : i ≠ j) : g ≠ g' := by
  intro e
  obtain ⟨hi, e1⟩ := List.getElem?_eq_some_iff.1 ho
  obtain ⟨hj, e2⟩ := List.getElem?_eq_some_iff.1 ho'
  have hl : (L.map (·.1)).length = L.length := List.length_map _
  have h2 := List.pairwise_iff_getElem.1 h.nodup
  rcases Nat.lt_or_gt_of_ne hij with hlt | hlt
  · have := h2 i j (by omega) (by omega) hlt
    simp [e1, e2, e] at this
  · have := h2 j i (by omega) (by omega) hlt
    simp [e1, e2, e] at this

theorem run_insert_new {P : Program} {w : World} {t kt et : TypeId} {q : IntKind} {b clock : Nat} {es : Array MapEntry} {a : Int} {v : Value} (ht : P.underlying t = some (.map kt et)) (hk : P.underlying kt = some (.int q))
    (hb : w.heap[b]? = some (.map es clock)) (hn : Instr.findNow (.int q) (.int q a) es.toList 0 = some none) :
    (Instr.mapUpdate t (.map (some b)) (.int q a) v).run P w = .ok () (setBlock w b (.map (es.push { key := .int q a, val := v, born := clock }) (clock + 1))) := by
  unfold Instr.mapUpdate
  simp only [Sem.run_bind, run_underlying ht, Result.andThen, MapKept.run_getObj_map hb, MapKept.run_checkKey hk (show MapKept.IsKey (.int q) (.int q a) from rfl), MapKept.run_findKey hk hn, MapKept.run_setObj_map _ hb]
  rfl

theorem run_look_int {P : Program} {w : World} {t kt et : TypeId} {q : IntKind} {b clock : Nat} {es : Array MapEntry} {a : Int} {z : Value} {r : Option (Nat × Value)} (c : Bool) (ht : P.underlying t = some (.map kt et)) (hk : P.underlying kt = some (.int q))
    (hz : (zeroValue et).run P w = .ok z w) (hb : w.heap[b]? = some (.map es clock)) (hn : Instr.findNow (.int q) (.int q a) es.toList 0 = some r) :
    (Instr.lookup t (.map (some b)) (.int q a) c).run P w = .ok (if c = true then .tuple #[(r.map (·.2)).getD z, .bool r.isSome] else (r.map (·.2)).getD z) w := by
  unfold Instr.lookup
  simp only [Sem.run_bind, run_underlying ht, Result.andThen, MapKept.run_getObj_map hb, Sem.run_pure, MapKept.run_checkKey hk (show MapKept.IsKey (.int q) (.int q a) from rfl), MapKept.run_findKey hk hn]
  cases r with
  | none => simp only [Sem.run_bind, hz, Result.andThen, Sem.run_pure]; rfl
  | some r => rfl

/-- The names. -/
def nmPlain : ByteArray := ⟨#[112, 108, 97, 105, 110]⟩
def nmCenter : ByteArray := ⟨#[99, 101, 110, 116, 101, 114]⟩
def nmRandom : ByteArray := ⟨#[114, 97, 110, 100, 111, 109]⟩

/-- The entries. -/
def chE : Array MapEntry := #[⟨.int .i64 0, .agg #[.string nmPlain, .func (.func 76) #[] #[]], 0⟩, ⟨.int .i64 1, .agg #[.string nmCenter, .func (.func 76) #[] #[]], 1⟩, ⟨.int .i64 2, .agg #[.string nmRandom, .func (.func 77) #[] #[]], 2⟩]

/-- The choosers are returned. -/
def RetCh (w : World) (e : Ending) (w' : World) : Prop := ∃ b, e = .returned (.map (some b)) ∧ w'.heap[b]? = some (.map chE 3) ∧ w.heap.size ≤ b ∧ Below w.heap.size w w'

theorem setBlock_get {w : World} {b : Nat} {o : Obj} (h : b < w.heap.size) : (setBlock w b o).heap[b]? = some o := by simp [setBlock, h]
theorem setBlock_size {w : World} {b : Nat} {o : Obj} : (setBlock w b o).heap.size = w.heap.size := by simp [setBlock]
theorem setBlock_below {w w' : World} {n b : Nat} {o : Obj} (h : Below n w w') (hb : n ≤ b) : Below n w (setBlock w' b o) :=
  ⟨h.os, h.tape, h.output, by rw [setBlock_size]; exact h.size, fun k hk => by rw [← h.block k hk]; simp [setBlock]; rw [Array.getElem?_setIfInBounds_ne (by omega)]⟩

set_option maxHeartbeats 2000000 in
theorem choosers_any (w : World) : Calls Try.prog 47 #[] w (RetCh w) := by
  have hmm := @run_makeMap Try.prog
  obtain ⟨b, hb⟩ : ∃ b, b = w.heap.size := ⟨_, rfl⟩
  obtain ⟨w1, hw1⟩ : ∃ q, q = w.alloc (.map #[] 0) := ⟨_, rfl⟩
  have g1 : w1.heap[b]? = some (.map #[] 0) := by rw [hw1, hb]; exact heap_alloc_new _ _
  have s1 : w1.heap.size = b + 1 := by rw [hw1, hb]; simp
  have e1 := run_insert_new (P := Try.prog) (v := .agg #[.string nmPlain, .func (.func 76) #[] #[]]) Try.underlying72 Try.underlying3 g1 (a := 0) rfl
  obtain ⟨w2, hw2⟩ : ∃ q, q = setBlock w1 b (.map (#[].push ⟨.int .i64 0, .agg #[.string nmPlain, .func (.func 76) #[] #[]], 0⟩) (0 + 1)) := ⟨_, rfl⟩
  rw [← hw2] at e1
  have g2 : w2.heap[b]? = some (.map (#[].push ⟨.int .i64 0, .agg #[.string nmPlain, .func (.func 76) #[] #[]], 0⟩) (0 + 1)) := by rw [hw2]; exact setBlock_get (by omega)
  have s2 : w2.heap.size = b + 1 := by rw [hw2, setBlock_size, s1]
  have e2 := run_insert_new (P := Try.prog) (v := .agg #[.string nmCenter, .func (.func 76) #[] #[]]) Try.underlying72 Try.underlying3 g2 (a := 1) rfl
  obtain ⟨w3, hw3⟩ : ∃ q, q = setBlock w2 b (.map ((#[].push ⟨.int .i64 0, .agg #[.string nmPlain, .func (.func 76) #[] #[]], 0⟩).push ⟨.int .i64 1, .agg #[.string nmCenter, .func (.func 76) #[] #[]], 0 + 1⟩) (0 + 1 + 1)) := ⟨_, rfl⟩
  rw [← hw3] at e2
  have g3 : w3.heap[b]? = some (.map ((#[].push ⟨.int .i64 0, .agg #[.string nmPlain, .func (.func 76) #[] #[]], 0⟩).push ⟨.int .i64 1, .agg #[.string nmCenter, .func (.func 76) #[] #[]], 0 + 1⟩) (0 + 1 + 1)) := by rw [hw3]; exact setBlock_get (by omega)
  have s3 : w3.heap.size = b + 1 := by rw [hw3, setBlock_size, s2]
  have e3 := run_insert_new (P := Try.prog) (v := .agg #[.string nmRandom, .func (.func 77) #[] #[]]) Try.underlying72 Try.underlying3 g3 (a := 2) rfl
  obtain ⟨w4, hw4⟩ : ∃ q, q = setBlock w3 b (.map (((#[].push ⟨.int .i64 0, .agg #[.string nmPlain, .func (.func 76) #[] #[]], 0⟩).push ⟨.int .i64 1, .agg #[.string nmCenter, .func (.func 76) #[] #[]], 0 + 1⟩).push ⟨.int .i64 2, .agg #[.string nmRandom, .func (.func 77) #[] #[]], 0 + 1 + 1⟩) (0 + 1 + 1 + 1)) := ⟨_, rfl⟩
  rw [← hw4] at e3
  have g4 : w4.heap[b]? = some (.map chE 3) := by rw [hw4]; exact setBlock_get (by omega)
  have hbel : Below w.heap.size w w4 := by
    rw [hw4, hw3, hw2, hw1]
    exact setBlock_below (setBlock_below (setBlock_below (below1 w _) (by omega)) (by omega)) (by omega)
  unfold nmPlain at e1
  unfold nmCenter at e2
  unfold nmRandom at e3
  rw [hw1, hb] at e1
  rw [hb] at e2 e3
  clear g1 g2 g3 s1 s2 s3 hw1 hw2 hw3 hw4
  go_enter Try.func47, Try.ntmps47
  go_wp2_with fail
  go_ret
  subst hb
  exact ⟨_, rfl, g4, Nat.le_refl _, hbel⟩

/-- What is found at a policy: 'v, ok := choosers()[p]'. -/
def chV (p : Int) : Value := if p = 0 then .agg #[.string nmPlain, .func (.func 76) #[] #[]] else if p = 1 then .agg #[.string nmCenter, .func (.func 76) #[] #[]] else if p = 2 then .agg #[.string nmRandom, .func (.func 77) #[] #[]] else .agg #[.string .empty, .nilFunc]
def chK (p : Int) : Bool := decide (0 ≤ p ∧ p ≤ 2)

theorem zeroCh (w : World) : (zeroValue 71).run Try.prog w = .ok (.agg #[.string .empty, .nilFunc]) w := by kernel_rfl

theorem find_ch (p : Int) : Instr.findNow (.int .i64) (.int .i64 p) chE.toList 0 = some (if p = 0 then some (0, chV 0) else if p = 1 then some (1, chV 1) else if p = 2 then some (2, chV 2) else none) := by
  unfold chE
  simp only [Instr.findNow, Instr.sameNow, if_true]
  by_cases h0 : p = 0
  · subst h0; rfl
  by_cases h1 : p = 1
  · subst h1; rfl
  by_cases h2 : p = 2
  · subst h2; rfl
  rw [if_neg h0, if_neg h1, if_neg h2, show (p == 0) = false by simp [h0], show (p == 1) = false by simp [h1], show (p == 2) = false by simp [h2]]

theorem look_ch {w : World} {b : Nat} (h : w.heap[b]? = some (.map chE 3)) (p : Int) (c : Bool) :
    (Instr.lookup 72 (.map (some b)) (.int .i64 p) c).run Try.prog w = .ok (if c = true then .tuple #[chV p, .bool (chK p)] else chV p) w := by
  rw [run_look_int c Try.underlying72 Try.underlying3 (zeroCh w) h (find_ch p)]
  unfold chK
  by_cases h0 : p = 0
  · subst h0; rfl
  by_cases h1 : p = 1
  · subst h1; rfl
  by_cases h2 : p = 2
  · subst h2; rfl
  rw [if_neg h0, if_neg h1, if_neg h2, show decide (0 ≤ p ∧ p ≤ 2) = false from decide_eq_false (by omega)]
  unfold chV
  rw [if_neg h0, if_neg h1, if_neg h2]
  rfl

/-- Settings that came in as an argument of a law. -/
theorem open_st {H : Type} {enc : TypeId × Value → H} {W : World} {base : Nat} {v : Value} {d : DataW H} {p : List MemPlace} (hv : Value.okWide Try.prog W .any base 47 v) (h : DataW.Trod enc Try.prog W 0 (fun _ => true) true 47 v d p) :
    ∃ a b c : Int, v = .agg #[.int .i64 a, .int .i64 b, .int .i64 c] ∧ I64 a ∧ I64 b ∧ I64 c := by
  obtain ⟨v0, v1, v2, y0, y1, y2, n, rfl, _, _, t0, t1, t2⟩ := Joins.open_agg3 Try.underlying47 (by kernel_rfl) (by kernel_rfl) hv h
  obtain ⟨a, ha, _, wa⟩ := DataW.trod_int Try.underlying3 t0
  obtain ⟨b, hb, _, wb⟩ := DataW.trod_int Try.underlying3 t1
  obtain ⟨c, hc, _, wc⟩ := DataW.trod_int Try.underlying3 t2
  simp at ha hb hc
  subst ha; subst hb; subst hc
  have b0 := bounds_i64 wa
  have b1 := bounds_i64 wb
  have b2 := bounds_i64 wc
  exact ⟨a, b, c, rfl, ⟨by omega, by omega⟩, ⟨by omega, by omega⟩, ⟨by omega, by omega⟩⟩

theorem Kn.join {w u W : World} {L M : List (Nat × Array Value × TypeId)} (h : Kn w u L) (k : Kn u W M) : Kn w W (L ++ M) := by
  have h2 := h.up k.below
  refine ⟨h2.below, fun e he => ?_, fun e he => ?_, ?_⟩
  · rcases List.mem_append.1 he with he | he
    · exact h2.hold e he
    · exact k.hold e he
  · rcases List.mem_append.1 he with he | he
    · exact h.high e he
    · exact Nat.le_trans h.below.size (k.high e he)
  · rw [List.map_append, List.nodup_append]
    refine ⟨h.nodup, k.nodup, fun a ha b hb => ?_⟩
    obtain ⟨e, he, rfl⟩ := List.mem_map.1 ha
    obtain ⟨f, hf, rfl⟩ := List.mem_map.1 hb
    have h3 := (Array.getElem?_eq_some_iff.1 (h.hold e he)).1
    have h4 := k.high f hf
    omega

theorem Kn.put2s {w W : World} {g : Nat} {x y : Value} {t : TypeId} (h : Kn w W [(g, #[x, y], t)]) (a b : Value) :
    Kn w ((W.setCell ⟨g, 0, none⟩ a).setCell ⟨g, 1, none⟩ b) [(g, #[a, b], t)] := (h.set 0 0 rfl a).set 0 1 rfl b

/-- A number is returned; nothing turns. -/
def RetI (w : World) (n : Int) (e : Ending) (w' : World) : Prop := e = .returned (.int .i64 n) ∧ w = w'

theorem tmod_pos {n : Int} (h : 0 ≤ n) : n.tmod 10007 = n % 10007 := Int.tmod_eq_emod_of_nonneg h
theorem tmod_neg {n : Int} (h : n < 0) : n.tmod 10007 = -((-n) % 10007) := by
  have := Int.neg_tmod (-n) 10007
  rw [Int.neg_neg] at this
  rw [this, tmod_pos (by omega)]

theorem tmod_in (n : Int) : -10006 ≤ n.tmod 10007 ∧ n.tmod 10007 ≤ 10006 ∧ (n.tmod 10007 = n % 10007 ∨ n.tmod 10007 = n % 10007 - 10007) := by
  by_cases h : 0 ≤ n
  · rw [tmod_pos h]; omega
  · rw [tmod_neg (by omega)]; omega

theorem ns_end {x : Int} (h : 0 ≤ x ∧ x ≤ 10006) : (wrap64 (wrap64 (x * 1103) + 2345)).tmod 10007 = (x * 1103 + 2345) % 10007 := by
  rw [IntWalk.wrap64_in (x * 1103) (by omega), IntWalk.wrap64_in _ (by omega), tmod_pos (by omega)]

theorem ns_s (n : Int) : (wrap64 (wrap64 ((wrap64 (n.tmod 10007 + 10007)).tmod 10007 * 1103) + 2345)).tmod 10007 = nsF n := by
  have h := tmod_in n
  rw [IntWalk.wrap64_in (n.tmod 10007 + 10007) (by omega), tmod_pos (n := n.tmod 10007 + 10007) (by omega), show (n.tmod 10007 + 10007) % 10007 = n % 10007 by omega, ns_end (by omega)]
  rfl

theorem ns_i {n : Int} (hn : n.tmod 10007 < 0) : (wrap64 (wrap64 (wrap64 (n.tmod 10007 + 10007) * 1103) + 2345)).tmod 10007 = nsF n := by
  have h := tmod_in n
  rw [IntWalk.wrap64_in (n.tmod 10007 + 10007) (by omega), ns_end (by omega), show n.tmod 10007 + 10007 = n % 10007 by omega]
  rfl

theorem ns_j {n : Int} (hn : 0 ≤ n.tmod 10007) : (wrap64 (wrap64 (n.tmod 10007 * 1103) + 2345)).tmod 10007 = nsF n := by
  have h := tmod_in n
  rw [ns_end (by omega), show n.tmod 10007 = n % 10007 by omega]
  rfl

theorem sNext_any (n : Int) (w : World) : Calls Try.prog 21 #[.int .i64 n] w (RetI w (nsF n)) := by
  go_enter Try.func21, Try.ntmps21
  go_wp2_with fail
  go_ret
  exact ⟨by rw [← ns_s n]; rfl, rfl⟩

theorem iNext_any (n : Int) (w : World) : Calls Try.prog 18 #[.int .i64 n] w (RetI w (nsF n)) := by
  by_cases h : n.tmod 10007 < 0
  · go_enter Try.func18, Try.ntmps18
    go_wp2_with fail
    go_ret
    exact ⟨by rw [← ns_i h]; rfl, rfl⟩
  · go_enter Try.func18, Try.ntmps18
    go_wp2_with fail
    go_ret
    exact ⟨by rw [← ns_j h]; rfl, rfl⟩

/-- Settings are returned; nothing that was there has turned. -/
def RetSt (w : World) (a b c : Int) (e : Ending) (w' : World) : Prop := e = .returned (.agg #[.int .i64 a, .int .i64 b, .int .i64 c]) ∧ Below w.heap.size w w'

theorem toSettings_any (a b c : Int) (w : World) : Calls Try.prog 28 #[.agg #[.int .i64 a, .int .i64 b, .int .i64 c]] w (RetSt w a b c) := by
  go_enter Try.func28, Try.ntmps28
  go_wp2_with fail
  exact bodyPost_ret (v := .agg #[.int .i64 a, .int .i64 b, .int .i64 c]) (by simp [results, Try.results28, go_sem]) rfl ⟨rfl, (below1 _ _).trans ((below1 _ _).mono (by simp) |>.trans ((below1 _ _).mono (by simp; omega)))⟩

theorem eqSettings_same (a b c : Int) (w : World) : Calls Try.prog 31 #[.agg #[.int .i64 a, .int .i64 b, .int .i64 c], .agg #[.int .i64 a, .int .i64 b, .int .i64 c]] w (RetB1 w true) := by
  have h1 : (a != a) = false := by simp
  have h2 : (b != b) = false := by simp
  have h3 : (c != c) = false := by simp
  go_enter Try.func31, Try.ntmps31
  go_wp2_with fail
  go_ret
  exact ⟨rfl, (below1 _ _).trans ((below1 _ _).mono (by simp))⟩

set_option maxHeartbeats 2000000 in
theorem sIsSet_any (p t s : Int) (w : World) : Calls Try.prog 49 #[.agg #[.int .i64 p, .int .i64 t, .int .i64 s]] w (RetB1 w (isSet p t s)) := by
  by_cases h1 : 0 ≤ p ∧ p ≤ 2
  · by_cases h2 : 1 ≤ t ∧ t ≤ 64
    · by_cases h3 : 0 ≤ s ∧ s ≤ 10006
      · have e : isSet p t s = true := decide_eq_true (by omega)
        rw [e]
        clear e
        go_enter Try.func49, Try.ntmps49
        go_wp2_with fail
        refine (in_yes _ _ _ _ h1.1 h1.2).mono ?_
        rintro e w1 ⟨rfl, rfl⟩
        go_wp2_with fail
        refine (in_yes _ _ _ _ h2.1 h2.2).mono ?_
        rintro e w1 ⟨rfl, rfl⟩
        go_wp2_with fail
        refine (in_yes _ _ _ _ h3.1 h3.2).mono ?_
        rintro e w1 ⟨rfl, rfl⟩
        go_wp2_with fail
        go_ret
        exact ⟨rfl, below1 _ _⟩
      · have e : isSet p t s = false := decide_eq_false (by omega)
        rw [e]
        clear e
        go_enter Try.func49, Try.ntmps49
        go_wp2_with fail
        refine (in_yes _ _ _ _ h1.1 h1.2).mono ?_
        rintro e w1 ⟨rfl, rfl⟩
        go_wp2_with fail
        refine (in_yes _ _ _ _ h2.1 h2.2).mono ?_
        rintro e w1 ⟨rfl, rfl⟩
        go_wp2_with fail
        refine (in_no _ _ _ _ (by omega)).mono ?_
        rintro e w1 ⟨rfl, rfl⟩
        go_wp2_with fail
        go_ret
        exact ⟨rfl, below1 _ _⟩
    · have e : isSet p t s = false := decide_eq_false (by omega)
      rw [e]
      clear e
      go_enter Try.func49, Try.ntmps49
      go_wp2_with fail
      refine (in_yes _ _ _ _ h1.1 h1.2).mono ?_
      rintro e w1 ⟨rfl, rfl⟩
      go_wp2_with fail
      refine (in_no _ _ _ _ (by omega)).mono ?_
      rintro e w1 ⟨rfl, rfl⟩
      go_wp2_with fail
      go_ret
      exact ⟨rfl, below1 _ _⟩
  · have e : isSet p t s = false := decide_eq_false (by omega)
    rw [e]
    clear e
    go_enter Try.func49, Try.ntmps49
    go_wp2_with fail
    refine (in_no _ _ _ _ (by omega)).mono ?_
    rintro e w1 ⟨rfl, rfl⟩
    go_wp2_with fail
    go_ret
    exact ⟨rfl, below1 _ _⟩

/-- The name of a policy. -/
def polN (p : Int) : ByteArray := if p = 0 then nmPlain else if p = 1 then nmCenter else if p = 2 then nmRandom else .empty

theorem chV_form (p : Int) : (∃ n, chV p = .agg #[.string (polN p), .func (.func n) #[] #[]]) ∨ chV p = .agg #[.string (polN p), .nilFunc] := by
  unfold chV polN
  by_cases h0 : p = 0
  · exact .inl ⟨_, by rw [if_pos h0, if_pos h0]⟩
  by_cases h1 : p = 1
  · exact .inl ⟨_, by rw [if_neg h0, if_neg h0, if_pos h1, if_pos h1]⟩
  by_cases h2 : p = 2
  · exact .inl ⟨_, by rw [if_neg h0, if_neg h0, if_neg h1, if_neg h1, if_pos h2, if_pos h2]⟩
  exact .inr (by rw [if_neg h0, if_neg h0, if_neg h1, if_neg h1, if_neg h2, if_neg h2])

theorem field0_ch (x : ByteArray) (y : Value) (W : World) : (Instr.field 71 (.agg #[.string x, y]) 0).run Try.prog W = .ok (.string x) W := by kernel_rfl
theorem field1_chf (x : ByteArray) (n : FuncId) (W : World) : (Instr.field 71 (.agg #[.string x, .func (.func n) #[] #[]]) 1).run Try.prog W = .ok (.func (.func n) #[] #[]) W := by kernel_rfl

set_option maxHeartbeats 4000000 in
theorem iIsSet_any (p t s : Int) (w : World) : Calls Try.prog 46 #[.agg #[.int .i64 p, .int .i64 t, .int .i64 s]] w (RetB1 w (isSet p t s)) := by
  have X := hide (Kn.one w #[.int .i64 p, .int .i64 t, .int .i64 s] 32)
  obtain ⟨w1, hw1⟩ : ∃ w1, w1 = w.alloc (.cells #[.int .i64 p, .int .i64 t, .int .i64 s] 32) := ⟨_, rfl⟩
  rw [← hw1] at X
  have c0 : w1.cell? ⟨w.heap.size, 0, none⟩ = some (.int .i64 p) := X.out.cell 0 0 rfl rfl
  rw [hw1] at c0
  obtain ⟨r, hr⟩ : ∃ r, r = isSet p t s := ⟨_, rfl⟩
  have HR := hide hr
  rw [← hr]
  clear hr
  go_enter Try.func46, Try.ntmps46
  go_upto_region 1 with fail
  rw [← hw1]
  rw [← hw1] at c0
  clear hw1
  go_cut [4] (fun x wx => x = .bool (chK p) ∧ Hid (Kn w wx [(w.heap.size, #[.int .i64 p, .int .i64 t, .int .i64 s], 32)]))
  case first =>
    have KS := hide (fun (w' : World) (M : List (Nat × Array Value × TypeId)) (h : Kn w1 w' M) => show w'.cell? ⟨w.heap.size, 0, none⟩ = some (.int .i64 p) from (Kn.join X.out h).cell 0 0 rfl rfl)
    have Y0 := hide (Kn.start w1)
    have Y := hide (Y0.out.drew)
    clear c0
    have c0 := KS.out _ _ Y.out
    rcases chV_form p with ⟨n, hf⟩ | hf
    · have HF := hide hf
      clear hf
      go_region_held3 (fun w' => w'.cell? ⟨w.heap.size, 0, none⟩ = some (.int .i64 p)) (first | with_reducible exact KS.out _ _ Y.out | with_reducible exact KS.out _ _ (Y.out.alloc _ _) | with_reducible exact KS.out _ _ (Y0.out.alloc _ _).drew | with_reducible exact KS.out _ _ (Kn.put2s Y.out _ _) | go_keep) (first
        | (go_at_call 47; refine (choosers_any _).mono ?_; rintro e wq ⟨b, rfl, hb, hlo, hbel⟩; have hlk := look_ch hb p true; rw [if_pos rfl, HF.out] at hlk; have hlk2 := look_ch (w := wq.alloc (.cells #[.string ⟨#[]⟩, .nilFunc] 71)) ((heap_alloc_old _ _ (by exact (Array.getElem?_eq_some_iff.1 hb).1)).trans hb) p true; rw [if_pos rfl, HF.out] at hlk2; (first | replace Y := hide (by with_reducible exact Y.out.up hbel) | replace Y := hide (by with_reducible exact Y.out.upA hbel) | replace Y := hide (by with_reducible exact Y0.out.upD hbel)); clear c0; have c0 := KS.out _ _ Y.out; (first | (have e0 := Y.out.cell 0 0 rfl rfl; have e1 := Y.out.cell 0 1 rfl rfl; have f0 := Y.out.free 0 0 rfl; have f1 := Y.out.free 0 1 rfl) | skip)))
      all_goals go_wp2_with fail
      all_goals go_meet
      all_goals first | exact ⟨rfl, hide (X.out.up (Y.out.alloc _ _).below)⟩ | exact ⟨rfl, hide (X.out.up (Kn.put2s Y.out _ _).below)⟩
    · have HF := hide hf
      clear hf
      go_region_held3 (fun w' => w'.cell? ⟨w.heap.size, 0, none⟩ = some (.int .i64 p)) (first | with_reducible exact KS.out _ _ Y.out | with_reducible exact KS.out _ _ (Y.out.alloc _ _) | with_reducible exact KS.out _ _ (Y0.out.alloc _ _).drew | with_reducible exact KS.out _ _ (Kn.put2s Y.out _ _) | go_keep) (first
        | (go_at_call 47; refine (choosers_any _).mono ?_; rintro e wq ⟨b, rfl, hb, hlo, hbel⟩; have hlk := look_ch hb p true; rw [if_pos rfl, HF.out] at hlk; have hlk2 := look_ch (w := wq.alloc (.cells #[.string ⟨#[]⟩, .nilFunc] 71)) ((heap_alloc_old _ _ (by exact (Array.getElem?_eq_some_iff.1 hb).1)).trans hb) p true; rw [if_pos rfl, HF.out] at hlk2; (first | replace Y := hide (by with_reducible exact Y.out.up hbel) | replace Y := hide (by with_reducible exact Y.out.upA hbel) | replace Y := hide (by with_reducible exact Y0.out.upD hbel)); clear c0; have c0 := KS.out _ _ Y.out; (first | (have e0 := Y.out.cell 0 0 rfl rfl; have e1 := Y.out.cell 0 1 rfl rfl; have f0 := Y.out.free 0 0 rfl; have f1 := Y.out.free 0 1 rfl) | skip)))
      all_goals go_wp2_with fail
      all_goals go_meet
      all_goals first | exact ⟨rfl, hide (X.out.up (Y.out.alloc _ _).below)⟩ | exact ⟨rfl, hide (X.out.up (Kn.put2s Y.out _ _).below)⟩
  case rest =>
    obtain ⟨rfl, X⟩ := hcut
    have c0 : wc.cell? ⟨w.heap.size, 0, none⟩ = some (.int .i64 p) := X.out.cell 0 0 rfl rfl
    have c1 : wc.cell? ⟨w.heap.size, 1, none⟩ = some (.int .i64 t) := X.out.cell 0 1 rfl rfl
    have c2 : wc.cell? ⟨w.heap.size, 2, none⟩ = some (.int .i64 s) := X.out.cell 0 2 rfl rfl
    by_cases h1 : 0 ≤ p ∧ p ≤ 2
    · have e1 : chK p = true := decide_eq_true h1
      rw [e1]
      by_cases h2 : 1 ≤ t
      · by_cases h3 : t ≤ 64
        · by_cases h4 : 0 ≤ s
          · by_cases h5 : s < 10007
            · have e : isSet p t s = true := decide_eq_true (by omega)
              obtain rfl := HR.out.trans e
              clear e e1 HR
              go_wp2_with fail
              go_ret
              exact ⟨rfl, X.out.below⟩
            · have e : isSet p t s = false := decide_eq_false (by omega)
              obtain rfl := HR.out.trans e
              clear e e1 HR
              go_wp2_with fail
              go_ret
              exact ⟨rfl, X.out.below⟩
          · have e : isSet p t s = false := decide_eq_false (by omega)
            obtain rfl := HR.out.trans e
            clear e e1 HR
            go_wp2_with fail
            go_ret
            exact ⟨rfl, X.out.below⟩
        · have e : isSet p t s = false := decide_eq_false (by omega)
          obtain rfl := HR.out.trans e
          clear e e1 HR
          go_wp2_with fail
          go_ret
          exact ⟨rfl, X.out.below⟩
      · have e : isSet p t s = false := decide_eq_false (by omega)
        obtain rfl := HR.out.trans e
        clear e e1 HR
        go_wp2_with fail
        go_ret
        exact ⟨rfl, X.out.below⟩
    · have e1 : chK p = false := decide_eq_false h1
      rw [e1]
      have e : isSet p t s = false := decide_eq_false (by omega)
      obtain rfl := HR.out.trans e
      clear e e1 HR
      go_wp2_with fail
      go_ret
      exact ⟨rfl, X.out.below⟩

end Go.Proofs.Ytfldnjkojdnjcaa
