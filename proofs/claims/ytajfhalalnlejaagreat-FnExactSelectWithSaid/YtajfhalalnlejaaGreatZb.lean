/- Several texts in one: PlN, PlE, PlF, CsM, CwI, Cg, Lg, ApS, CrS, LcS. -/
import Derived.Test.YtajfhalalnlejaaGreatZa
import Derived.Test.YtajfhalalnlejaaGreatIn
import Derived.Test.YtajfhalalnlejaaGreatRng
import Derived.Test.YtajfhalalnlejaaGreatKn
import Derived.Maps.Own
import Derived.Deep.RegionHeld3
import Derived.Deep.RegionWith
import Derived.Laws.EntriesVeiled
import Derived.Test.YtajfhalalnlejaaGreatCkQ
import Derived.Test.YtajfhalalnlejaaGreatCkT
import Derived.Test.YtajfhalalnlejaaGreatOwn
import Derived.Deep.SlicePairs
import Derived.Test.YtajfhalalnlejaaGreatAdS
import Derived.Test.YtajfhalalnlejaaGreatCpI
import Derived.Test.YtajfhalalnlejaaGreatApD
import Derived.Test.YtajfhalalnlejaaGreatAdT
import Derived.Test.YtajfhalalnlejaaGreatKd
/- The choosers (a map of functions, made anew at each call, and what is found in it); settings, seeds, names: what IsSettings, NextSeed and PolicyName return, of the reference and of the program (promise 4). -/
namespace Go.Proofs.YtajfhalalnlejaaGreat
open Go.RowKit Go.ChangeShapes
open Go.ChangeMaps (setBlock)
set_option linter.unusedSimpArgs false
set_option linter.unusedVariables false
set_option maxRecDepth 100000

theorem Kn.apart {w W : World} {L : List (Nat × Array Value × TypeId)} (h : Kn w W L) (i j : Nat) {g g' : Nat} {c c' : Array Value} {t t' : TypeId} (ho : L[i]? = some (g, c, t)) (ho' : L[j]? = some (g', c', t')) (hij : i ≠ j) : g ≠ g' := by
  intro e
  obtain ⟨hi, e1⟩ := List.getElem?_eq_some_iff.1 ho
  obtain ⟨hj, e2⟩ := List.getElem?_eq_some_iff.1 ho'
  have hl : (L.map (·.1)).length = L.length := List.length_map _
  have h2 := List.pairwise_iff_getElem.1 h.nodup
  rcases Nat.lt_or_gt_of_ne hij with hlt | hlt
  · have := h2 i j (by omega) (by omega) hlt
    simp [e1, e2, e] at this
  · have := h2 j i (by omega) (by omega) hlt
    simp [e1, e2, e] at this

theorem run_insert_new {P : Program} {w : World} {t kt et : TypeId} {q : IntKind} {b clock : Nat} {es : Array MapEntry} {a : Int} {v : Value} (ht : P.underlying t = some (.map kt et)) (hk : P.underlying kt = some (.int q))
    (hb : w.heap[b]? = some (.map es clock)) (hn : Instr.findNow (.int q) (.int q a) es.toList 0 = some none) :
    (Instr.mapUpdate t (.map (some b)) (.int q a) v).run P w = .ok () (setBlock w b (.map (es.push { key := .int q a, val := v, born := clock }) (clock + 1))) := by
  unfold Instr.mapUpdate
  simp only [Sem.run_bind, run_underlying ht, Result.andThen, MapKept.run_getObj_map hb, MapKept.run_checkKey hk (show MapKept.IsKey (.int q) (.int q a) from rfl), MapKept.run_findKey hk hn, MapKept.run_setObj_map _ hb]
  rfl

theorem run_look_int {P : Program} {w : World} {t kt et : TypeId} {q : IntKind} {b clock : Nat} {es : Array MapEntry} {a : Int} {z : Value} {r : Option (Nat × Value)} (c : Bool) (ht : P.underlying t = some (.map kt et)) (hk : P.underlying kt = some (.int q))
    (hz : (zeroValue et).run P w = .ok z w) (hb : w.heap[b]? = some (.map es clock)) (hn : Instr.findNow (.int q) (.int q a) es.toList 0 = some r) :
    (Instr.lookup t (.map (some b)) (.int q a) c).run P w = .ok (if c = true then .tuple #[(r.map (·.2)).getD z, .bool r.isSome] else (r.map (·.2)).getD z) w := by
  unfold Instr.lookup
  simp only [Sem.run_bind, run_underlying ht, Result.andThen, MapKept.run_getObj_map hb, Sem.run_pure, MapKept.run_checkKey hk (show MapKept.IsKey (.int q) (.int q a) from rfl), MapKept.run_findKey hk hn]
  cases r with
  | none => simp only [Sem.run_bind, hz, Result.andThen, Sem.run_pure]; rfl
  | some r => rfl

/-- The names. -/
def nmPlain : ByteArray := ⟨#[112, 108, 97, 105, 110]⟩
def nmCenter : ByteArray := ⟨#[99, 101, 110, 116, 101, 114]⟩
def nmRandom : ByteArray := ⟨#[114, 97, 110, 100, 111, 109]⟩

/-- The entries. -/
def chE : Array MapEntry := #[⟨.int .i64 0, .agg #[.string nmPlain, .func (.func 126) #[] #[]], 0⟩, ⟨.int .i64 1, .agg #[.string nmCenter, .func (.func 126) #[] #[]], 1⟩, ⟨.int .i64 2, .agg #[.string nmRandom, .func (.func 127) #[] #[]], 2⟩]

/-- The choosers are returned. -/
def RetCh (w : World) (e : Ending) (w' : World) : Prop := ∃ b, e = .returned (.map (some b)) ∧ w'.heap[b]? = some (.map chE 3) ∧ w.heap.size ≤ b ∧ Below w.heap.size w w'

theorem setBlock_get {w : World} {b : Nat} {o : Obj} (h : b < w.heap.size) : (setBlock w b o).heap[b]? = some o := by simp [setBlock, h]
theorem setBlock_size {w : World} {b : Nat} {o : Obj} : (setBlock w b o).heap.size = w.heap.size := by simp [setBlock]
theorem setBlock_below {w w' : World} {n b : Nat} {o : Obj} (h : Below n w w') (hb : n ≤ b) : Below n w (setBlock w' b o) :=
  ⟨h.os, h.tape, h.output, by rw [setBlock_size]; exact h.size, fun k hk => by rw [← h.block k hk]; simp [setBlock]; rw [Array.getElem?_setIfInBounds_ne (by omega)]⟩

set_option maxHeartbeats 2000000 in
theorem choosers_any (w : World) : Calls Tryz.prog 94 #[] w (RetCh w) := by
  have hmm := @run_makeMap Tryz.prog
  obtain ⟨b, hb⟩ : ∃ b, b = w.heap.size := ⟨_, rfl⟩
  obtain ⟨w1, hw1⟩ : ∃ q, q = w.alloc (.map #[] 0) := ⟨_, rfl⟩
  have g1 : w1.heap[b]? = some (.map #[] 0) := by rw [hw1, hb]; exact heap_alloc_new _ _
  have s1 : w1.heap.size = b + 1 := by rw [hw1, hb]; simp
  have e1 := run_insert_new (P := Tryz.prog) (v := .agg #[.string nmPlain, .func (.func 126) #[] #[]]) Tryz.underlying118 Tryz.underlying3 g1 (a := 0) rfl
  obtain ⟨w2, hw2⟩ : ∃ q, q = setBlock w1 b (.map (#[].push ⟨.int .i64 0, .agg #[.string nmPlain, .func (.func 126) #[] #[]], 0⟩) (0 + 1)) := ⟨_, rfl⟩
  rw [← hw2] at e1
  have g2 : w2.heap[b]? = some (.map (#[].push ⟨.int .i64 0, .agg #[.string nmPlain, .func (.func 126) #[] #[]], 0⟩) (0 + 1)) := by rw [hw2]; exact setBlock_get (by omega)
  have s2 : w2.heap.size = b + 1 := by rw [hw2, setBlock_size, s1]
  have e2 := run_insert_new (P := Tryz.prog) (v := .agg #[.string nmCenter, .func (.func 126) #[] #[]]) Tryz.underlying118 Tryz.underlying3 g2 (a := 1) rfl
  obtain ⟨w3, hw3⟩ : ∃ q, q = setBlock w2 b (.map ((#[].push ⟨.int .i64 0, .agg #[.string nmPlain, .func (.func 126) #[] #[]], 0⟩).push ⟨.int .i64 1, .agg #[.string nmCenter, .func (.func 126) #[] #[]], 0 + 1⟩) (0 + 1 + 1)) := ⟨_, rfl⟩
  rw [← hw3] at e2
  have g3 : w3.heap[b]? = some (.map ((#[].push ⟨.int .i64 0, .agg #[.string nmPlain, .func (.func 126) #[] #[]], 0⟩).push ⟨.int .i64 1, .agg #[.string nmCenter, .func (.func 126) #[] #[]], 0 + 1⟩) (0 + 1 + 1)) := by rw [hw3]; exact setBlock_get (by omega)
  have s3 : w3.heap.size = b + 1 := by rw [hw3, setBlock_size, s2]
  have e3 := run_insert_new (P := Tryz.prog) (v := .agg #[.string nmRandom, .func (.func 127) #[] #[]]) Tryz.underlying118 Tryz.underlying3 g3 (a := 2) rfl
  obtain ⟨w4, hw4⟩ : ∃ q, q = setBlock w3 b (.map (((#[].push ⟨.int .i64 0, .agg #[.string nmPlain, .func (.func 126) #[] #[]], 0⟩).push ⟨.int .i64 1, .agg #[.string nmCenter, .func (.func 126) #[] #[]], 0 + 1⟩).push ⟨.int .i64 2, .agg #[.string nmRandom, .func (.func 127) #[] #[]], 0 + 1 + 1⟩) (0 + 1 + 1 + 1)) := ⟨_, rfl⟩
  rw [← hw4] at e3
  have g4 : w4.heap[b]? = some (.map chE 3) := by rw [hw4]; exact setBlock_get (by omega)
  have hbel : Below w.heap.size w w4 := by
    rw [hw4, hw3, hw2, hw1]
    exact setBlock_below (setBlock_below (setBlock_below (below1 w _) (by omega)) (by omega)) (by omega)
  unfold nmPlain at e1
  unfold nmCenter at e2
  unfold nmRandom at e3
  rw [hw1, hb] at e1
  rw [hb] at e2 e3
  clear g1 g2 g3 s1 s2 s3 hw1 hw2 hw3 hw4
  go_enter Tryz.func94, Tryz.ntmps94
  go_wp2_with fail
  go_ret
  subst hb
  exact ⟨_, rfl, g4, Nat.le_refl _, hbel⟩

/-- What is found at a policy: 'v, ok := choosers()[p]'. -/
def chV (p : Int) : Value := if p = 0 then .agg #[.string nmPlain, .func (.func 126) #[] #[]] else if p = 1 then .agg #[.string nmCenter, .func (.func 126) #[] #[]] else if p = 2 then .agg #[.string nmRandom, .func (.func 127) #[] #[]] else .agg #[.string .empty, .nilFunc]
def chK (p : Int) : Bool := decide (0 ≤ p ∧ p ≤ 2)

theorem zeroCh (w : World) : (zeroValue 116).run Tryz.prog w = .ok (.agg #[.string .empty, .nilFunc]) w := by kernel_rfl

theorem find_ch (p : Int) : Instr.findNow (.int .i64) (.int .i64 p) chE.toList 0 = some (if p = 0 then some (0, chV 0) else if p = 1 then some (1, chV 1) else if p = 2 then some (2, chV 2) else none) := by
  unfold chE
  simp only [Instr.findNow, Instr.sameNow, if_true]
  by_cases h0 : p = 0
  · subst h0; rfl
  by_cases h1 : p = 1
  · subst h1; rfl
  by_cases h2 : p = 2
  · subst h2; rfl
  rw [if_neg h0, if_neg h1, if_neg h2, show (p == 0) = false by simp [h0], show (p == 1) = false by simp [h1], show (p == 2) = false by simp [h2]]

theorem look_ch {w : World} {b : Nat} (h : w.heap[b]? = some (.map chE 3)) (p : Int) (c : Bool) :
    (Instr.lookup 118 (.map (some b)) (.int .i64 p) c).run Tryz.prog w = .ok (if c = true then .tuple #[chV p, .bool (chK p)] else chV p) w := by
  rw [run_look_int c Tryz.underlying118 Tryz.underlying3 (zeroCh w) h (find_ch p)]
  unfold chK
  by_cases h0 : p = 0
  · subst h0; rfl
  by_cases h1 : p = 1
  · subst h1; rfl
  by_cases h2 : p = 2
  · subst h2; rfl
  rw [if_neg h0, if_neg h1, if_neg h2, show decide (0 ≤ p ∧ p ≤ 2) = false from decide_eq_false (by omega)]
  unfold chV
  rw [if_neg h0, if_neg h1, if_neg h2]
  rfl

/-- Settings that came in as an argument of a law. -/
theorem open_st {H : Type} {enc : TypeId × Value → H} {W : World} {base : Nat} {v : Value} {d : DataW H} {p : List MemPlace} (hv : Value.okWide Tryz.prog W .any base 27 v) (h : DataW.Trod enc Tryz.prog W 0 (fun _ => true) true 27 v d p) :
    ∃ a b c : Int, v = .agg #[.int .i64 a, .int .i64 b, .int .i64 c] ∧ I64 a ∧ I64 b ∧ I64 c := by
  obtain ⟨v0, v1, v2, y0, y1, y2, n, rfl, _, _, t0, t1, t2⟩ := Joins.open_agg3 Tryz.underlying27 (by kernel_rfl) (by kernel_rfl) hv h
  obtain ⟨a, ha, _, wa⟩ := DataW.trod_int Tryz.underlying3 t0
  obtain ⟨b, hb, _, wb⟩ := DataW.trod_int Tryz.underlying3 t1
  obtain ⟨c, hc, _, wc⟩ := DataW.trod_int Tryz.underlying3 t2
  simp at ha hb hc
  subst ha; subst hb; subst hc
  have b0 := bounds_i64 wa
  have b1 := bounds_i64 wb
  have b2 := bounds_i64 wc
  exact ⟨a, b, c, rfl, ⟨by omega, by omega⟩, ⟨by omega, by omega⟩, ⟨by omega, by omega⟩⟩

theorem Kn.join {w u W : World} {L M : List (Nat × Array Value × TypeId)} (h : Kn w u L) (k : Kn u W M) : Kn w W (L ++ M) := by
  have h2 := h.up k.below
  refine ⟨h2.below, fun e he => ?_, fun e he => ?_, ?_⟩
  · rcases List.mem_append.1 he with he | he
    · exact h2.hold e he
    · exact k.hold e he
  · rcases List.mem_append.1 he with he | he
    · exact h.high e he
    · exact Nat.le_trans h.below.size (k.high e he)
  · rw [List.map_append, List.nodup_append]
    refine ⟨h.nodup, k.nodup, fun a ha b hb => ?_⟩
    obtain ⟨e, he, rfl⟩ := List.mem_map.1 ha
    obtain ⟨f, hf, rfl⟩ := List.mem_map.1 hb
    have h3 := (Array.getElem?_eq_some_iff.1 (h.hold e he)).1
    have h4 := k.high f hf
    omega

theorem Kn.put2s {w W : World} {g : Nat} {x y : Value} {t : TypeId} (h : Kn w W [(g, #[x, y], t)]) (a b : Value) :
    Kn w ((W.setCell ⟨g, 0, none⟩ a).setCell ⟨g, 1, none⟩ b) [(g, #[a, b], t)] := (h.set 0 0 rfl a).set 0 1 rfl b

/-- A number is returned; nothing turns. -/
def RetI (w : World) (n : Int) (e : Ending) (w' : World) : Prop := e = .returned (.int .i64 n) ∧ w = w'

theorem tmod_pos {n : Int} (h : 0 ≤ n) : n.tmod 10007 = n % 10007 := Int.tmod_eq_emod_of_nonneg h
theorem tmod_neg {n : Int} (h : n < 0) : n.tmod 10007 = -((-n) % 10007) := by
  have := Int.neg_tmod (-n) 10007
  rw [Int.neg_neg] at this
  rw [this, tmod_pos (by omega)]

theorem tmod_in (n : Int) : -10006 ≤ n.tmod 10007 ∧ n.tmod 10007 ≤ 10006 ∧ (n.tmod 10007 = n % 10007 ∨ n.tmod 10007 = n % 10007 - 10007) := by
  by_cases h : 0 ≤ n
  · rw [tmod_pos h]; omega
  · rw [tmod_neg (by omega)]; omega

theorem ns_end {x : Int} (h : 0 ≤ x ∧ x ≤ 10006) : (wrap64 (wrap64 (x * 1103) + 2345)).tmod 10007 = (x * 1103 + 2345) % 10007 := by
  rw [IntWalk.wrap64_in (x * 1103) (by omega), IntWalk.wrap64_in _ (by omega), tmod_pos (by omega)]

theorem ns_s (n : Int) : (wrap64 (wrap64 ((wrap64 (n.tmod 10007 + 10007)).tmod 10007 * 1103) + 2345)).tmod 10007 = nsF n := by
  have h := tmod_in n
  rw [IntWalk.wrap64_in (n.tmod 10007 + 10007) (by omega), tmod_pos (n := n.tmod 10007 + 10007) (by omega), show (n.tmod 10007 + 10007) % 10007 = n % 10007 by omega, ns_end (by omega)]
  rfl

theorem ns_i {n : Int} (hn : n.tmod 10007 < 0) : (wrap64 (wrap64 (wrap64 (n.tmod 10007 + 10007) * 1103) + 2345)).tmod 10007 = nsF n := by
  have h := tmod_in n
  rw [IntWalk.wrap64_in (n.tmod 10007 + 10007) (by omega), ns_end (by omega), show n.tmod 10007 + 10007 = n % 10007 by omega]
  rfl

theorem ns_j {n : Int} (hn : 0 ≤ n.tmod 10007) : (wrap64 (wrap64 (n.tmod 10007 * 1103) + 2345)).tmod 10007 = nsF n := by
  have h := tmod_in n
  rw [ns_end (by omega), show n.tmod 10007 = n % 10007 by omega]
  rfl

theorem sNext_any (n : Int) (w : World) : Calls Tryz.prog 141 #[.int .i64 n] w (RetI w (nsF n)) := by
  go_enter Tryz.func141, Tryz.ntmps141
  go_wp2_with fail
  go_ret
  exact ⟨by rw [← ns_s n]; rfl, rfl⟩

theorem iNext_any (n : Int) (w : World) : Calls Tryz.prog 144 #[.int .i64 n] w (RetI w (nsF n)) := by
  by_cases h : n.tmod 10007 < 0
  · go_enter Tryz.func144, Tryz.ntmps144
    go_wp2_with fail
    go_ret
    exact ⟨by rw [← ns_i h]; rfl, rfl⟩
  · go_enter Tryz.func144, Tryz.ntmps144
    go_wp2_with fail
    go_ret
    exact ⟨by rw [← ns_j h]; rfl, rfl⟩

/-- Settings are returned; nothing that was there has turned. -/
def RetSt (w : World) (a b c : Int) (e : Ending) (w' : World) : Prop := e = .returned (.agg #[.int .i64 a, .int .i64 b, .int .i64 c]) ∧ Below w.heap.size w w'

theorem toSettings_any (a b c : Int) (w : World) : Calls Tryz.prog 12 #[.agg #[.int .i64 a, .int .i64 b, .int .i64 c]] w (RetSt w a b c) := by
  go_enter Tryz.func12, Tryz.ntmps12
  go_wp2_with fail
  exact bodyPost_ret (v := .agg #[.int .i64 a, .int .i64 b, .int .i64 c]) (by simp [results, Tryz.results12, go_sem]) rfl ⟨rfl, (below1 _ _).trans ((below1 _ _).mono (by simp) |>.trans ((below1 _ _).mono (by simp; omega)))⟩

theorem eqSettings_same (a b c : Int) (w : World) : Calls Tryz.prog 16 #[.agg #[.int .i64 a, .int .i64 b, .int .i64 c], .agg #[.int .i64 a, .int .i64 b, .int .i64 c]] w (RetB1 w true) := by
  have h1 : (a != a) = false := by simp
  have h2 : (b != b) = false := by simp
  have h3 : (c != c) = false := by simp
  go_enter Tryz.func16, Tryz.ntmps16
  go_wp2_with fail
  go_ret
  exact ⟨rfl, (below1 _ _).trans ((below1 _ _).mono (by simp))⟩

set_option maxHeartbeats 2000000 in
theorem sIsSet_any (p t s : Int) (w : World) : Calls Tryz.prog 27 #[.agg #[.int .i64 p, .int .i64 t, .int .i64 s]] w (RetB1 w (isSet p t s)) := by
  by_cases h1 : 0 ≤ p ∧ p ≤ 2
  · by_cases h2 : 1 ≤ t ∧ t ≤ 64
    · by_cases h3 : 0 ≤ s ∧ s ≤ 10006
      · have e : isSet p t s = true := decide_eq_true (by omega)
        rw [e]
        clear e
        go_enter Tryz.func27, Tryz.ntmps27
        go_wp2_with fail
        refine (in_yes _ _ _ _ h1.1 h1.2).mono ?_
        rintro e w1 ⟨rfl, rfl⟩
        go_wp2_with fail
        refine (in_yes _ _ _ _ h2.1 h2.2).mono ?_
        rintro e w1 ⟨rfl, rfl⟩
        go_wp2_with fail
        refine (in_yes _ _ _ _ h3.1 h3.2).mono ?_
        rintro e w1 ⟨rfl, rfl⟩
        go_wp2_with fail
        go_ret
        exact ⟨rfl, below1 _ _⟩
      · have e : isSet p t s = false := decide_eq_false (by omega)
        rw [e]
        clear e
        go_enter Tryz.func27, Tryz.ntmps27
        go_wp2_with fail
        refine (in_yes _ _ _ _ h1.1 h1.2).mono ?_
        rintro e w1 ⟨rfl, rfl⟩
        go_wp2_with fail
        refine (in_yes _ _ _ _ h2.1 h2.2).mono ?_
        rintro e w1 ⟨rfl, rfl⟩
        go_wp2_with fail
        refine (in_no _ _ _ _ (by omega)).mono ?_
        rintro e w1 ⟨rfl, rfl⟩
        go_wp2_with fail
        go_ret
        exact ⟨rfl, below1 _ _⟩
    · have e : isSet p t s = false := decide_eq_false (by omega)
      rw [e]
      clear e
      go_enter Tryz.func27, Tryz.ntmps27
      go_wp2_with fail
      refine (in_yes _ _ _ _ h1.1 h1.2).mono ?_
      rintro e w1 ⟨rfl, rfl⟩
      go_wp2_with fail
      refine (in_no _ _ _ _ (by omega)).mono ?_
      rintro e w1 ⟨rfl, rfl⟩
      go_wp2_with fail
      go_ret
      exact ⟨rfl, below1 _ _⟩
  · have e : isSet p t s = false := decide_eq_false (by omega)
    rw [e]
    clear e
    go_enter Tryz.func27, Tryz.ntmps27
    go_wp2_with fail
    refine (in_no _ _ _ _ (by omega)).mono ?_
    rintro e w1 ⟨rfl, rfl⟩
    go_wp2_with fail
    go_ret
    exact ⟨rfl, below1 _ _⟩

/-- The name of a policy. -/
def polN (p : Int) : ByteArray := if p = 0 then nmPlain else if p = 1 then nmCenter else if p = 2 then nmRandom else .empty

theorem chV_form (p : Int) : (∃ n, chV p = .agg #[.string (polN p), .func (.func n) #[] #[]]) ∨ chV p = .agg #[.string (polN p), .nilFunc] := by
  unfold chV polN
  by_cases h0 : p = 0
  · exact .inl ⟨_, by rw [if_pos h0, if_pos h0]⟩
  by_cases h1 : p = 1
  · exact .inl ⟨_, by rw [if_neg h0, if_neg h0, if_pos h1, if_pos h1]⟩
  by_cases h2 : p = 2
  · exact .inl ⟨_, by rw [if_neg h0, if_neg h0, if_neg h1, if_neg h1, if_pos h2, if_pos h2]⟩
  exact .inr (by rw [if_neg h0, if_neg h0, if_neg h1, if_neg h1, if_neg h2, if_neg h2])

theorem field0_ch (x : ByteArray) (y : Value) (W : World) : (Instr.field 116 (.agg #[.string x, y]) 0).run Tryz.prog W = .ok (.string x) W := by kernel_rfl
theorem field1_chf (x : ByteArray) (n : FuncId) (W : World) : (Instr.field 116 (.agg #[.string x, .func (.func n) #[] #[]]) 1).run Tryz.prog W = .ok (.func (.func n) #[] #[]) W := by kernel_rfl

set_option maxHeartbeats 4000000 in
theorem iIsSet_any (p t s : Int) (w : World) : Calls Tryz.prog 34 #[.agg #[.int .i64 p, .int .i64 t, .int .i64 s]] w (RetB1 w (isSet p t s)) := by
  have X := hide (Kn.one w #[.int .i64 p, .int .i64 t, .int .i64 s] 34)
  obtain ⟨w1, hw1⟩ : ∃ w1, w1 = w.alloc (.cells #[.int .i64 p, .int .i64 t, .int .i64 s] 34) := ⟨_, rfl⟩
  rw [← hw1] at X
  have c0 : w1.cell? ⟨w.heap.size, 0, none⟩ = some (.int .i64 p) := X.out.cell 0 0 rfl rfl
  rw [hw1] at c0
  obtain ⟨r, hr⟩ : ∃ r, r = isSet p t s := ⟨_, rfl⟩
  have HR := hide hr
  rw [← hr]
  clear hr
  go_enter Tryz.func34, Tryz.ntmps34
  go_upto_region 1 with fail
  rw [← hw1]
  rw [← hw1] at c0
  clear hw1
  go_cut [4] (fun x wx => x = .bool (chK p) ∧ Hid (Kn w wx [(w.heap.size, #[.int .i64 p, .int .i64 t, .int .i64 s], 34)]))
  case first =>
    have KS := hide (fun (w' : World) (M : List (Nat × Array Value × TypeId)) (h : Kn w1 w' M) => show w'.cell? ⟨w.heap.size, 0, none⟩ = some (.int .i64 p) from (Kn.join X.out h).cell 0 0 rfl rfl)
    have Y0 := hide (Kn.start w1)
    have Y := hide (Y0.out.drew)
    clear c0
    have c0 := KS.out _ _ Y.out
    rcases chV_form p with ⟨n, hf⟩ | hf
    · have HF := hide hf
      clear hf
      go_region_held3 (fun w' => w'.cell? ⟨w.heap.size, 0, none⟩ = some (.int .i64 p)) (first | with_reducible exact KS.out _ _ Y.out | with_reducible exact KS.out _ _ (Y.out.alloc _ _) | with_reducible exact KS.out _ _ (Y0.out.alloc _ _).drew | with_reducible exact KS.out _ _ (Kn.put2s Y.out _ _) | go_keep) (first
        | (go_at_call 94; refine (choosers_any _).mono ?_; rintro e wq ⟨b, rfl, hb, hlo, hbel⟩; have hlk := look_ch hb p true; rw [if_pos rfl, HF.out] at hlk; have hlk2 := look_ch (w := wq.alloc (.cells #[.string ⟨#[]⟩, .nilFunc] 116)) ((heap_alloc_old _ _ (by exact (Array.getElem?_eq_some_iff.1 hb).1)).trans hb) p true; rw [if_pos rfl, HF.out] at hlk2; (first | replace Y := hide (by with_reducible exact Y.out.up hbel) | replace Y := hide (by with_reducible exact Y.out.upA hbel) | replace Y := hide (by with_reducible exact Y0.out.upD hbel)); clear c0; have c0 := KS.out _ _ Y.out; (first | (have e0 := Y.out.cell 0 0 rfl rfl; have e1 := Y.out.cell 0 1 rfl rfl; have f0 := Y.out.free 0 0 rfl; have f1 := Y.out.free 0 1 rfl) | skip)))
      all_goals go_wp2_with fail
      all_goals go_meet
      all_goals first | exact ⟨rfl, hide (X.out.up (Y.out.alloc _ _).below)⟩ | exact ⟨rfl, hide (X.out.up (Kn.put2s Y.out _ _).below)⟩
    · have HF := hide hf
      clear hf
      go_region_held3 (fun w' => w'.cell? ⟨w.heap.size, 0, none⟩ = some (.int .i64 p)) (first | with_reducible exact KS.out _ _ Y.out | with_reducible exact KS.out _ _ (Y.out.alloc _ _) | with_reducible exact KS.out _ _ (Y0.out.alloc _ _).drew | with_reducible exact KS.out _ _ (Kn.put2s Y.out _ _) | go_keep) (first
        | (go_at_call 94; refine (choosers_any _).mono ?_; rintro e wq ⟨b, rfl, hb, hlo, hbel⟩; have hlk := look_ch hb p true; rw [if_pos rfl, HF.out] at hlk; have hlk2 := look_ch (w := wq.alloc (.cells #[.string ⟨#[]⟩, .nilFunc] 116)) ((heap_alloc_old _ _ (by exact (Array.getElem?_eq_some_iff.1 hb).1)).trans hb) p true; rw [if_pos rfl, HF.out] at hlk2; (first | replace Y := hide (by with_reducible exact Y.out.up hbel) | replace Y := hide (by with_reducible exact Y.out.upA hbel) | replace Y := hide (by with_reducible exact Y0.out.upD hbel)); clear c0; have c0 := KS.out _ _ Y.out; (first | (have e0 := Y.out.cell 0 0 rfl rfl; have e1 := Y.out.cell 0 1 rfl rfl; have f0 := Y.out.free 0 0 rfl; have f1 := Y.out.free 0 1 rfl) | skip)))
      all_goals go_wp2_with fail
      all_goals go_meet
      all_goals first | exact ⟨rfl, hide (X.out.up (Y.out.alloc _ _).below)⟩ | exact ⟨rfl, hide (X.out.up (Kn.put2s Y.out _ _).below)⟩
  case rest =>
    obtain ⟨rfl, X⟩ := hcut
    have c0 : wc.cell? ⟨w.heap.size, 0, none⟩ = some (.int .i64 p) := X.out.cell 0 0 rfl rfl
    have c1 : wc.cell? ⟨w.heap.size, 1, none⟩ = some (.int .i64 t) := X.out.cell 0 1 rfl rfl
    have c2 : wc.cell? ⟨w.heap.size, 2, none⟩ = some (.int .i64 s) := X.out.cell 0 2 rfl rfl
    by_cases h1 : 0 ≤ p ∧ p ≤ 2
    · have e1 : chK p = true := decide_eq_true h1
      rw [e1]
      by_cases h2 : 1 ≤ t
      · by_cases h3 : t ≤ 64
        · by_cases h4 : 0 ≤ s
          · by_cases h5 : s < 10007
            · have e : isSet p t s = true := decide_eq_true (by omega)
              obtain rfl := HR.out.trans e
              clear e e1 HR
              go_wp2_with fail
              go_ret
              exact ⟨rfl, X.out.below⟩
            · have e : isSet p t s = false := decide_eq_false (by omega)
              obtain rfl := HR.out.trans e
              clear e e1 HR
              go_wp2_with fail
              go_ret
              exact ⟨rfl, X.out.below⟩
          · have e : isSet p t s = false := decide_eq_false (by omega)
            obtain rfl := HR.out.trans e
            clear e e1 HR
            go_wp2_with fail
            go_ret
            exact ⟨rfl, X.out.below⟩
        · have e : isSet p t s = false := decide_eq_false (by omega)
          obtain rfl := HR.out.trans e
          clear e e1 HR
          go_wp2_with fail
          go_ret
          exact ⟨rfl, X.out.below⟩
      · have e : isSet p t s = false := decide_eq_false (by omega)
        obtain rfl := HR.out.trans e
        clear e e1 HR
        go_wp2_with fail
        go_ret
        exact ⟨rfl, X.out.below⟩
    · have e1 : chK p = false := decide_eq_false h1
      rw [e1]
      have e : isSet p t s = false := decide_eq_false (by omega)
      obtain rfl := HR.out.trans e
      clear e e1 HR
      go_wp2_with fail
      go_ret
      exact ⟨rfl, X.out.below⟩

end Go.Proofs.YtajfhalalnlejaaGreat

/- What ChoosePivot returns, of the reference and of the program (promise 4). Written by gen_cho.py. -/
namespace Go.Proofs.YtajfhalalnlejaaGreat
open Go.RowKit Go.ChangeShapes
set_option linter.unusedSimpArgs false
set_option linter.unusedVariables false
set_option maxRecDepth 100000

/-- Two numbers are returned; nothing that was there has turned. -/
def RetNN (w : World) (x y : Int) (e : Ending) (w' : World) : Prop := e = .returned (.tuple #[.int .i64 x, .int .i64 y]) ∧ Below w.heap.size w w'

/-- A number and settings are returned; nothing that was there has turned. -/
def RetMSt (w : World) (m a b c : Int) (e : Ending) (w' : World) : Prop := e = .returned (.tuple #[.int .i64 m, .agg #[.int .i64 a, .int .i64 b, .int .i64 c]]) ∧ Below w.heap.size w w'

theorem Kn.putc {w W : World} {L : List (Nat × Array Value × TypeId)} (h : Kn w W L) (i : Nat) {g : Nat} {x y z : Value} {t : TypeId} (ho : L[i]? = some (g, #[x, y, z], t)) (c : Value) : Kn w (W.setCell ⟨g, 2, none⟩ c) (L.set i (g, #[x, y, c], t)) := h.set i 2 ho c

theorem Ck.leftAt {w : World} {B : Nat} {y z : Value} {a : Option Addr} {n c : Nat} {l r : List Int} {ps : List Pv} (h : Ck w B (.agg #[.slice a n c, y, z]) l r ps) (j : Nat) (hj : j < l.length) : ∃ g o, a = some ⟨g, o, none⟩ ∧ g < B := by
  obtain ⟨x, y', z', e, i1, -⟩ := h
  simp only [Value.agg.injEq, Array.mk.injEq, List.cons.injEq] at e
  obtain ⟨rfl, -⟩ := e
  obtain ⟨a', c', e, -, -, hc⟩ := i1
  injection e with e1
  subst e1
  obtain ⟨g, o, e, hg, -⟩ := hc j hj
  exact ⟨g, o, e, hg⟩

theorem Ints.cellAt {w : World} {B g o n c : Nat} {l : List Int} (h : Ints w B (.slice (some ⟨g, o, none⟩) n c) l) (j : Nat) (hj : j < l.length) : w.cell? ⟨g, o + j, none⟩ = some (.int .i64 (l.getD j 0)) := by
  obtain ⟨a', c', e, -, -, hc⟩ := h
  injection e with e1
  subst e1
  obtain ⟨g', o', e, hg, hx⟩ := hc j hj
  obtain ⟨rfl, rfl⟩ : g = g' ∧ o = o' := by simpa using e
  first | exact hx | (rw [hx]; simp [List.getD_eq_getElem?_getD, List.getElem?_eq_getElem hj])

theorem cut_getD (l : List Int) (a b : Int) (k : Nat) (ha : 0 ≤ a) (h : (k : Int) < b - a) : (cutL l a b).getD k 0 = l.getD (a + k).toNat 0 := by
  unfold cutL
  rw [List.getD_eq_getElem?_getD, List.getD_eq_getElem?_getD, List.getElem?_take, if_pos (by omega), List.getElem?_drop]
  congr 2
  omega

theorem chMed_any (a : Option Addr) (c : Nat) (l : List Int) (s : Int) (w : World) (B : Nat) (h : Ints w B (.slice a l.length c) l) (hn : a = none → c = 0) (hB : B ≤ w.heap.size) (hl : l.length ≤ 1048576) :
    Calls Tryz.prog 126 #[.slice a l.length c, .int .i64 s] w (RetNN w (medL l) s) := by
  have HM := hide (iMed_any a c l w B h hn hB hl)
  clear h hn
  obtain ⟨L, hL⟩ : ∃ L, L = l.length := ⟨_, rfl⟩
  obtain ⟨m, hm⟩ : ∃ m, m = medL l := ⟨_, rfl⟩
  rw [← hL, ← hm] at HM ⊢
  clear hL hm
  go_enter Tryz.func126, Tryz.ntmps126
  go_wp2_with fail
  go_at_call 143
  refine HM.out.mono ?_
  rintro e w1 ⟨rfl, hb⟩
  go_wp2_with fail
  exact bodyPost_ret (v := .tuple #[.int .i64 m, .int .i64 s]) (by simp [results, Tryz.results126, go_sem]) rfl ⟨rfl, hb⟩

theorem rnd_ix {n : Int} {L : Nat} (hn : 0 ≤ n ∧ n ≤ 10006) (h : 0 < L) : n.tmod (L : Int) = ((n % (L : Int)).toNat : Int) ∧ (n % (L : Int)).toNat < L := by
  have h1 := Int.emod_nonneg n (show (L : Int) ≠ 0 by omega)
  have h2 := Int.emod_lt_of_pos n (show (0 : Int) < L by omega)
  rw [Int.tmod_eq_emod_of_nonneg hn.1]
  omega

theorem chRnd_any (g o : Nat) (c : Nat) (l : List Int) (s : Int) (w : World) (B : Nat) (h : Ints w B (.slice (some ⟨g, o, none⟩) l.length c) l) (h0 : 0 < l.length) (hl : l.length ≤ 1048576) :
    Calls Tryz.prog 127 #[.slice (some ⟨g, o, none⟩) l.length c, .int .i64 s] w (RetNN w (l.getD (nsF s % (l.length : Int)).toNat 0) (nsF s)) := by
  have HN := hide (iNext_any s w)
  have hr := nsF_range s
  obtain ⟨n, hn⟩ : ∃ n, n = nsF s := ⟨_, rfl⟩
  rw [← hn] at HN hr ⊢
  clear hn
  obtain ⟨e1, e2⟩ := rnd_ix (n := n) hr h0
  have hc := h.cellAt _ e2
  obtain ⟨L, hL⟩ : ∃ L, L = l.length := ⟨_, rfl⟩
  obtain ⟨k, hk⟩ : ∃ k, k = (n % (l.length : Int)).toNat := ⟨_, rfl⟩
  rw [← hk] at e1 e2 hc
  rw [← hk]
  obtain ⟨x, hx⟩ : ∃ x, x = l.getD k 0 := ⟨_, rfl⟩
  rw [← hx] at hc
  rw [← hx]
  rw [← hL] at e1 e2 h0 ⊢
  have hLb : L ≤ 1048576 := by rw [hL]; exact hl
  clear hL hk hx h hl
  have hwk : wrap64 (k : Int) = (k : Int) := IntWalk.wrap64_in _ (by omega)
  have hz : ((L : Int) == 0) = false := by simp; omega
  have hz2 : ¬ (L : Int) = 0 := by omega
  go_enter Tryz.func127, Tryz.ntmps127
  go_wp2_with fail
  go_at_call 144
  refine HN.out.mono ?_
  rintro e w1 ⟨rfl, rfl⟩
  go_wp2_with fail
  exact bodyPost_ret (v := .tuple #[.int .i64 x, .int .i64 n]) (by simp [results, Tryz.results127, go_sem]) rfl ⟨rfl, Below.refl _ _⟩

set_option maxHeartbeats 8000000 in
theorem sCho_any (u : Value) (l r : List Int) (ps : List Pv) (p t s a b : Int) (w : World) (B : Nat) (hv : Ck w B u l r ps) (hB : B ≤ w.heap.size) :
    Calls Tryz.prog 121 #[u, .agg #[.int .i64 p, .int .i64 t, .int .i64 s], .int .i64 a, .int .i64 b] w (RetMSt w (chM l r ps p t s a b) p t (chS l r ps p t s a b)) := by
  obtain ⟨a1, c1, a2, c2, a3, c3, rfl, i1, i2, i3⟩ := hv.form
  have hcap := hv.caps
  have V := hide hv
  have I1 := hide i1
  have HCP := hide hcap
  clear hv i1 i2 i3 hcap
  obtain ⟨q, hq⟩ : ∃ q, q = isCk l r ps := ⟨_, rfl⟩
  have HQ := hide hq
  have CK := hide (fun (W : World) (h : Below w.heap.size w W) => show Calls Tryz.prog 26 #[.agg #[.slice a1 l.length c1, .slice a2 r.length c2, .slice a3 ps.length c3]] W (RetB1 W q) by rw [hq]; exact sIsCk_any _ l r ps W B (V.out.below h hB) (Nat.le_trans hB h.size))
  obtain ⟨z, hz⟩ : ∃ z, z = isSet p t s := ⟨_, rfl⟩
  have HZ := hide hz
  have CS := hide (fun (W : World) => show Calls Tryz.prog 27 #[.agg #[.int .i64 p, .int .i64 t, .int .i64 s]] W (RetB1 W z) by rw [hz]; exact sIsSet_any p t s W)
  obtain ⟨m, hm⟩ : ∃ m, m = chM l r ps p t s a b := ⟨_, rfl⟩
  obtain ⟨ns, hns⟩ : ∃ m, m = chS l r ps p t s a b := ⟨_, rfl⟩
  have NO := hide (fun (h : ¬(q = true ∧ z = true ∧ 0 ≤ a ∧ a < b ∧ b ≤ l.length)) => show m = 0 ∧ ns = s by
    have hh : ¬ chOk l r ps p t s a b = true := by
      unfold chOk
      simp only [Bool.and_eq_true, decide_eq_true_eq, ← hq, ← hz]
      intro h2
      exact h ⟨h2.1.1, h2.1.2, h2.2⟩
    rw [hm, hns]
    unfold chM chS
    rw [if_neg hh, if_neg hh]
    exact ⟨rfl, rfl⟩)
  have YES := hide (fun (h1 : q = true) (h2 : z = true) (h3 : 0 ≤ a ∧ a < b ∧ b ≤ l.length) => show m = (if p = 2 then l.getD (a + nsF s % (b - a)).toNat 0 else medL (cutL l a b)) ∧ ns = (if p = 2 then nsF s else s) by
    have hh : chOk l r ps p t s a b = true := by
      unfold chOk
      rw [← hq, ← hz, h1, h2, decide_eq_true h3]
      rfl
    rw [hm, hns]
    unfold chM chS
    rw [if_pos hh, if_pos hh]
    exact ⟨rfl, rfl⟩)
  have HL := hide (fun (h : q = true) => areVals_len (isCk_parts (hq.symm.trans h)).1)
  rw [← hm, ← hns]
  clear hq hz hm hns
  have X := hide (Kn.three w #[.slice a1 l.length c1, .slice a2 r.length c2, .slice a3 ps.length c3] #[.int .i64 p, .int .i64 t, .int .i64 s] #[.int .i64 0, .int .i64 0, .int .i64 0] 33 34 34)
  obtain ⟨w1, hw1⟩ : ∃ w1, w1 = ((w.alloc (.cells #[.slice a1 l.length c1, .slice a2 r.length c2, .slice a3 ps.length c3] 33)).alloc (.cells #[.int .i64 p, .int .i64 t, .int .i64 s] 34)).alloc (.cells #[.int .i64 0, .int .i64 0, .int .i64 0] 34) := ⟨_, rfl⟩
  rw [← hw1] at X
  have d0 : w1.cell? ⟨w.heap.size, 0, none⟩ = some (.slice a1 l.length c1) := X.out.cell 0 0 rfl rfl
  have d1 : w1.cell? ⟨w.heap.size, 1, none⟩ = some (.slice a2 r.length c2) := X.out.cell 0 1 rfl rfl
  have d2 : w1.cell? ⟨w.heap.size, 2, none⟩ = some (.slice a3 ps.length c3) := X.out.cell 0 2 rfl rfl
  rw [hw1] at d0 d1 d2
  go_enter Tryz.func121, Tryz.ntmps121
  go_wp2_with fail
  rw [← hw1]
  clear hw1 d0 d1 d2
  go_at_call 26
  refine (CK.out _ X.out.below).mono ?_
  rintro e w2 ⟨rfl, hb⟩
  have X := hide (X.out.up hb)
  clear hb
  have e0 : w2.cell? ⟨w.heap.size + 1, 0, none⟩ = some (.int .i64 p) := X.out.cell 1 0 rfl rfl
  have e1 : w2.cell? ⟨w.heap.size + 1, 1, none⟩ = some (.int .i64 t) := X.out.cell 1 1 rfl rfl
  have e2 : w2.cell? ⟨w.heap.size + 1, 2, none⟩ = some (.int .i64 s) := X.out.cell 1 2 rfl rfl
  cases q with
  | false =>
    obtain ⟨rfl, rfl⟩ := NO.out (by simp)
    have f20 := X.out.free 2 0 rfl
    have f21 := X.out.free 2 1 rfl
    have f22 := X.out.free 2 2 rfl
    have r0 : w2.cell? ⟨w.heap.size + 1 + 1, 0, none⟩ = some (.int .i64 0) := X.out.cell 2 0 rfl rfl
    have r1 : w2.cell? ⟨w.heap.size + 1 + 1, 1, none⟩ = some (.int .i64 0) := X.out.cell 2 1 rfl rfl
    have r2 : w2.cell? ⟨w.heap.size + 1 + 1, 2, none⟩ = some (.int .i64 0) := X.out.cell 2 2 rfl rfl
    have hne := X.out.apart 1 2 rfl rfl (by omega)
    have hne2 := fun e => hne (Eq.symm e)
    go_upto_region 2 with fail
    go_region
    have Z := (((X.out.set 2 0 rfl (.int .i64 p)).set 2 1 rfl (.int .i64 t)).set 2 2 rfl (.int .i64 ns)).drew
    have z0 := Z.cell 2 0 rfl rfl
    have z1 := Z.cell 2 1 rfl rfl
    have z2 := Z.cell 2 2 rfl rfl
    go_wp2_with fail
    exact bodyPost_ret (v := .tuple #[.int .i64 0, .agg #[.int .i64 p, .int .i64 t, .int .i64 ns]]) (by simp [results, Tryz.results121, go_sem, z0, z1, z2]) rfl ⟨rfl, Z.below⟩
  | true =>
    go_wp2_with fail
    go_at_call 27
    refine (CS.out _).mono ?_
    rintro e w3 ⟨rfl, hb⟩
    have X := hide (X.out.up hb)
    clear hb e0 e1 e2
    have e0 : w3.cell? ⟨w.heap.size + 1, 0, none⟩ = some (.int .i64 p) := X.out.cell 1 0 rfl rfl
    have e1 : w3.cell? ⟨w.heap.size + 1, 1, none⟩ = some (.int .i64 t) := X.out.cell 1 1 rfl rfl
    have e2 : w3.cell? ⟨w.heap.size + 1, 2, none⟩ = some (.int .i64 s) := X.out.cell 1 2 rfl rfl
    have d0 : w3.cell? ⟨w.heap.size, 0, none⟩ = some (.slice a1 l.length c1) := X.out.cell 0 0 rfl rfl
    have d1 : w3.cell? ⟨w.heap.size, 1, none⟩ = some (.slice a2 r.length c2) := X.out.cell 0 1 rfl rfl
    have d2 : w3.cell? ⟨w.heap.size, 2, none⟩ = some (.slice a3 ps.length c3) := X.out.cell 0 2 rfl rfl
    cases z with
    | false =>
      obtain ⟨rfl, rfl⟩ := NO.out (by simp)
      have f20 := X.out.free 2 0 rfl
      have f21 := X.out.free 2 1 rfl
      have f22 := X.out.free 2 2 rfl
      have r0 : w3.cell? ⟨w.heap.size + 1 + 1, 0, none⟩ = some (.int .i64 0) := X.out.cell 2 0 rfl rfl
      have r1 : w3.cell? ⟨w.heap.size + 1 + 1, 1, none⟩ = some (.int .i64 0) := X.out.cell 2 1 rfl rfl
      have r2 : w3.cell? ⟨w.heap.size + 1 + 1, 2, none⟩ = some (.int .i64 0) := X.out.cell 2 2 rfl rfl
      have hne := X.out.apart 1 2 rfl rfl (by omega)
      have hne2 := fun e => hne (Eq.symm e)
      go_upto_region 2 with fail
      go_region
      have Z := (((X.out.set 2 0 rfl (.int .i64 p)).set 2 1 rfl (.int .i64 t)).set 2 2 rfl (.int .i64 ns)).drew
      have z0 := Z.cell 2 0 rfl rfl
      have z1 := Z.cell 2 1 rfl rfl
      have z2 := Z.cell 2 2 rfl rfl
      go_wp2_with fail
      exact bodyPost_ret (v := .tuple #[.int .i64 0, .agg #[.int .i64 p, .int .i64 t, .int .i64 ns]]) (by simp [results, Tryz.results121, go_sem, z0, z1, z2]) rfl ⟨rfl, Z.below⟩
    | true =>
      by_cases h1 : a < 0
      · have t1 : decide (a < 0) = true := decide_eq_true h1
        obtain ⟨rfl, rfl⟩ := NO.out (by intro h; omega)
        have f20 := X.out.free 2 0 rfl
        have f21 := X.out.free 2 1 rfl
        have f22 := X.out.free 2 2 rfl
        have r0 : w3.cell? ⟨w.heap.size + 1 + 1, 0, none⟩ = some (.int .i64 0) := X.out.cell 2 0 rfl rfl
        have r1 : w3.cell? ⟨w.heap.size + 1 + 1, 1, none⟩ = some (.int .i64 0) := X.out.cell 2 1 rfl rfl
        have r2 : w3.cell? ⟨w.heap.size + 1 + 1, 2, none⟩ = some (.int .i64 0) := X.out.cell 2 2 rfl rfl
        have hne := X.out.apart 1 2 rfl rfl (by omega)
        have hne2 := fun e => hne (Eq.symm e)
        go_upto_region 2 with fail
        go_region
        have Z := (((X.out.set 2 0 rfl (.int .i64 p)).set 2 1 rfl (.int .i64 t)).set 2 2 rfl (.int .i64 ns)).drew
        have z0 := Z.cell 2 0 rfl rfl
        have z1 := Z.cell 2 1 rfl rfl
        have z2 := Z.cell 2 2 rfl rfl
        go_wp2_with fail
        exact bodyPost_ret (v := .tuple #[.int .i64 0, .agg #[.int .i64 p, .int .i64 t, .int .i64 ns]]) (by simp [results, Tryz.results121, go_sem, z0, z1, z2]) rfl ⟨rfl, Z.below⟩
      have t1 : decide (a < 0) = false := decide_eq_false h1
      by_cases h2 : b ≤ a
      · have t2 : decide (b ≤ a) = true := decide_eq_true h2
        obtain ⟨rfl, rfl⟩ := NO.out (by intro h; omega)
        have f20 := X.out.free 2 0 rfl
        have f21 := X.out.free 2 1 rfl
        have f22 := X.out.free 2 2 rfl
        have r0 : w3.cell? ⟨w.heap.size + 1 + 1, 0, none⟩ = some (.int .i64 0) := X.out.cell 2 0 rfl rfl
        have r1 : w3.cell? ⟨w.heap.size + 1 + 1, 1, none⟩ = some (.int .i64 0) := X.out.cell 2 1 rfl rfl
        have r2 : w3.cell? ⟨w.heap.size + 1 + 1, 2, none⟩ = some (.int .i64 0) := X.out.cell 2 2 rfl rfl
        have hne := X.out.apart 1 2 rfl rfl (by omega)
        have hne2 := fun e => hne (Eq.symm e)
        go_upto_region 2 with fail
        go_region
        have Z := (((X.out.set 2 0 rfl (.int .i64 p)).set 2 1 rfl (.int .i64 t)).set 2 2 rfl (.int .i64 ns)).drew
        have z0 := Z.cell 2 0 rfl rfl
        have z1 := Z.cell 2 1 rfl rfl
        have z2 := Z.cell 2 2 rfl rfl
        go_wp2_with fail
        exact bodyPost_ret (v := .tuple #[.int .i64 0, .agg #[.int .i64 p, .int .i64 t, .int .i64 ns]]) (by simp [results, Tryz.results121, go_sem, z0, z1, z2]) rfl ⟨rfl, Z.below⟩
      have t2 : decide (b ≤ a) = false := decide_eq_false h2
      by_cases h3 : (l.length : Int) < b
      · have t3 : decide ((l.length : Int) < b) = true := decide_eq_true h3
        obtain ⟨rfl, rfl⟩ := NO.out (by intro h; omega)
        have f20 := X.out.free 2 0 rfl
        have f21 := X.out.free 2 1 rfl
        have f22 := X.out.free 2 2 rfl
        have r0 : w3.cell? ⟨w.heap.size + 1 + 1, 0, none⟩ = some (.int .i64 0) := X.out.cell 2 0 rfl rfl
        have r1 : w3.cell? ⟨w.heap.size + 1 + 1, 1, none⟩ = some (.int .i64 0) := X.out.cell 2 1 rfl rfl
        have r2 : w3.cell? ⟨w.heap.size + 1 + 1, 2, none⟩ = some (.int .i64 0) := X.out.cell 2 2 rfl rfl
        have hne := X.out.apart 1 2 rfl rfl (by omega)
        have hne2 := fun e => hne (Eq.symm e)
        go_upto_region 2 with fail
        go_region
        have Z := (((X.out.set 2 0 rfl (.int .i64 p)).set 2 1 rfl (.int .i64 t)).set 2 2 rfl (.int .i64 ns)).drew
        have z0 := Z.cell 2 0 rfl rfl
        have z1 := Z.cell 2 1 rfl rfl
        have z2 := Z.cell 2 2 rfl rfl
        go_wp2_with fail
        exact bodyPost_ret (v := .tuple #[.int .i64 0, .agg #[.int .i64 p, .int .i64 t, .int .i64 ns]]) (by simp [results, Tryz.results121, go_sem, z0, z1, z2]) rfl ⟨rfl, Z.below⟩
      have t3 : decide ((l.length : Int) < b) = false := decide_eq_false h3
      obtain ⟨hm, hns⟩ := YES.out (by simp) (by simp) ⟨by omega, by omega, by omega⟩
      have hl64 := HL.out (by simp)
      obtain ⟨g, o, rfl, hg⟩ := V.out.leftAt 0 (by omega)
      obtain ⟨i, rfl⟩ : ∃ i : Nat, a = (i : Int) := ⟨a.toNat, by omega⟩
      obtain ⟨j, rfl⟩ : ∃ j : Nat, b = (j : Int) := ⟨b.toNat, by omega⟩
      have hij : i < j := by omega
      have hjl : j ≤ l.length := by omega
      have hkc : l.length ≤ c1 := HCP.out.1
      clear NO YES HL h1 h2 h3
      have hd : ((j : Int) - (i : Int)) = ((j - i : Nat) : Int) := by omega
      have hcut : cutL l (i : Int) (j : Int) = (l.drop i).take (j - i) := by simp [cutL]
      have hcl : ((l.drop i).take (j - i)).length = j - i := by simp; omega
      have PI := hide (fun (W : World) (h : Below w.heap.size w W) (c' : Nat) => show Ints W B (.slice (some ⟨g, o + i, none⟩) (j - i) c') ((l.drop i).take (j - i)) by
        have := (I1.out.below h hB).part i j (by omega) hjl (some ⟨g, o + i, none⟩) c' (fun _ => by simp [addr_add])
        rwa [hcl] at this)
      by_cases hp : p = 2
      · rw [if_pos hp] at hm hns
        subst hp
        have hnr := nsF_range s
        obtain ⟨n, hn⟩ : ∃ n, n = nsF s := ⟨_, rfl⟩
        rw [← hn] at hm hns hnr
        have HN := hide hn
        subst hns
        clear hn
        obtain ⟨k1, k2⟩ := rnd_ix (n := ns) (L := j - i) hnr (by omega)
        obtain ⟨k, hk⟩ : ∃ k, k = (ns % ((j - i : Nat) : Int)).toNat := ⟨_, rfl⟩
        have hk0 := Int.emod_nonneg ns (show ((j - i : Nat) : Int) ≠ 0 by omega)
        rw [← hk] at k1 k2
        obtain ⟨x, hx⟩ : ∃ x, x = i + k := ⟨_, rfl⟩
        have hm' := hide (show m = l.getD x 0 by rw [hm, hd]; congr 1; omega)
        have hkz : ns % ((j - i : Nat) : Int) = (k : Int) := by rw [hk]; exact (Int.toNat_of_nonneg hk0).symm
        have w5' : wrap64 ((i : Int) + ns % ((j : Int) - (i : Int))) = (x : Int) := by rw [hd, hkz, hx, IntWalk.wrap64_in _ (by omega)]; rfl
        obtain ⟨d, hd'⟩ : ∃ d, d = j - i := ⟨_, rfl⟩
        rw [← hd'] at k1
        have w1' : wrap64 ((j : Int) - (i : Int)) = (d : Int) := by rw [IntWalk.wrap64_in _ (by omega)]; omega
        have w2' : wrap64 ((i : Int) + (k : Int)) = (x : Int) := by rw [IntWalk.wrap64_in _ (by omega)]; omega
        have w3' : ((d : Int) == 0) = false := by simp; omega
        have w4' : ¬ (d : Int) = 0 := by omega
        have hxl : x < l.length := by rw [hx]; exact Nat.lt_of_lt_of_le (Nat.add_lt_of_lt_sub' k2) hjl
        clear hm hk hx hk0 k2 hd hd' hcut hcl PI hkz
        have X := hide (X.out.alloc #[.int .i64 2, .int .i64 t, .int .i64 s] 34)
        obtain ⟨w4, hw4⟩ : ∃ q, q = w3.alloc (.cells #[.int .i64 2, .int .i64 t, .int .i64 s] 34) := ⟨_, rfl⟩
        obtain ⟨b4, hb4⟩ : ∃ q, q = w3.heap.size := ⟨_, rfl⟩
        rw [← hw4, ← hb4] at X
        simp only [List.cons_append, List.nil_append] at X
        have e3 : w4.cell? ⟨w.heap.size + 1, 0, none⟩ = some (.int .i64 2) := X.out.cell 1 0 rfl rfl
        have e4 : w4.cell? ⟨w.heap.size + 1, 2, none⟩ = some (.int .i64 s) := X.out.cell 1 2 rfl rfl
        rw [hw4] at e3 e4
        go_wp2_with fail
        rw [← hw4]
        try rw [← hb4]
        clear hw4 hb4 e0 e1 e2 e3 e4 d0 d1 d2
        go_at_call 141
        refine (sNext_any s _).mono ?_
        rintro e w5 ⟨rfl, rfl⟩
        rw [← HN.out]
        have f3 := X.out.free 3 2 rfl
        have c3q := X.out.cell 3 2 rfl rfl
        go_upto_region 6 with fail
        have X := hide (X.out.putc 3 rfl (.int .i64 ns))
        obtain ⟨w5, hw5⟩ : ∃ q, q = w4.setCell ⟨b4, 2, none⟩ (.int .i64 ns) := ⟨_, rfl⟩
        rw [← hw5] at X
        rw [← hw5]
        simp only [List.set_cons_zero, List.set_cons_succ] at X
        clear hw5 f3 c3q
        have d0 : w5.cell? ⟨w.heap.size, 0, none⟩ = some (.slice (some ⟨g, o, none⟩) l.length c1) := X.out.cell 0 0 rfl rfl
        have d1 : w5.cell? ⟨w.heap.size, 1, none⟩ = some (.slice a2 r.length c2) := X.out.cell 0 1 rfl rfl
        have d2 : w5.cell? ⟨w.heap.size, 2, none⟩ = some (.slice a3 ps.length c3) := X.out.cell 0 2 rfl rfl
        have s0 : w5.cell? ⟨b4, 0, none⟩ = some (.int .i64 2) := X.out.cell 3 0 rfl rfl
        have s1 : w5.cell? ⟨b4, 1, none⟩ = some (.int .i64 t) := X.out.cell 3 1 rfl rfl
        have s2 : w5.cell? ⟨b4, 2, none⟩ = some (.int .i64 ns) := X.out.cell 3 2 rfl rfl
        have r0 : w5.cell? ⟨w.heap.size + 1 + 1, 0, none⟩ = some (.int .i64 0) := X.out.cell 2 0 rfl rfl
        have r1 : w5.cell? ⟨w.heap.size + 1 + 1, 1, none⟩ = some (.int .i64 0) := X.out.cell 2 1 rfl rfl
        have r2 : w5.cell? ⟨w.heap.size + 1 + 1, 2, none⟩ = some (.int .i64 0) := X.out.cell 2 2 rfl rfl
        have f20 := X.out.free 2 0 rfl
        have f21 := X.out.free 2 1 rfl
        have f22 := X.out.free 2 2 rfl
        have hne := X.out.apart 2 3 rfl rfl (by omega)
        have hne2 := fun e => hne (Eq.symm e)
        have hne3 := X.out.apart 0 2 rfl rfl (by omega)
        have hne4 := fun e => hne3 (Eq.symm e)
        have ec := (I1.out.below X.out.below hB).cellAt x hxl
        rw [← hm'.out] at ec
        have hgr : g ≠ w.heap.size + 1 + 1 := by omega
        have hgr2 : w.heap.size + 1 + 1 ≠ g := by omega
        go_region
        have Z := (((X.out.set 2 0 rfl (.int .i64 2)).set 2 1 rfl (.int .i64 t)).set 2 2 rfl (.int .i64 ns)).drew
        have z0 := Z.cell 2 0 rfl rfl
        have z1 := Z.cell 2 1 rfl rfl
        have z2 := Z.cell 2 2 rfl rfl
        go_wp2_with fail
        exact bodyPost_ret (v := .tuple #[.int .i64 m, .agg #[.int .i64 2, .int .i64 t, .int .i64 ns]]) (by simp [results, Tryz.results121, go_sem, z0, z1, z2]) rfl ⟨rfl, Z.below⟩
      · rw [if_neg hp] at hm hns
        subst hns
        have tp : (p == 2) = false := by simp [hp]
        have hjc : j ≤ c1 := by omega
        have CM := hide (fun (W : World) (h : Below w.heap.size w W) (c' : Nat) => show Calls Tryz.prog 142 #[.slice (some ⟨g, o + i, none⟩) (j - i) c'] W (RetNB W m) by
          have := sMed_any (some ⟨g, o + i, none⟩) c' ((l.drop i).take (j - i)) W B (by rw [hcl]; exact PI.out W h c') (by simp) (Nat.le_trans hB h.size) (by rw [hcl]; omega)
          rw [hcl] at this
          rw [hm, hcut]
          exact this)
        clear hd hcut hcl PI hm
        have X := hide (X.out.alloc #[.int .i64 p, .int .i64 t, .int .i64 ns] 34)
        obtain ⟨w4, hw4⟩ : ∃ q, q = w3.alloc (.cells #[.int .i64 p, .int .i64 t, .int .i64 ns] 34) := ⟨_, rfl⟩
        obtain ⟨b4, hb4⟩ : ∃ q, q = w3.heap.size := ⟨_, rfl⟩
        rw [← hw4, ← hb4] at X
        simp only [List.cons_append, List.nil_append] at X
        have e3 : w4.cell? ⟨w.heap.size + 1, 0, none⟩ = some (.int .i64 p) := X.out.cell 1 0 rfl rfl
        rw [hw4] at e3
        go_upto_region 7 with fail
        rw [← hw4]
        try rw [← hb4]
        clear hw4 hb4 e0 e1 e2 e3 d0 d1 d2
        have hne := X.out.apart 2 3 rfl rfl (by omega)
        have hne2 := fun e => hne (Eq.symm e)
        have X := hide X.out.drew
        have d0 : w4.drew.cell? ⟨w.heap.size, 0, none⟩ = some (.slice (some ⟨g, o, none⟩) l.length c1) := X.out.cell 0 0 rfl rfl
        have s0 : w4.drew.cell? ⟨b4, 0, none⟩ = some (.int .i64 p) := X.out.cell 3 0 rfl rfl
        have s1 : w4.drew.cell? ⟨b4, 1, none⟩ = some (.int .i64 t) := X.out.cell 3 1 rfl rfl
        have s2 : w4.drew.cell? ⟨b4, 2, none⟩ = some (.int .i64 ns) := X.out.cell 3 2 rfl rfl
        have r0 : w4.drew.cell? ⟨w.heap.size + 1 + 1, 0, none⟩ = some (.int .i64 0) := X.out.cell 2 0 rfl rfl
        have r1 : w4.drew.cell? ⟨w.heap.size + 1 + 1, 1, none⟩ = some (.int .i64 0) := X.out.cell 2 1 rfl rfl
        have r2 : w4.drew.cell? ⟨w.heap.size + 1 + 1, 2, none⟩ = some (.int .i64 0) := X.out.cell 2 2 rfl rfl
        have f20 : w4.drew.frozen? ⟨w.heap.size + 1 + 1, 0, none⟩ = false := X.out.free 2 0 rfl
        have f21 : w4.drew.frozen? ⟨w.heap.size + 1 + 1, 1, none⟩ = false := X.out.free 2 1 rfl
        have f22 : w4.drew.frozen? ⟨w.heap.size + 1 + 1, 2, none⟩ = false := X.out.free 2 2 rfl
        go_region_with (first
          | (go_at_call 142; refine (CM.out _ X.out.below _).mono ?_; rintro e wq ⟨rfl, hb⟩; replace X := hide (X.out.up hb); clear hb d0 s0 s1 s2 r0 r1 r2 f20 f21 f22; have d0 : wq.cell? ⟨w.heap.size, 0, none⟩ = some (.slice (some ⟨g, o, none⟩) l.length c1) := X.out.cell 0 0 rfl rfl; have s0 : wq.cell? ⟨b4, 0, none⟩ = some (.int .i64 p) := X.out.cell 3 0 rfl rfl; have s1 : wq.cell? ⟨b4, 1, none⟩ = some (.int .i64 t) := X.out.cell 3 1 rfl rfl; have s2 : wq.cell? ⟨b4, 2, none⟩ = some (.int .i64 ns) := X.out.cell 3 2 rfl rfl; have r0 : wq.cell? ⟨w.heap.size + 1 + 1, 0, none⟩ = some (.int .i64 0) := X.out.cell 2 0 rfl rfl; have r1 : wq.cell? ⟨w.heap.size + 1 + 1, 1, none⟩ = some (.int .i64 0) := X.out.cell 2 1 rfl rfl; have r2 : wq.cell? ⟨w.heap.size + 1 + 1, 2, none⟩ = some (.int .i64 0) := X.out.cell 2 2 rfl rfl; have f20 : wq.frozen? ⟨w.heap.size + 1 + 1, 0, none⟩ = false := X.out.free 2 0 rfl; have f21 : wq.frozen? ⟨w.heap.size + 1 + 1, 1, none⟩ = false := X.out.free 2 1 rfl; have f22 : wq.frozen? ⟨w.heap.size + 1 + 1, 2, none⟩ = false := X.out.free 2 2 rfl))
        all_goals
          have Z := (((X.out.set 2 0 rfl (.int .i64 p)).set 2 1 rfl (.int .i64 t)).set 2 2 rfl (.int .i64 ns))
          have z0 := Z.cell 2 0 rfl rfl
          have z1 := Z.cell 2 1 rfl rfl
          have z2 := Z.cell 2 2 rfl rfl
          go_wp2_with fail
          exact bodyPost_ret (v := .tuple #[.int .i64 m, .agg #[.int .i64 p, .int .i64 t, .int .i64 ns]]) (by simp [results, Tryz.results121, go_sem, z0, z1, z2]) rfl ⟨rfl, Z.below⟩

end Go.Proofs.YtajfhalalnlejaaGreat

/- What ChoosePivot returns, of the program (promise 4). Written by gen_cho.py. -/
namespace Go.Proofs.YtajfhalalnlejaaGreat
open Go.RowKit Go.ChangeShapes
set_option linter.unusedSimpArgs false
set_option linter.unusedVariables false
set_option maxRecDepth 100000

set_option maxHeartbeats 8000000 in
theorem iCho_any (u : Value) (l r : List Int) (ps : List Pv) (p t s a b : Int) (w : World) (B : Nat) (hv : Ck w B u l r ps) (hB : B ≤ w.heap.size) :
    Calls Tryz.prog 85 #[u, .agg #[.int .i64 p, .int .i64 t, .int .i64 s], .int .i64 a, .int .i64 b] w (RetMSt w (chM l r ps p t s a b) p t (chS l r ps p t s a b)) := by
  obtain ⟨a1, c1, a2, c2, a3, c3, rfl, i1, i2, i3⟩ := hv.form
  have hcap := hv.caps
  have V := hide hv
  have I1 := hide i1
  have HCP := hide hcap
  clear hv i1 i2 i3 hcap
  obtain ⟨q, hq⟩ : ∃ q, q = isCk l r ps := ⟨_, rfl⟩
  have HQ := hide hq
  have CK := hide (fun (W : World) (h : Below w.heap.size w W) => show Calls Tryz.prog 33 #[.agg #[.slice a1 l.length c1, .slice a2 r.length c2, .slice a3 ps.length c3]] W (RetB1 W q) by rw [hq]; exact iIsCk_any _ l r ps W B (V.out.below h hB) (Nat.le_trans hB h.size))
  obtain ⟨z, hz⟩ : ∃ z, z = isSet p t s := ⟨_, rfl⟩
  have HZ := hide hz
  have CS := hide (fun (W : World) => show Calls Tryz.prog 34 #[.agg #[.int .i64 p, .int .i64 t, .int .i64 s]] W (RetB1 W z) by rw [hz]; exact iIsSet_any p t s W)
  obtain ⟨m, hm⟩ : ∃ m, m = chM l r ps p t s a b := ⟨_, rfl⟩
  obtain ⟨ns, hns⟩ : ∃ m, m = chS l r ps p t s a b := ⟨_, rfl⟩
  have NO := hide (fun (h : ¬(q = true ∧ z = true ∧ 0 ≤ a ∧ a < b ∧ b ≤ l.length)) => show m = 0 ∧ ns = s by
    have hh : ¬ chOk l r ps p t s a b = true := by
      unfold chOk
      simp only [Bool.and_eq_true, decide_eq_true_eq, ← hq, ← hz]
      intro h2
      exact h ⟨h2.1.1, h2.1.2, h2.2⟩
    rw [hm, hns]
    unfold chM chS
    rw [if_neg hh, if_neg hh]
    exact ⟨rfl, rfl⟩)
  have YES := hide (fun (h1 : q = true) (h2 : z = true) (h3 : 0 ≤ a ∧ a < b ∧ b ≤ l.length) => show m = (if p = 2 then l.getD (a + nsF s % (b - a)).toNat 0 else medL (cutL l a b)) ∧ ns = (if p = 2 then nsF s else s) by
    have hh : chOk l r ps p t s a b = true := by
      unfold chOk
      rw [← hq, ← hz, h1, h2, decide_eq_true h3]
      rfl
    rw [hm, hns]
    unfold chM chS
    rw [if_pos hh, if_pos hh]
    exact ⟨rfl, rfl⟩)
  have HL := hide (fun (h : q = true) => areVals_len (isCk_parts (hq.symm.trans h)).1)
  rw [← hm, ← hns]
  clear hq hz hm hns
  have X := hide (Kn.three w #[.slice a1 l.length c1, .slice a2 r.length c2, .slice a3 ps.length c3] #[.int .i64 p, .int .i64 t, .int .i64 s] #[.int .i64 0, .int .i64 0, .int .i64 0] 33 34 34)
  obtain ⟨w1, hw1⟩ : ∃ w1, w1 = ((w.alloc (.cells #[.slice a1 l.length c1, .slice a2 r.length c2, .slice a3 ps.length c3] 33)).alloc (.cells #[.int .i64 p, .int .i64 t, .int .i64 s] 34)).alloc (.cells #[.int .i64 0, .int .i64 0, .int .i64 0] 34) := ⟨_, rfl⟩
  rw [← hw1] at X
  have d0 : w1.cell? ⟨w.heap.size, 0, none⟩ = some (.slice a1 l.length c1) := X.out.cell 0 0 rfl rfl
  have d1 : w1.cell? ⟨w.heap.size, 1, none⟩ = some (.slice a2 r.length c2) := X.out.cell 0 1 rfl rfl
  have d2 : w1.cell? ⟨w.heap.size, 2, none⟩ = some (.slice a3 ps.length c3) := X.out.cell 0 2 rfl rfl
  rw [hw1] at d0 d1 d2
  go_enter Tryz.func85, Tryz.ntmps85
  go_wp2_with fail
  rw [← hw1]
  clear hw1 d0 d1 d2
  go_at_call 33
  refine (CK.out _ X.out.below).mono ?_
  rintro e w2 ⟨rfl, hb⟩
  have X := hide (X.out.up hb)
  clear hb
  have e0 : w2.cell? ⟨w.heap.size + 1, 0, none⟩ = some (.int .i64 p) := X.out.cell 1 0 rfl rfl
  have e1 : w2.cell? ⟨w.heap.size + 1, 1, none⟩ = some (.int .i64 t) := X.out.cell 1 1 rfl rfl
  have e2 : w2.cell? ⟨w.heap.size + 1, 2, none⟩ = some (.int .i64 s) := X.out.cell 1 2 rfl rfl
  cases q with
  | false =>
    obtain ⟨rfl, rfl⟩ := NO.out (by simp)
    have f20 := X.out.free 2 0 rfl
    have f21 := X.out.free 2 1 rfl
    have f22 := X.out.free 2 2 rfl
    have r0 : w2.cell? ⟨w.heap.size + 1 + 1, 0, none⟩ = some (.int .i64 0) := X.out.cell 2 0 rfl rfl
    have r1 : w2.cell? ⟨w.heap.size + 1 + 1, 1, none⟩ = some (.int .i64 0) := X.out.cell 2 1 rfl rfl
    have r2 : w2.cell? ⟨w.heap.size + 1 + 1, 2, none⟩ = some (.int .i64 0) := X.out.cell 2 2 rfl rfl
    have hne := X.out.apart 1 2 rfl rfl (by omega)
    have hne2 := fun e => hne (Eq.symm e)
    go_upto_region 2 with fail
    go_region
    have Z := (((X.out.set 2 0 rfl (.int .i64 p)).set 2 1 rfl (.int .i64 t)).set 2 2 rfl (.int .i64 ns)).drew
    have z0 := Z.cell 2 0 rfl rfl
    have z1 := Z.cell 2 1 rfl rfl
    have z2 := Z.cell 2 2 rfl rfl
    go_wp2_with fail
    exact bodyPost_ret (v := .tuple #[.int .i64 0, .agg #[.int .i64 p, .int .i64 t, .int .i64 ns]]) (by simp [results, Tryz.results85, go_sem, z0, z1, z2]) rfl ⟨rfl, Z.below⟩
  | true =>
    go_wp2_with fail
    go_at_call 34
    refine (CS.out _).mono ?_
    rintro e w3 ⟨rfl, hb⟩
    have X := hide (X.out.up hb)
    clear hb e0 e1 e2
    have e0 : w3.cell? ⟨w.heap.size + 1, 0, none⟩ = some (.int .i64 p) := X.out.cell 1 0 rfl rfl
    have e1 : w3.cell? ⟨w.heap.size + 1, 1, none⟩ = some (.int .i64 t) := X.out.cell 1 1 rfl rfl
    have e2 : w3.cell? ⟨w.heap.size + 1, 2, none⟩ = some (.int .i64 s) := X.out.cell 1 2 rfl rfl
    have d0 : w3.cell? ⟨w.heap.size, 0, none⟩ = some (.slice a1 l.length c1) := X.out.cell 0 0 rfl rfl
    have d1 : w3.cell? ⟨w.heap.size, 1, none⟩ = some (.slice a2 r.length c2) := X.out.cell 0 1 rfl rfl
    have d2 : w3.cell? ⟨w.heap.size, 2, none⟩ = some (.slice a3 ps.length c3) := X.out.cell 0 2 rfl rfl
    cases z with
    | false =>
      obtain ⟨rfl, rfl⟩ := NO.out (by simp)
      have f20 := X.out.free 2 0 rfl
      have f21 := X.out.free 2 1 rfl
      have f22 := X.out.free 2 2 rfl
      have r0 : w3.cell? ⟨w.heap.size + 1 + 1, 0, none⟩ = some (.int .i64 0) := X.out.cell 2 0 rfl rfl
      have r1 : w3.cell? ⟨w.heap.size + 1 + 1, 1, none⟩ = some (.int .i64 0) := X.out.cell 2 1 rfl rfl
      have r2 : w3.cell? ⟨w.heap.size + 1 + 1, 2, none⟩ = some (.int .i64 0) := X.out.cell 2 2 rfl rfl
      have hne := X.out.apart 1 2 rfl rfl (by omega)
      have hne2 := fun e => hne (Eq.symm e)
      go_upto_region 2 with fail
      go_region
      have Z := (((X.out.set 2 0 rfl (.int .i64 p)).set 2 1 rfl (.int .i64 t)).set 2 2 rfl (.int .i64 ns)).drew
      have z0 := Z.cell 2 0 rfl rfl
      have z1 := Z.cell 2 1 rfl rfl
      have z2 := Z.cell 2 2 rfl rfl
      go_wp2_with fail
      exact bodyPost_ret (v := .tuple #[.int .i64 0, .agg #[.int .i64 p, .int .i64 t, .int .i64 ns]]) (by simp [results, Tryz.results85, go_sem, z0, z1, z2]) rfl ⟨rfl, Z.below⟩
    | true =>
      by_cases h1 : a < 0
      · have t1 : decide (a < 0) = true := decide_eq_true h1
        obtain ⟨rfl, rfl⟩ := NO.out (by intro h; omega)
        have f20 := X.out.free 2 0 rfl
        have f21 := X.out.free 2 1 rfl
        have f22 := X.out.free 2 2 rfl
        have r0 : w3.cell? ⟨w.heap.size + 1 + 1, 0, none⟩ = some (.int .i64 0) := X.out.cell 2 0 rfl rfl
        have r1 : w3.cell? ⟨w.heap.size + 1 + 1, 1, none⟩ = some (.int .i64 0) := X.out.cell 2 1 rfl rfl
        have r2 : w3.cell? ⟨w.heap.size + 1 + 1, 2, none⟩ = some (.int .i64 0) := X.out.cell 2 2 rfl rfl
        have hne := X.out.apart 1 2 rfl rfl (by omega)
        have hne2 := fun e => hne (Eq.symm e)
        go_upto_region 2 with fail
        go_region
        have Z := (((X.out.set 2 0 rfl (.int .i64 p)).set 2 1 rfl (.int .i64 t)).set 2 2 rfl (.int .i64 ns)).drew
        have z0 := Z.cell 2 0 rfl rfl
        have z1 := Z.cell 2 1 rfl rfl
        have z2 := Z.cell 2 2 rfl rfl
        go_wp2_with fail
        exact bodyPost_ret (v := .tuple #[.int .i64 0, .agg #[.int .i64 p, .int .i64 t, .int .i64 ns]]) (by simp [results, Tryz.results85, go_sem, z0, z1, z2]) rfl ⟨rfl, Z.below⟩
      have t1 : decide (a < 0) = false := decide_eq_false h1
      by_cases h2 : b ≤ a
      · have t2 : decide (b ≤ a) = true := decide_eq_true h2
        obtain ⟨rfl, rfl⟩ := NO.out (by intro h; omega)
        have f20 := X.out.free 2 0 rfl
        have f21 := X.out.free 2 1 rfl
        have f22 := X.out.free 2 2 rfl
        have r0 : w3.cell? ⟨w.heap.size + 1 + 1, 0, none⟩ = some (.int .i64 0) := X.out.cell 2 0 rfl rfl
        have r1 : w3.cell? ⟨w.heap.size + 1 + 1, 1, none⟩ = some (.int .i64 0) := X.out.cell 2 1 rfl rfl
        have r2 : w3.cell? ⟨w.heap.size + 1 + 1, 2, none⟩ = some (.int .i64 0) := X.out.cell 2 2 rfl rfl
        have hne := X.out.apart 1 2 rfl rfl (by omega)
        have hne2 := fun e => hne (Eq.symm e)
        go_upto_region 2 with fail
        go_region
        have Z := (((X.out.set 2 0 rfl (.int .i64 p)).set 2 1 rfl (.int .i64 t)).set 2 2 rfl (.int .i64 ns)).drew
        have z0 := Z.cell 2 0 rfl rfl
        have z1 := Z.cell 2 1 rfl rfl
        have z2 := Z.cell 2 2 rfl rfl
        go_wp2_with fail
        exact bodyPost_ret (v := .tuple #[.int .i64 0, .agg #[.int .i64 p, .int .i64 t, .int .i64 ns]]) (by simp [results, Tryz.results85, go_sem, z0, z1, z2]) rfl ⟨rfl, Z.below⟩
      have t2 : decide (b ≤ a) = false := decide_eq_false h2
      by_cases h3 : (l.length : Int) < b
      · have t3 : decide ((l.length : Int) < b) = true := decide_eq_true h3
        obtain ⟨rfl, rfl⟩ := NO.out (by intro h; omega)
        have f20 := X.out.free 2 0 rfl
        have f21 := X.out.free 2 1 rfl
        have f22 := X.out.free 2 2 rfl
        have r0 : w3.cell? ⟨w.heap.size + 1 + 1, 0, none⟩ = some (.int .i64 0) := X.out.cell 2 0 rfl rfl
        have r1 : w3.cell? ⟨w.heap.size + 1 + 1, 1, none⟩ = some (.int .i64 0) := X.out.cell 2 1 rfl rfl
        have r2 : w3.cell? ⟨w.heap.size + 1 + 1, 2, none⟩ = some (.int .i64 0) := X.out.cell 2 2 rfl rfl
        have hne := X.out.apart 1 2 rfl rfl (by omega)
        have hne2 := fun e => hne (Eq.symm e)
        go_upto_region 2 with fail
        go_region
        have Z := (((X.out.set 2 0 rfl (.int .i64 p)).set 2 1 rfl (.int .i64 t)).set 2 2 rfl (.int .i64 ns)).drew
        have z0 := Z.cell 2 0 rfl rfl
        have z1 := Z.cell 2 1 rfl rfl
        have z2 := Z.cell 2 2 rfl rfl
        go_wp2_with fail
        exact bodyPost_ret (v := .tuple #[.int .i64 0, .agg #[.int .i64 p, .int .i64 t, .int .i64 ns]]) (by simp [results, Tryz.results85, go_sem, z0, z1, z2]) rfl ⟨rfl, Z.below⟩
      have t3 : decide ((l.length : Int) < b) = false := decide_eq_false h3
      obtain ⟨hm, hns⟩ := YES.out (by simp) (by simp) ⟨by omega, by omega, by omega⟩
      have hl64 := HL.out (by simp)
      obtain ⟨g, o, rfl, hg⟩ := V.out.leftAt 0 (by omega)
      obtain ⟨i, rfl⟩ : ∃ i : Nat, a = (i : Int) := ⟨a.toNat, by omega⟩
      obtain ⟨j, rfl⟩ : ∃ j : Nat, b = (j : Int) := ⟨b.toNat, by omega⟩
      have hij : i < j := by omega
      have hjl : j ≤ l.length := by omega
      have hkc : l.length ≤ c1 := HCP.out.1
      clear NO YES HL h1 h2 h3
      have hd : ((j : Int) - (i : Int)) = ((j - i : Nat) : Int) := by omega
      have hcut : cutL l (i : Int) (j : Int) = (l.drop i).take (j - i) := by simp [cutL]
      have hcl : ((l.drop i).take (j - i)).length = j - i := by simp; omega
      have PI := hide (fun (W : World) (h : Below w.heap.size w W) (c' : Nat) => show Ints W B (.slice (some ⟨g, o + i, none⟩) (j - i) c') ((l.drop i).take (j - i)) by
        have := (I1.out.below h hB).part i j (by omega) hjl (some ⟨g, o + i, none⟩) c' (fun _ => by simp [addr_add])
        rwa [hcl] at this)
      by_cases hp : p = 2
      · rw [if_pos hp] at hm hns
        subst hp
        have hnr := nsF_range s
        obtain ⟨n, hn⟩ : ∃ n, n = nsF s := ⟨_, rfl⟩
        rw [← hn] at hm hns hnr
        have HN := hide hn
        subst hns
        clear hn
        have hm' : m = ((l.drop i).take (j - i)).getD (ns % (((l.drop i).take (j - i)).length : Int)).toNat 0 := by
          obtain ⟨k1, k2⟩ := rnd_ix (n := ns) (L := j - i) hnr (by omega)
          rw [hm, ← hcut, cut_getD l i j _ (by omega) (by rw [hcut, hcl]; omega), hcut, hcl, hd]
          have hk0 := Int.emod_nonneg ns (show ((j - i : Nat) : Int) ≠ 0 by omega)
          congr 1
          omega
        have CM := hide (fun (W : World) (h : Below w.heap.size w W) (c' : Nat) => show Calls Tryz.prog 127 #[.slice (some ⟨g, o + i, none⟩) (j - i) c', .int .i64 s] W (RetNN W m ns) by
          have := chRnd_any g (o + i) c' ((l.drop i).take (j - i)) s W B (by rw [hcl]; exact PI.out W h c') (by omega) (by rw [hcl]; omega)
          rw [← HN.out, ← hm', hcl] at this
          exact this)
        have hlook := hide (fun (W : World) (bb : Nat) (h : W.heap[bb]? = some (.map chE 3)) => show (Instr.lookup 118 (.map (some bb)) (.int .i64 2) false).run Tryz.prog W = .ok (.agg #[.string nmRandom, .func (.func 127) #[] #[]]) W from look_ch h 2 false)
        have hfl := fun W => field1_chf nmRandom 127 W
        clear hm hm' hd hcut hcl PI hnr HN
        go_upto_region 3 with fail
        go_cut [10, 11] (fun x y wx => x = .int .i64 m ∧ y = .int .i64 ns ∧ Hid (Kn w wx [(w.heap.size, #[.slice (some ⟨g, o, none⟩) l.length c1, .slice a2 r.length c2, .slice a3 ps.length c3], 33), (w.heap.size + 1, #[.int .i64 2, .int .i64 t, .int .i64 s], 34), (w.heap.size + 1 + 1, #[.int .i64 0, .int .i64 0, .int .i64 0], 34)]))
        case first =>
          have bb1 : (0 : Int) ≤ (i : Int) := by omega
          have bb2 : (i : Int) ≤ (j : Int) := by omega
          have bb3 : (j : Int) ≤ (c1 : Int) := by omega
          have hjc : j ≤ c1 := by omega
          have hij2 : i ≤ j := by omega
          have X := hide X.out.drew
          have KS := hide (fun (w' : World) (h : Kn w w' [(w.heap.size, #[.slice (some ⟨g, o, none⟩) l.length c1, .slice a2 r.length c2, .slice a3 ps.length c3], 33), (w.heap.size + 1, #[.int .i64 2, .int .i64 t, .int .i64 s], 34), (w.heap.size + 1 + 1, #[.int .i64 0, .int .i64 0, .int .i64 0], 34)]) => show w'.cell? ⟨w.heap.size, 0, none⟩ = some (.slice (some ⟨g, o, none⟩) l.length c1) ∧ w'.cell? ⟨w.heap.size + 1, 0, none⟩ = some (.int .i64 2) ∧ w'.cell? ⟨w.heap.size + 1, 2, none⟩ = some (.int .i64 s) from ⟨h.cell 0 0 rfl rfl, h.cell 1 0 rfl rfl, h.cell 1 2 rfl rfl⟩)
          clear e0 e1 e2 d0 d1 d2
          obtain ⟨d0, e0, e2⟩ := KS.out _ X.out
          go_region_held3 (fun w' => w'.cell? ⟨w.heap.size, 0, none⟩ = some (.slice (some ⟨g, o, none⟩) l.length c1) ∧ w'.cell? ⟨w.heap.size + 1, 0, none⟩ = some (.int .i64 2) ∧ w'.cell? ⟨w.heap.size + 1, 2, none⟩ = some (.int .i64 s)) (first | with_reducible exact KS.out _ X.out | go_keep) (first
            | (go_at_call 94; refine (choosers_any _).mono ?_; rintro e wq ⟨bb, rfl, hbb, hlo, hb⟩; have hlk := hlook.out _ _ hbb; replace X := hide (X.out.up hb); clear d0 e0 e2; obtain ⟨d0, e0, e2⟩ := KS.out _ X.out; clear hb hlo)
            | (go_at_call 127; refine (CM.out _ X.out.below _).mono ?_; rintro e wq2 ⟨rfl, hb⟩; replace X := hide (X.out.up hb); clear d0 e0 e2; obtain ⟨d0, e0, e2⟩ := KS.out _ X.out; clear hb))
          all_goals go_wp2_with fail
          all_goals go_meet
          all_goals exact ⟨rfl, rfl, X⟩
        case rest =>
          obtain ⟨rfl, rfl, X⟩ := hcut
          clear e0 e1 e2 d0 d1 d2
          have fs := X.out.free 1 2 rfl
          have cs := X.out.cell 1 2 rfl rfl
          go_upto_region 5 with fail
          have X := hide (X.out.putc 1 rfl (.int .i64 ns))
          obtain ⟨w5, hw5⟩ : ∃ q, q = wc.setCell ⟨w.heap.size + 1, 2, none⟩ (.int .i64 ns) := ⟨_, rfl⟩
          rw [← hw5] at X
          rw [← hw5]
          simp only [List.set_cons_zero, List.set_cons_succ] at X
          clear hw5 fs cs
          have s0 : w5.cell? ⟨w.heap.size + 1, 0, none⟩ = some (.int .i64 2) := X.out.cell 1 0 rfl rfl
          have s1 : w5.cell? ⟨w.heap.size + 1, 1, none⟩ = some (.int .i64 t) := X.out.cell 1 1 rfl rfl
          have s2 : w5.cell? ⟨w.heap.size + 1, 2, none⟩ = some (.int .i64 ns) := X.out.cell 1 2 rfl rfl
          have r0 : w5.cell? ⟨w.heap.size + 1 + 1, 0, none⟩ = some (.int .i64 0) := X.out.cell 2 0 rfl rfl
          have r1 : w5.cell? ⟨w.heap.size + 1 + 1, 1, none⟩ = some (.int .i64 0) := X.out.cell 2 1 rfl rfl
          have r2 : w5.cell? ⟨w.heap.size + 1 + 1, 2, none⟩ = some (.int .i64 0) := X.out.cell 2 2 rfl rfl
          have f20 := X.out.free 2 0 rfl
          have f21 := X.out.free 2 1 rfl
          have f22 := X.out.free 2 2 rfl
          have hne := X.out.apart 1 2 rfl rfl (by omega)
          have hne2 := fun e => hne (Eq.symm e)
          go_region
          have Z := (((X.out.set 2 0 rfl (.int .i64 2)).set 2 1 rfl (.int .i64 t)).set 2 2 rfl (.int .i64 ns)).drew
          have z0 := Z.cell 2 0 rfl rfl
          have z1 := Z.cell 2 1 rfl rfl
          have z2 := Z.cell 2 2 rfl rfl
          go_wp2_with fail
          exact bodyPost_ret (v := .tuple #[.int .i64 m, .agg #[.int .i64 2, .int .i64 t, .int .i64 ns]]) (by simp [results, Tryz.results85, go_sem, z0, z1, z2]) rfl ⟨rfl, Z.below⟩
      · rw [if_neg hp] at hm hns
        subst hns
        have hjc : j ≤ c1 := by omega
        have CM := hide (fun (W : World) (h : Below w.heap.size w W) (c' : Nat) => show Calls Tryz.prog 126 #[.slice (some ⟨g, o + i, none⟩) (j - i) c', .int .i64 ns] W (RetNN W m ns) by
          have := chMed_any (some ⟨g, o + i, none⟩) c' ((l.drop i).take (j - i)) ns W B (by rw [hcl]; exact PI.out W h c') (by simp) (Nat.le_trans hB h.size) (by rw [hcl]; omega)
          rw [hcl] at this
          rw [hm, hcut]
          exact this)
        have hset := isSet_true HZ.out.symm
        obtain ⟨nm, hnm⟩ : ∃ nm, chV p = .agg #[.string nm, .func (.func 126) #[] #[]] := by
          have h3 : p = 0 ∨ p = 1 := by omega
          rcases h3 with rfl | rfl
          · exact ⟨_, rfl⟩
          · exact ⟨_, rfl⟩
        have hlook := hide (fun (W : World) (bb : Nat) (h : W.heap[bb]? = some (.map chE 3)) => show (Instr.lookup 118 (.map (some bb)) (.int .i64 p) false).run Tryz.prog W = .ok (.agg #[.string nm, .func (.func 126) #[] #[]]) W by
          have := look_ch h p false
          rw [hnm] at this
          exact this)
        have hfl := fun W => field1_chf nm 126 W
        clear hm hd hcut hcl PI hset hnm
        go_upto_region 3 with fail
        go_cut [10, 11] (fun x y wx => x = .int .i64 m ∧ y = .int .i64 ns ∧ Hid (Kn w wx [(w.heap.size, #[.slice (some ⟨g, o, none⟩) l.length c1, .slice a2 r.length c2, .slice a3 ps.length c3], 33), (w.heap.size + 1, #[.int .i64 p, .int .i64 t, .int .i64 ns], 34), (w.heap.size + 1 + 1, #[.int .i64 0, .int .i64 0, .int .i64 0], 34)]))
        case first =>
          have bb1 : (0 : Int) ≤ (i : Int) := by omega
          have bb2 : (i : Int) ≤ (j : Int) := by omega
          have bb3 : (j : Int) ≤ (c1 : Int) := by omega
          have hjc : j ≤ c1 := by omega
          have hij2 : i ≤ j := by omega
          have X := hide X.out.drew
          have KS := hide (fun (w' : World) (h : Kn w w' [(w.heap.size, #[.slice (some ⟨g, o, none⟩) l.length c1, .slice a2 r.length c2, .slice a3 ps.length c3], 33), (w.heap.size + 1, #[.int .i64 p, .int .i64 t, .int .i64 ns], 34), (w.heap.size + 1 + 1, #[.int .i64 0, .int .i64 0, .int .i64 0], 34)]) => show w'.cell? ⟨w.heap.size, 0, none⟩ = some (.slice (some ⟨g, o, none⟩) l.length c1) ∧ w'.cell? ⟨w.heap.size + 1, 0, none⟩ = some (.int .i64 p) ∧ w'.cell? ⟨w.heap.size + 1, 2, none⟩ = some (.int .i64 ns) from ⟨h.cell 0 0 rfl rfl, h.cell 1 0 rfl rfl, h.cell 1 2 rfl rfl⟩)
          clear e0 e1 e2 d0 d1 d2
          obtain ⟨d0, e0, e2⟩ := KS.out _ X.out
          go_region_held3 (fun w' => w'.cell? ⟨w.heap.size, 0, none⟩ = some (.slice (some ⟨g, o, none⟩) l.length c1) ∧ w'.cell? ⟨w.heap.size + 1, 0, none⟩ = some (.int .i64 p) ∧ w'.cell? ⟨w.heap.size + 1, 2, none⟩ = some (.int .i64 ns)) (first | with_reducible exact KS.out _ X.out | go_keep) (first
            | (go_at_call 94; refine (choosers_any _).mono ?_; rintro e wq ⟨bb, rfl, hbb, hlo, hb⟩; have hlk := hlook.out _ _ hbb; replace X := hide (X.out.up hb); clear d0 e0 e2; obtain ⟨d0, e0, e2⟩ := KS.out _ X.out; clear hb hlo)
            | (go_at_call 126; refine (CM.out _ X.out.below _).mono ?_; rintro e wq2 ⟨rfl, hb⟩; replace X := hide (X.out.up hb); clear d0 e0 e2; obtain ⟨d0, e0, e2⟩ := KS.out _ X.out; clear hb))
          all_goals go_wp2_with fail
          all_goals go_meet
          all_goals exact ⟨rfl, rfl, X⟩
        case rest =>
          obtain ⟨rfl, rfl, X⟩ := hcut
          clear e0 e1 e2 d0 d1 d2
          have fs := X.out.free 1 2 rfl
          have cs := X.out.cell 1 2 rfl rfl
          go_upto_region 5 with fail
          have X := hide (X.out.putc 1 rfl (.int .i64 ns))
          obtain ⟨w5, hw5⟩ : ∃ q, q = wc.setCell ⟨w.heap.size + 1, 2, none⟩ (.int .i64 ns) := ⟨_, rfl⟩
          rw [← hw5] at X
          rw [← hw5]
          simp only [List.set_cons_zero, List.set_cons_succ] at X
          clear hw5 fs cs
          have s0 : w5.cell? ⟨w.heap.size + 1, 0, none⟩ = some (.int .i64 p) := X.out.cell 1 0 rfl rfl
          have s1 : w5.cell? ⟨w.heap.size + 1, 1, none⟩ = some (.int .i64 t) := X.out.cell 1 1 rfl rfl
          have s2 : w5.cell? ⟨w.heap.size + 1, 2, none⟩ = some (.int .i64 ns) := X.out.cell 1 2 rfl rfl
          have r0 : w5.cell? ⟨w.heap.size + 1 + 1, 0, none⟩ = some (.int .i64 0) := X.out.cell 2 0 rfl rfl
          have r1 : w5.cell? ⟨w.heap.size + 1 + 1, 1, none⟩ = some (.int .i64 0) := X.out.cell 2 1 rfl rfl
          have r2 : w5.cell? ⟨w.heap.size + 1 + 1, 2, none⟩ = some (.int .i64 0) := X.out.cell 2 2 rfl rfl
          have f20 := X.out.free 2 0 rfl
          have f21 := X.out.free 2 1 rfl
          have f22 := X.out.free 2 2 rfl
          have hne := X.out.apart 1 2 rfl rfl (by omega)
          have hne2 := fun e => hne (Eq.symm e)
          go_region
          have Z := (((X.out.set 2 0 rfl (.int .i64 p)).set 2 1 rfl (.int .i64 t)).set 2 2 rfl (.int .i64 ns)).drew
          have z0 := Z.cell 2 0 rfl rfl
          have z1 := Z.cell 2 1 rfl rfl
          have z2 := Z.cell 2 2 rfl rfl
          go_wp2_with fail
          exact bodyPost_ret (v := .tuple #[.int .i64 m, .agg #[.int .i64 p, .int .i64 t, .int .i64 ns]]) (by simp [results, Tryz.results85, go_sem, z0, z1, z2]) rfl ⟨rfl, Z.below⟩

end Go.Proofs.YtajfhalalnlejaaGreat

/- A column that may be read while the call's own boxes turn (CS); the sizes of pieces. -/
namespace Go.Proofs.YtajfhalalnlejaaGreat
open Go.RowKit Go.ChangeShapes
set_option linter.unusedSimpArgs false
set_option linter.unusedVariables false
set_option maxRecDepth 100000

/-- A column that reads as l, r, ps, and goes on to do so while the blocks from a to b turn. -/
def CS (a b : Nat) (w : World) (v : Value) (l r : List Int) (ps : List Pv) : Prop := ∀ W, Seg a b w W → CU W v l r ps
theorem CS.cu {a b : Nat} {w : World} {v : Value} {l r : List Int} {ps : List Pv} (h : CS a b w v l r ps) : CU w v l r ps := h w (Seg.refl _ _ _)
theorem CS.below {a b : Nat} {w w' : World} {v : Value} {l r : List Int} {ps : List Pv} (h : CS a b w v l r ps) (hb : Below w.heap.size w w') (ha : a ≤ w.heap.size) : CS a b w' v l r ps := fun W s => h W ((Seg.of_below hb ha).trans s)
theorem CS.seg {a b : Nat} {w w' : World} {v : Value} {l r : List Int} {ps : List Pv} (h : CS a b w v l r ps) (s : Seg a b w w') : CS a b w' v l r ps := fun W s2 => h W (s.trans s2)
theorem CS.drew {a b : Nat} {w : World} {v : Value} {l r : List Int} {ps : List Pv} (h : CS a b w v l r ps) (ha : a ≤ w.heap.size) : CS a b w.drew v l r ps := h.below (Below.refl _ _).drew ha
theorem CS.of_ck {a b : Nat} {w : World} {v : Value} {l r : List Int} {ps : List Pv} (h : Ck w a v l r ps) (ha : a ≤ w.heap.size) : CS a b w v l r ps := fun W s => (h.below s.below (Nat.le_refl _)).mono (Nat.le_trans ha s.below.size)
theorem CS.of_oc {a b : Nat} {w : World} {x y z : Value} {l r : List Int} {ps : List Pv} {lo hi n1 h1 n2 h2 n3 h3 n : Nat} (h : OC w x y z l r ps lo hi n1 h1 n2 h2 n3 h3) (hl : b ≤ lo) (hw : Wf l r ps n) (hn : n ≤ 9223372036854775807) : CS a b w (.agg #[x, y, z]) l r ps :=
  fun W s => (h.seg s (.inr hl)).ck hw.2.2.2.1 hw.2.2.2.2.1 (Nat.le_trans hw.2.2.1 hn) hw.2.2.2.2.2

theorem piece_le {T : PS} {n : Nat} {v : Int} (h : T.Ok n) : (T.piece v).2 - (T.piece v).1 ≤ 64 ∧ 0 ≤ (T.piece v).1 ∧ (T.piece v).1 ≤ 64 ∧ 0 ≤ (T.piece v).2 ∧ (T.piece v).2 ≤ 64 := by
  have h1 := piece_in (v := v) h.1
  have h2 := areVals_len (isCk_parts h.1).1
  unfold PS.piece
  omega

end Go.Proofs.YtajfhalalnlejaaGreat

/- What CrackWith of the program returns (promise 4). Written by gen_cwi2.py. -/
namespace Go.Proofs.YtajfhalalnlejaaGreat
open Go.RowKit Go.ChangeShapes
set_option linter.unusedSimpArgs false
set_option linter.unusedVariables false
set_option maxRecDepth 100000

theorem Kn.put3c {w W : World} {L : List (Nat × Array Value × TypeId)} (h : Kn w W L) (i : Nat) {g : Nat} {a b c : Value} {t : TypeId} (ho : L[i]? = some (g, #[a, b, c], t)) (x y z : Value) :
    Kn w (((W.setCell ⟨g, 0, none⟩ x).setCell ⟨g, 1, none⟩ y).setCell ⟨g, 2, none⟩ z) (L.set i (g, #[x, y, z], t)) := by
  have hi := (List.getElem?_eq_some_iff.1 ho).1
  have h1 := h.set i 0 ho x
  have h2 := h1.set i 1 (by rw [List.getElem?_set_self hi]) y
  have h3 := h2.set i 2 (by rw [List.getElem?_set_self (by simpa using hi)]) z
  simpa using h3

/-- A column of the call's own, settings and a number are returned; nothing that was there has turned. -/
def RetCW (w : World) (S : PS) (p t : Int) (e : Ending) (w' : World) : Prop := ∃ x y z lo hi n1 h1 n2 h2 n3 h3, e = .returned (.tuple #[.agg #[x, y, z], .agg #[.int .i64 p, .int .i64 t, .int .i64 S.s], .int .i64 (S.n : Int)]) ∧ w.heap.size ≤ lo ∧ hi ≤ w'.heap.size ∧ OC w' x y z S.l S.r S.ps lo hi n1 h1 n2 h2 n3 h3 ∧ Below w.heap.size w w'

/-- A column that reads as l, r, ps, and goes on to do so while blocks of G turn. -/
def CG (G : List Nat) (w : World) (v : Value) (l r : List Int) (ps : List Pv) : Prop := ∀ W, Only G w W → CU W v l r ps
theorem CG.cu {G : List Nat} {w : World} {v : Value} {l r : List Int} {ps : List Pv} (h : CG G w v l r ps) : CU w v l r ps := h w (Only.refl _ _)
theorem CG.below {G : List Nat} {w w' : World} {v : Value} {l r : List Int} {ps : List Pv} (h : CG G w v l r ps) (hb : Below w.heap.size w w') : CG G w' v l r ps := fun W s => h W ((Only.of_below hb).trans s)
theorem CG.poke3 {G : List Nat} {w : World} {v : Value} {l r : List Int} {ps : List Pv} (h : CG G w v l r ps) {g : Nat} (hg : g ∈ G) (x y z : Value) : CG G (((w.setCell ⟨g, 0, none⟩ x).setCell ⟨g, 1, none⟩ y).setCell ⟨g, 2, none⟩ z) v l r ps :=
  fun W s => h W (((((Only.refl G w).setCell (p := ⟨g, 0, none⟩) hg x).setCell (p := ⟨g, 1, none⟩) hg y).setCell (p := ⟨g, 2, none⟩) hg z).trans s)
theorem Ow.only' {G : List Nat} {w w' : World} {v : Value} {l : List Int} {lo hi : Nat} (h : Ow w v l lo hi) (ho : Only G w w') (hG : ∀ b ∈ G, b < lo ∨ hi ≤ b) : Ow w' v l lo hi := by
  obtain ⟨⟨F, h, hF⟩, h1, h2⟩ := h
  exact ⟨⟨F, h.eq fun x hx => ho.block x (h.lt x hx) (fun hm => by have := hG x hm; have := hF x hx; omega), hF⟩, h1, Nat.le_trans h2 ho.below.size⟩
theorem Owp.only' {G : List Nat} {w w' : World} {v : Value} {ps : List Pv} {lo hi : Nat} (h : Owp w v ps lo hi) (ho : Only G w w') (hG : ∀ b ∈ G, b < lo ∨ hi ≤ b) : Owp w' v ps lo hi :=
  ⟨owns_eq h.own fun g hg => ho.block g (World.ownsRow.lt h.own g hg).2 (fun hm => by have := hG g hm; have := h.lt g hg; have := World.ownsRow.lt h.own g hg; omega), h.lt, h.le, Nat.le_trans h.top ho.below.size⟩
theorem OC.only' {G : List Nat} {w w' : World} {x y z : Value} {l r : List Int} {ps : List Pv} {lo hi n1 h1 n2 h2 n3 h3 : Nat} (h : OC w x y z l r ps lo hi n1 h1 n2 h2 n3 h3) (ho : Only G w w') (hG : ∀ b ∈ G, b < lo ∨ hi ≤ b) : OC w' x y z l r ps lo hi n1 h1 n2 h2 n3 h3 := by
  obtain ⟨q1, q2, q3⟩ := h.low
  obtain ⟨p1, p2, p3⟩ := h.high
  exact ⟨h.x.only' ho (fun b hb => by have := hG b hb; omega), h.y.only' ho (fun b hb => by have := hG b hb; omega), h.z.only' ho (fun b hb => by have := hG b hb; omega), h.low, h.high, h.apart, h.top.1, Nat.le_trans h.top.2 ho.below.size⟩
theorem CG.of_oc {G : List Nat} {w : World} {x y z : Value} {l r : List Int} {ps : List Pv} {lo hi n1 h1 n2 h2 n3 h3 n : Nat} (h : OC w x y z l r ps lo hi n1 h1 n2 h2 n3 h3) (hG : ∀ b ∈ G, b < lo ∨ hi ≤ b) (hw : Wf l r ps n) (hn : n ≤ 9223372036854775807) : CG G w (.agg #[x, y, z]) l r ps :=
  fun W s => (h.only' s hG).ck hw.2.2.2.1 hw.2.2.2.2.1 (Nat.le_trans hw.2.2.1 hn) hw.2.2.2.2.2

theorem wf_up {l r : List Int} {ps : List Pv} {n m : Nat} (h : Wf l r ps n) (hm : n ≤ m) : Wf l r ps m := ⟨h.1, h.2.1, Nat.le_trans h.2.2.1 hm, h.2.2.2⟩

/-- A literal slice of numbers. -/
theorem lit_iu (W : World) (vs : List Int) (hw : ∀ v ∈ vs, I64 v) (hl : vs.length ≤ 1000) : IU (W.alloc (.cells (vs.map (Value.int .i64)).toArray 3)) (.slice (some ⟨W.heap.size, 0, none⟩) vs.length vs.length) vs := by
  refine ⟨_, _, rfl, by omega, hw, fun j hj => ⟨W.heap.size, 0, rfl, by simp, ?_⟩⟩
  rw [cell_of_row _ _ _ _ _ (0, 0) (heap_alloc_new W _)]
  simp [hj]

theorem PS.each_two (T : PS) (p t v : Int) : (T.step p t v).l = ((⟨T.l, T.r, T.ps, 0, 0⟩ : PS).each [T.m p t v, T.m p t v + 1]).l ∧ (T.step p t v).r = ((⟨T.l, T.r, T.ps, 0, 0⟩ : PS).each [T.m p t v, T.m p t v + 1]).r ∧ (T.step p t v).ps = ((⟨T.l, T.r, T.ps, 0, 0⟩ : PS).each [T.m p t v, T.m p t v + 1]).ps ∧ (T.step p t v).n = T.n + ((⟨T.l, T.r, T.ps, 0, 0⟩ : PS).each [T.m p t v, T.m p t v + 1]).n ∧ (T.step p t v).s = (T.chosen p t v).s := by
  refine ⟨rfl, rfl, rfl, ?_, rfl⟩
  show (T.n + (crS T.l T.r T.ps (T.m p t v)).length) + _ = T.n + ((0 + (crS T.l T.r T.ps (T.m p t v)).length) + _)
  rw [Nat.zero_add, Nat.add_assoc]
  rfl
theorem PS.each_one (T : PS) (v : Int) : (T.crack v).l = ((⟨T.l, T.r, T.ps, 0, 0⟩ : PS).each [v]).l ∧ (T.crack v).r = ((⟨T.l, T.r, T.ps, 0, 0⟩ : PS).each [v]).r ∧ (T.crack v).ps = ((⟨T.l, T.r, T.ps, 0, 0⟩ : PS).each [v]).ps ∧ (T.crack v).n = T.n + ((⟨T.l, T.r, T.ps, 0, 0⟩ : PS).each [v]).n ∧ (T.crack v).s = T.s := by
  refine ⟨rfl, rfl, rfl, ?_, rfl⟩
  show T.n + (crS T.l T.r T.ps v).length = T.n + (0 + (crS T.l T.r T.ps v).length)
  rw [Nat.zero_add]

set_option maxHeartbeats 20000000 in
theorem iCw_any (u : Value) (l r : List Int) (ps : List Pv) (p t s v : Int) (w : World) (hv : CU w u l r ps) (hwf : Wf l r ps 1048576) (hvw : I64 v) :
    Calls Tryz.prog 30 #[u, .agg #[.int .i64 p, .int .i64 t, .int .i64 s], .int .i64 v] w (RetCW w (cwF l r ps p t s v) p t) := by
  obtain ⟨a1, c1, a2, c2, a3, c3, rfl, -⟩ := Ck.form hv
  have X := hide ((((Kn.two w #[.slice a1 l.length c1, .slice a2 r.length c2, .slice a3 ps.length c3] #[.int .i64 p, .int .i64 t, .int .i64 s] 33 34).alloc #[.slice none 0 0, .slice none 0 0, .slice none 0 0] 33).alloc #[.int .i64 0, .int .i64 0, .int .i64 0] 34))
  obtain ⟨w1, hw1⟩ : ∃ w1, w1 = (((w.alloc (.cells #[.slice a1 l.length c1, .slice a2 r.length c2, .slice a3 ps.length c3] 33)).alloc (.cells #[.int .i64 p, .int .i64 t, .int .i64 s] 34)).alloc (.cells #[.slice none 0 0, .slice none 0 0, .slice none 0 0] 33)).alloc (.cells #[.int .i64 0, .int .i64 0, .int .i64 0] 34) := ⟨_, rfl⟩
  rw [← hw1] at X
  simp only [List.cons_append, List.nil_append, World.size_alloc] at X
  have V := hide (hv.below X.out.below)
  have hz := hide (show w1.heap.size = w.heap.size + 1 + 1 + 1 + 1 by rw [hw1]; simp)
  clear hv
  have CC := hide (fun (W : World) (h : CU W (.agg #[.slice a1 l.length c1, .slice a2 r.length c2, .slice a3 ps.length c3]) l r ps) => iCopy_any _ l r ps W W.heap.size h (Nat.le_refl _) hwf.1 hwf.2.1 (by have := hwf.2.2.1; omega))
  obtain ⟨q, hq⟩ : ∃ q, q = isCk l r ps := ⟨_, rfl⟩
  obtain ⟨z0, hzz⟩ : ∃ q, q = isSet p t s := ⟨_, rfl⟩
  have HQ := hide (fun (h : q = true) => show isCk l r ps = true from hq.symm.trans h)
  have HZ := hide (fun (h : z0 = true) => show 0 ≤ p ∧ p ≤ 2 ∧ 1 ≤ t ∧ t ≤ 64 ∧ 0 ≤ s ∧ s ≤ 10006 from of_decide_eq_true (hzz.symm.trans h))
  have HCK := hide (fun (W : World) (h : CU W (.agg #[.slice a1 l.length c1, .slice a2 r.length c2, .slice a3 ps.length c3]) l r ps) => show Calls Tryz.prog 33 #[.agg #[.slice a1 l.length c1, .slice a2 r.length c2, .slice a3 ps.length c3]] W (RetB1 W q) by rw [hq]; exact iIsCk_any _ l r ps W W.heap.size h (Nat.le_refl _))
  have HCS := hide (fun (W : World) => show Calls Tryz.prog 34 #[.agg #[.int .i64 p, .int .i64 t, .int .i64 s]] W (RetB1 W z0) by rw [hzz]; exact iIsSet_any p t s W)
  obtain ⟨S9, hS9⟩ : ∃ q, q = cwF l r ps p t s v := ⟨_, rfl⟩
  have NO := hide (fun (h : ¬(q = true ∧ z0 = true ∧ -1000 ≤ v ∧ v ≤ 1000)) => show S9 = ⟨l, r, ps, s, 0⟩ by
    rw [hS9]
    unfold cwF
    rw [if_neg]
    unfold cwOk
    simp only [Bool.and_eq_true, decide_eq_true_eq, ← hq, ← hzz]
    exact fun h2 => h ⟨h2.1.1, h2.1.2, h2.2⟩)
  obtain ⟨RS, hRS⟩ : ∃ q, q = PS.run p t v 64 ⟨l, r, ps, s, 0⟩ := ⟨_, rfl⟩
  have YES := hide (fun (h1 : q = true) (h2 : z0 = true) (h3 : -1000 ≤ v ∧ v ≤ 1000) => show S9 = RS.crack v by
    rw [hS9, hRS]
    unfold cwF
    rw [if_pos]
    unfold cwOk
    rw [← hq, ← hzz, h1, h2, decide_eq_true h3]
    rfl)
  have HRS := hide hRS
  rw [← hS9]
  have HWF := hide hwf
  clear hq hzz hS9 hRS hwf
  have d0 : w1.cell? ⟨w.heap.size, 0, none⟩ = some (.slice a1 l.length c1) := X.out.cell 0 0 rfl rfl
  have d1 : w1.cell? ⟨w.heap.size, 1, none⟩ = some (.slice a2 r.length c2) := X.out.cell 0 1 rfl rfl
  have d2 : w1.cell? ⟨w.heap.size, 2, none⟩ = some (.slice a3 ps.length c3) := X.out.cell 0 2 rfl rfl
  rw [hw1] at d0 d1 d2
  go_enter Tryz.func30, Tryz.ntmps30
  go_wp2_with fail
  rw [← hw1]
  clear hw1 d0 d1 d2
  obtain ⟨r2, hr2⟩ : ∃ q, q = w.heap.size + 1 + 1 + 1 := ⟨_, rfl⟩
  obtain ⟨r1, hr1⟩ : ∃ q, q = w.heap.size + 1 + 1 := ⟨_, rfl⟩
  obtain ⟨s1, hs1⟩ : ∃ q, q = w.heap.size + 1 := ⟨_, rfl⟩
  obtain ⟨h0, hh0⟩ : ∃ q, q = w.heap.size := ⟨_, rfl⟩
  have HBL0 := hide (show h0 < s1 ∧ s1 < r1 ∧ r1 < r2 ∧ w1.heap.size = r2 + 1 ∧ w.heap.size = h0 by have := hz.out; omega)
  rw [← hr2, ← hr1, ← hs1, ← hh0] at X
  rw [← hr2, ← hr1, ← hs1, ← hh0]
  clear hr2 hr1 hs1 hh0 hz
  go_at_call 66
  refine (CC.out _ V.out).mono ?_
  rintro e w2 ⟨x', y', z', lo, hi, n1, h1, n2, h2, n3, h3, rfl, q1, q2, O, hb⟩
  obtain ⟨b1, k1, rfl⟩ := O.x.form
  obtain ⟨b2, k2, rfl⟩ := O.y.form
  obtain ⟨b3, k3, rfl⟩ := O.z.own.form
  have X := hide (X.out.up hb)
  have V := hide (V.out.below hb)
  have hlo := hide (show r2 + 1 ≤ lo by have := HBL0.out; omega)
  have hw2 := hide (show w1.heap.size ≤ w2.heap.size ∧ hi ≤ w2.heap.size from ⟨hb.size, O.top.2⟩)
  have O := hide O
  clear hb q1 q2 CC
  have bl := below1 w2 (.cells #[.slice b1 l.length k1, .slice b2 r.length k2, .slice b3 ps.length k3] 33)
  have X := hide (X.out.alloc #[.slice b1 l.length k1, .slice b2 r.length k2, .slice b3 ps.length k3] 33)
  have V := hide (V.out.below bl)
  have O := hide (O.out.below bl)
  clear bl
  obtain ⟨w3, hw3⟩ : ∃ q, q = w2.alloc (.cells #[.slice b1 l.length k1, .slice b2 r.length k2, .slice b3 ps.length k3] 33) := ⟨_, rfl⟩
  obtain ⟨x1, hx1⟩ : ∃ q, q = w2.heap.size := ⟨_, rfl⟩
  have HBL := hide (show h0 < s1 ∧ s1 < r1 ∧ r1 < r2 ∧ r2 < x1 ∧ w3.heap.size = x1 + 1 ∧ w.heap.size = h0 ∧ hi ≤ x1 by
    have e : w3.heap.size = w2.heap.size + 1 := by rw [hw3]; simp
    have := HBL0.out
    have := hw2.out
    omega)
  rw [← hw3] at X V O
  rw [← hx1] at X
  simp only [List.cons_append, List.nil_append] at X
  have KS := hide (fun (W : World) (x y z : Value) (ss : Int) (h : Kn w W [(h0, #[.slice a1 l.length c1, .slice a2 r.length c2, .slice a3 ps.length c3], 33), (s1, #[.int .i64 p, .int .i64 t, .int .i64 ss], 34), (r1, #[.slice none 0 0, .slice none 0 0, .slice none 0 0], 33), (r2, #[.int .i64 0, .int .i64 0, .int .i64 0], 34), (x1, #[x, y, z], 33)]) => show W.cell? ⟨s1, 0, none⟩ = some (.int .i64 p) ∧ W.cell? ⟨s1, 1, none⟩ = some (.int .i64 t) ∧ W.cell? ⟨s1, 2, none⟩ = some (.int .i64 ss) ∧ W.frozen? ⟨s1, 0, none⟩ = false ∧ W.frozen? ⟨s1, 1, none⟩ = false ∧ W.frozen? ⟨s1, 2, none⟩ = false ∧ W.cell? ⟨x1, 0, none⟩ = some x ∧ W.cell? ⟨x1, 1, none⟩ = some y ∧ W.cell? ⟨x1, 2, none⟩ = some z ∧ W.frozen? ⟨x1, 0, none⟩ = false ∧ W.frozen? ⟨x1, 1, none⟩ = false ∧ W.frozen? ⟨x1, 2, none⟩ = false from ⟨h.cell 1 0 rfl rfl, h.cell 1 1 rfl rfl, h.cell 1 2 rfl rfl, h.free 1 0 rfl, h.free 1 1 rfl, h.free 1 2 rfl, h.cell 4 0 rfl rfl, h.cell 4 1 rfl rfl, h.cell 4 2 rfl rfl, h.free 4 0 rfl, h.free 4 1 rfl, h.free 4 2 rfl⟩)
  have KR := hide (fun (W : World) (x y z : Value) (ss : Int) (h : Kn w W [(h0, #[.slice a1 l.length c1, .slice a2 r.length c2, .slice a3 ps.length c3], 33), (s1, #[.int .i64 p, .int .i64 t, .int .i64 ss], 34), (r1, #[.slice none 0 0, .slice none 0 0, .slice none 0 0], 33), (r2, #[.int .i64 0, .int .i64 0, .int .i64 0], 34), (x1, #[x, y, z], 33)]) => show W.cell? ⟨r1, 0, none⟩ = some (.slice none 0 0) ∧ W.cell? ⟨r1, 1, none⟩ = some (.slice none 0 0) ∧ W.cell? ⟨r1, 2, none⟩ = some (.slice none 0 0) ∧ W.cell? ⟨r2, 0, none⟩ = some (.int .i64 0) ∧ W.cell? ⟨r2, 1, none⟩ = some (.int .i64 0) ∧ W.cell? ⟨r2, 2, none⟩ = some (.int .i64 0) ∧ W.frozen? ⟨r1, 0, none⟩ = false ∧ W.frozen? ⟨r1, 1, none⟩ = false ∧ W.frozen? ⟨r1, 2, none⟩ = false ∧ W.frozen? ⟨r2, 0, none⟩ = false ∧ W.frozen? ⟨r2, 1, none⟩ = false ∧ W.frozen? ⟨r2, 2, none⟩ = false from ⟨h.cell 2 0 rfl rfl, h.cell 2 1 rfl rfl, h.cell 2 2 rfl rfl, h.cell 3 0 rfl rfl, h.cell 3 1 rfl rfl, h.cell 3 2 rfl rfl, h.free 2 0 rfl, h.free 2 1 rfl, h.free 2 2 rfl, h.free 3 0 rfl, h.free 3 1 rfl, h.free 3 2 rfl⟩)
  have KU := hide (fun (W : World) (x y z : Value) (ss : Int) (h : Kn w W [(h0, #[.slice a1 l.length c1, .slice a2 r.length c2, .slice a3 ps.length c3], 33), (s1, #[.int .i64 p, .int .i64 t, .int .i64 ss], 34), (r1, #[.slice none 0 0, .slice none 0 0, .slice none 0 0], 33), (r2, #[.int .i64 0, .int .i64 0, .int .i64 0], 34), (x1, #[x, y, z], 33)]) => show W.cell? ⟨h0, 0, none⟩ = some (.slice a1 l.length c1) ∧ W.cell? ⟨h0, 1, none⟩ = some (.slice a2 r.length c2) ∧ W.cell? ⟨h0, 2, none⟩ = some (.slice a3 ps.length c3) from ⟨h.cell 0 0 rfl rfl, h.cell 0 1 rfl rfl, h.cell 0 2 rfl rfl⟩)
  obtain ⟨u0, u1, u2⟩ := KU.out _ _ _ _ _ X.out
  rw [hw3] at u0 u1 u2
  go_wp2_with fail
  rw [← hw3]
  try rw [← hx1]
  clear hw3 hx1 u0 u1 u2 hw2 HBL0
  go_at_call 33
  refine (HCK.out _ V.out).mono ?_
  rintro e w4 ⟨rfl, hb⟩
  have X := hide (X.out.up hb)
  have V := hide (V.out.below hb)
  have O := hide (O.out.below hb)
  clear hb
  cases q with
  | false =>
    obtain rfl := NO.out (by simp)
    obtain ⟨c0, c1', c2', g0, g1, g2, d0, d1, d2, e0, e1, e2⟩ := KS.out _ _ _ _ _ X.out
    obtain ⟨kq0, kq1, kq2, lq0, lq1, lq2, mq0, mq1, mq2, n0', n1', n2'⟩ := KR.out _ _ _ _ _ X.out
    have hne1 : r1 ≠ r2 := by have := HBL.out; omega
    have hne2 : r2 ≠ r1 := by have := HBL.out; omega
    have hne3 : s1 ≠ r1 := by have := HBL.out; omega
    have hne4 : s1 ≠ r2 := by have := HBL.out; omega
    have hne5 : x1 ≠ r1 := by have := HBL.out; omega
    have hne6 : x1 ≠ r2 := by have := HBL.out; omega
    go_upto_region 3 with fail
    go_region
    have Z := ((X.out.put3c 2 rfl (.slice b1 l.length k1) (.slice b2 r.length k2) (.slice b3 ps.length k3)).put3c 3 rfl (.int .i64 p) (.int .i64 t) (.int .i64 s)).drew
    have z0 := Z.cell 2 0 rfl rfl
    have z1 := Z.cell 2 1 rfl rfl
    have z2 := Z.cell 2 2 rfl rfl
    have z3 := Z.cell 3 0 rfl rfl
    have z4 := Z.cell 3 1 rfl rfl
    have z5 := Z.cell 3 2 rfl rfl
    have O9 := ((O.out.seg (seg3 _ r1 (.slice b1 l.length k1) (.slice b2 r.length k2) (.slice b3 ps.length k3)) (.inr (by have := hlo.out; have := HBL.out; omega))).seg (seg3 _ r2 (.int .i64 p) (.int .i64 t) (.int .i64 s)) (.inr (by have := hlo.out; have := HBL.out; omega))).below (Below.refl _ _).drew
    go_wp2_with fail
    exact bodyPost_ret (v := .tuple #[.agg #[.slice b1 l.length k1, .slice b2 r.length k2, .slice b3 ps.length k3], .agg #[.int .i64 p, .int .i64 t, .int .i64 s], .int .i64 0]) (by simp [results, Tryz.results30, go_sem, z0, z1, z2, z3, z4, z5]) rfl
      ⟨_, _, _, lo, hi, n1, h1, n2, h2, n3, h3, rfl, by have := hlo.out; have := HBL.out; omega, O9.top.2, O9, Z.below⟩
  | true =>
    obtain ⟨c0, c1', c2', g0, g1, g2, d0, d1, d2, e0, e1, e2⟩ := KS.out _ _ _ _ _ X.out
    go_wp2_with fail
    clear c0 c1' c2' g0 g1 g2 d0 d1 d2 e0 e1 e2
    go_at_call 34
    refine (HCS.out _).mono ?_
    rintro e w5 ⟨rfl, hb⟩
    have X := hide (X.out.up hb)
    have V := hide (V.out.below hb)
    have O := hide (O.out.below hb)
    clear hb
    cases z0 with
    | false =>
      obtain rfl := NO.out (by simp)
      obtain ⟨c0, c1', c2', g0, g1, g2, d0, d1, d2, e0, e1, e2⟩ := KS.out _ _ _ _ _ X.out
      obtain ⟨kq0, kq1, kq2, lq0, lq1, lq2, mq0, mq1, mq2, n0', n1', n2'⟩ := KR.out _ _ _ _ _ X.out
      have hne1 : r1 ≠ r2 := by have := HBL.out; omega
      have hne2 : r2 ≠ r1 := by have := HBL.out; omega
      have hne3 : s1 ≠ r1 := by have := HBL.out; omega
      have hne4 : s1 ≠ r2 := by have := HBL.out; omega
      have hne5 : x1 ≠ r1 := by have := HBL.out; omega
      have hne6 : x1 ≠ r2 := by have := HBL.out; omega
      go_upto_region 3 with fail
      go_region
      have Z := ((X.out.put3c 2 rfl (.slice b1 l.length k1) (.slice b2 r.length k2) (.slice b3 ps.length k3)).put3c 3 rfl (.int .i64 p) (.int .i64 t) (.int .i64 s)).drew
      have z0 := Z.cell 2 0 rfl rfl
      have z1 := Z.cell 2 1 rfl rfl
      have z2 := Z.cell 2 2 rfl rfl
      have z3 := Z.cell 3 0 rfl rfl
      have z4 := Z.cell 3 1 rfl rfl
      have z5 := Z.cell 3 2 rfl rfl
      have O9 := ((O.out.seg (seg3 _ r1 (.slice b1 l.length k1) (.slice b2 r.length k2) (.slice b3 ps.length k3)) (.inr (by have := hlo.out; have := HBL.out; omega))).seg (seg3 _ r2 (.int .i64 p) (.int .i64 t) (.int .i64 s)) (.inr (by have := hlo.out; have := HBL.out; omega))).below (Below.refl _ _).drew
      go_wp2_with fail
      exact bodyPost_ret (v := .tuple #[.agg #[.slice b1 l.length k1, .slice b2 r.length k2, .slice b3 ps.length k3], .agg #[.int .i64 p, .int .i64 t, .int .i64 s], .int .i64 0]) (by simp [results, Tryz.results30, go_sem, z0, z1, z2, z3, z4, z5]) rfl
        ⟨_, _, _, lo, hi, n1, h1, n2, h2, n3, h3, rfl, by have := hlo.out; have := HBL.out; omega, O9.top.2, O9, Z.below⟩
    | true =>
      by_cases hvb : ¬(-1000 ≤ v ∧ v ≤ 1000)
      · have CB := hide (fun (W : World) => bound_no v W (by omega))
        go_wp2_with fail
        go_at_call 83
        refine (CB.out _).mono ?_
        rintro e wq ⟨rfl, rfl⟩
        obtain rfl := NO.out (by intro h; exact hvb h.2.2)
        obtain ⟨c0, c1', c2', g0, g1, g2, d0, d1, d2, e0, e1, e2⟩ := KS.out _ _ _ _ _ X.out
        obtain ⟨kq0, kq1, kq2, lq0, lq1, lq2, mq0, mq1, mq2, n0', n1', n2'⟩ := KR.out _ _ _ _ _ X.out
        have hne1 : r1 ≠ r2 := by have := HBL.out; omega
        have hne2 : r2 ≠ r1 := by have := HBL.out; omega
        have hne3 : s1 ≠ r1 := by have := HBL.out; omega
        have hne4 : s1 ≠ r2 := by have := HBL.out; omega
        have hne5 : x1 ≠ r1 := by have := HBL.out; omega
        have hne6 : x1 ≠ r2 := by have := HBL.out; omega
        go_upto_region 3 with fail
        go_region
        have Z := ((X.out.put3c 2 rfl (.slice b1 l.length k1) (.slice b2 r.length k2) (.slice b3 ps.length k3)).put3c 3 rfl (.int .i64 p) (.int .i64 t) (.int .i64 s)).drew
        have z0 := Z.cell 2 0 rfl rfl
        have z1 := Z.cell 2 1 rfl rfl
        have z2 := Z.cell 2 2 rfl rfl
        have z3 := Z.cell 3 0 rfl rfl
        have z4 := Z.cell 3 1 rfl rfl
        have z5 := Z.cell 3 2 rfl rfl
        have O9 := ((O.out.seg (seg3 _ r1 (.slice b1 l.length k1) (.slice b2 r.length k2) (.slice b3 ps.length k3)) (.inr (by have := hlo.out; have := HBL.out; omega))).seg (seg3 _ r2 (.int .i64 p) (.int .i64 t) (.int .i64 s)) (.inr (by have := hlo.out; have := HBL.out; omega))).below (Below.refl _ _).drew
        go_wp2_with fail
        exact bodyPost_ret (v := .tuple #[.agg #[.slice b1 l.length k1, .slice b2 r.length k2, .slice b3 ps.length k3], .agg #[.int .i64 p, .int .i64 t, .int .i64 s], .int .i64 0]) (by simp [results, Tryz.results30, go_sem, z0, z1, z2, z3, z4, z5]) rfl
          ⟨_, _, _, lo, hi, n1, h1, n2, h2, n3, h3, rfl, by have := hlo.out; have := HBL.out; omega, O9.top.2, O9, Z.below⟩
      have hvb : -1000 ≤ v ∧ v ≤ 1000 := by omega
      have CB := hide (fun (W : World) => bound_yes v W hvb.1 hvb.2)
      go_wp2_with fail
      go_at_call 83
      refine (CB.out _).mono ?_
      rintro e wq ⟨rfl, rfl⟩
      have HWB := hide (show Wf l r ps 2001 from wf_ck HWF.out (HQ.out (by simp)))
      obtain ⟨hp1, hp2, ht1, ht2, hsa, hsb⟩ := HZ.out (by simp)
      have hp : 0 ≤ p ∧ p ≤ 2 := ⟨hp1, hp2⟩
      have ht : 1 ≤ t ∧ t ≤ 64 := ⟨ht1, ht2⟩
      have HOK := hide (show (⟨l, r, ps, s, 0⟩ : PS).Ok 0 from ⟨HQ.out (by simp), HWB.out, hsa, hsb, Nat.le_refl _⟩)
      have HY := hide (YES.out (by simp) (by simp) hvb)
      clear NO YES HQ HZ HCK HCS CB hvw hp1 hp2 ht1 ht2 hsa hsb V HWF
      have V := hide (CG.of_oc (G := [s1, x1]) O.out (by intro b hb; have := HBL.out; have := hlo.out; simp only [List.mem_cons, List.not_mem_nil, or_false] at hb; rcases hb with rfl | rfl <;> omega) HWB.out (by omega))
      have HRUN := hide (fun (T : PS) (k : Nat) (h : T.more p t v = true) => show PS.run p t v (k + 1) T = PS.run p t v k (T.step p t v) by rw [PS.run, if_pos h])
      have HST := hide (fun (T : PS) (k : Nat) (h : T.more p t v = false) => show PS.run p t v k T = T from PS.run_stop h k)
      have CP := hide (fun (W : World) (x y z : Value) (T : PS) (hv' : CU W (.agg #[x, y, z]) T.l T.r T.ps) => show Calls Tryz.prog 84 #[.agg #[x, y, z], .int .i64 v] W (RetII W (T.piece v)) from iPieceOf_any _ T.l T.r T.ps v W W.heap.size hv' (Nat.le_refl _))
      obtain ⟨T0, hT0⟩ : ∃ q : PS, q = ⟨l, r, ps, s, 0⟩ := ⟨_, rfl⟩
      have HT0 := hide (show T0.l = l ∧ T0.r = r ∧ T0.ps = ps ∧ T0.s = s ∧ T0.n = 0 by rw [hT0]; exact ⟨rfl, rfl, rfl, rfl, rfl⟩)
      rw [← hT0] at HOK HRS
      clear hT0
      have CP0 := hide (show Calls Tryz.prog 84 #[.agg #[.slice b1 l.length k1, .slice b2 r.length k2, .slice b3 ps.length k3], .int .i64 v] w5 (RetII w5 (T0.piece v)) from CP.out w5 _ _ _ T0 (by rw [HT0.out.1, HT0.out.2.1, HT0.out.2.2.1]; exact V.out.cu))
      obtain ⟨c0, c1', c2', g0, g1, g2, d0, d1, d2, e0, e1, e2⟩ := KS.out _ _ _ _ _ X.out
      go_wp2_with fail
      clear c0 c1' c2' g0 g1 g2 d0 d1 d2 e0 e1 e2
      go_at_call 84
      refine CP0.out.mono ?_
      rintro e w6 ⟨rfl, hb⟩
      have X := hide (X.out.up hb)
      have V := hide (V.out.below hb)
      clear hb CP0 O hlo
      obtain ⟨fr0, hfr0⟩ : ∃ q, q = (T0.piece v).1 := ⟨_, rfl⟩
      obtain ⟨to0, hto0⟩ : ∃ q, q = (T0.piece v).2 := ⟨_, rfl⟩
      rw [← hfr0, ← hto0]
      have HF0 := hide hfr0
      have HT1 := hide hto0
      clear hfr0 hto0
      go_wp2_with fail
      go_loopg [10, 11, 12] 64 (fun g tot fr tq wr => ∃ (x y z : Value) (T : PS) (nn : Nat), tot = .int .i64 (T.n : Int) ∧ fr = .int .i64 (T.piece v).1 ∧ tq = .int .i64 (T.piece v).2 ∧ Hid (T.Ok nn) ∧ Hid (nn + g * 2097152 ≤ 64 * 2097152) ∧ Hid ((T.piece v).2 - (T.piece v).1 ≤ g) ∧ Hid (PS.run p t v g T = RS) ∧ Hid (Kn w wr [(h0, #[.slice a1 l.length c1, .slice a2 r.length c2, .slice a3 ps.length c3], 33), (s1, #[.int .i64 p, .int .i64 t, .int .i64 T.s], 34), (r1, #[.slice none 0 0, .slice none 0 0, .slice none 0 0], 33), (r2, #[.int .i64 0, .int .i64 0, .int .i64 0], 34), (x1, #[x, y, z], 33)]) ∧ Hid (CG [s1, x1] wr (.agg #[x, y, z]) T.l T.r T.ps))
      case atStart => exact ⟨_, _, _, T0, 0, by rw [HT0.out.2.2.2.2]; rfl, by rw [HF0.out], by rw [HT1.out], HOK.out, by simp [Hid], (piece_le HOK.out).1, HRS.out.symm, by rw [HT0.out.2.2.2.1]; exact X.out, by rw [HT0.out.1, HT0.out.2.1, HT0.out.2.2.1]; exact V.out⟩
      case round =>
        obtain ⟨x, y, z, T, nn, rfl, rfl, rfl, hT, hnn, hpc, hrun, X, V⟩ := hrel
        clear HT0 HF0 HT1 HOK HWB
        obtain ⟨b1, k1, b2, k2, b3, k3, hform, -⟩ := Ck.form V.out.cu
        simp only [Value.agg.injEq, Array.mk.injEq, List.cons.injEq, and_true] at hform
        obtain ⟨rfl, rfl, rfl⟩ := hform
        have hpcl := hide (piece_le (v := v) hT.out)
        have HMORE := hide (show T.more p t v = (decide (p ≠ 0) && decide (t < (T.piece v).2 - (T.piece v).1)) from rfl)
        have CH := hide (fun (W : World) (hv' : CU W (.agg #[.slice b1 T.l.length k1, .slice b2 T.r.length k2, .slice b3 T.ps.length k3]) T.l T.r T.ps) => show Calls Tryz.prog 85 #[.agg #[.slice b1 T.l.length k1, .slice b2 T.r.length k2, .slice b3 T.ps.length k3], .agg #[.int .i64 p, .int .i64 t, .int .i64 T.s], .int .i64 (T.piece v).1, .int .i64 (T.piece v).2] W (RetMSt W (T.m p t v) p t (T.chosen p t v).s) from iCho_any _ T.l T.r T.ps p t T.s (T.piece v).1 (T.piece v).2 W W.heap.size hv' (Nat.le_refl _))
        have HLESS := hide (fun (h : T.more p t v = true) => PS.less hT.out hp ht hvb h)
        obtain ⟨pa, hpa⟩ : ∃ q, q = (T.piece v).1 := ⟨_, rfl⟩
        obtain ⟨pb, hpb⟩ : ∃ q, q = (T.piece v).2 := ⟨_, rfl⟩
        rw [← hpa, ← hpb] at CH HLESS HMORE hpcl hpc
        rw [← hpa, ← hpb]
        clear hpa hpb
        by_cases hp0 : p = 0
        · have hm : T.more p t v = false := by rw [HMORE.out]; simp [hp0]
          have tp : (p != 0) = false := by simp [hp0]
          clear HMORE HLESS CH hpcl CP hp0
          have hst := HST.out T gk hm
          have e9 : RS = T := hrun.out.symm.trans hst
          have HY9 := hide (show S9 = T.crack v by rw [HY.out, e9])
          clear hst e9 hm HRS HRUN HST hrun hpc HY
          obtain ⟨E1, E2, E3, E4, E5⟩ := PS.each_one T v
          have hE := PS.crack_ok (x := v) hT.out hvb
          have hvI := hide (show ∀ y ∈ [v], I64 y from fun y hy => by
            have ey : y = v := by simpa using hy
            rw [ey]
            exact ⟨by omega, by omega⟩)
          have HCE := hide (fun (W : World) (hv' : CU W (.agg #[.slice b1 T.l.length k1, .slice b2 T.r.length k2, .slice b3 T.ps.length k3]) T.l T.r T.ps) (a' : Option Addr) (c' : Nat) (hi' : IU W (.slice a' 1 c') [v]) => show Calls Tryz.prog 86 #[.agg #[.slice b1 T.l.length k1, .slice b2 T.r.length k2, .slice b3 T.ps.length k3], .slice a' 1 c'] W (RetPS W ((⟨T.l, T.r, T.ps, 0, 0⟩ : PS).each [v])) from iEach_any _ T.l T.r T.ps 0 a' c' [v] W hv' hi' (wf_up hT.out.2.1 (by omega)) (by simp) (by simp) hvI.out)
          obtain ⟨E, hEE⟩ : ∃ q, q = (⟨T.l, T.r, T.ps, 0, 0⟩ : PS).each [v] := ⟨_, rfl⟩
          rw [← hEE] at HCE E1 E2 E3 E4
          have hnE : (T.crack v).n ≤ 1000000000 := Nat.le_trans hE.2.2.2.2 (by have := hnn.out; omega)
          have hS9 := HY9.out
          rw [← hS9] at E1 E2 E3 E4 E5 hnE
          have hs5 := E5
          have HSE := hide (⟨E1, E2, E3, E5⟩ : S9.l = E.l ∧ S9.r = E.r ∧ S9.ps = E.ps ∧ S9.s = T.s)
          have wn : IntKind.i64.wrap ((T.n : Int) + (E.n : Int)) = (S9.n : Int) := by rw [IntWalk.i64_left, IntWalk.wrap64_in _ (by omega)]; omega
          have wn2 : wrap64 ((T.n : Int) + (E.n : Int)) = (S9.n : Int) := by rw [IntWalk.wrap64_in _ (by omega)]; omega
          obtain ⟨ss, hss⟩ : ∃ q, q = T.s := ⟨_, rfl⟩
          rw [← hss] at X HSE
          clear hEE hS9 HY9 E1 E2 E3 E4 E5 hs5 hE hnE hss hnn
          obtain ⟨c0, c1', c2', g0, g1, g2, d0, d1, d2, e0, e1, e2⟩ := KS.out _ _ _ _ _ X.out
          have LI := hide (fun (W : World) => lit_iu W [v] hvI.out (by simp))
          go_wp2_with fail
          clear c0 c1' c2' g0 g1 g2 d0 d1 d2 e0 e1 e2
          go_at_call 86
          have bl := below1 wr (.cells #[.int .i64 v] 3)
          have X := hide (X.out.up bl)
          have V := hide (V.out.below bl)
          clear bl
          refine (HCE.out _ V.out.cu _ _ (LI.out _)).mono ?_
          rintro e wq ⟨x', y', z', lo, hi, n1, h1, n2, h2, n3, h3, rfl, q1, q2, O, hb⟩
          obtain ⟨v1, j1, rfl⟩ := O.x.form
          obtain ⟨v2, j2, rfl⟩ := O.y.form
          obtain ⟨v3, j3, rfl⟩ := O.z.own.form
          have hlo := hide (show x1 + 1 ≤ lo from Nat.le_trans (Nat.succ_le_of_lt (X.out.lt 4 rfl)) q1)
          have X := hide (X.out.up hb)
          have O := hide O
          clear hb q1 q2 V HCE LI
          obtain ⟨c0, c1', c2', g0, g1, g2, d0, d1, d2, e0, e1, e2⟩ := KS.out _ _ _ _ _ X.out
          go_upto_region 13 with fail
          clear c0 c1' c2' g0 g1 g2 d0 d1 d2 e0 e1 e2
          have X := hide (X.out.put3c 4 rfl (.slice v1 E.l.length j1) (.slice v2 E.r.length j2) (.slice v3 E.ps.length j3))
          have O := hide (O.out.seg (seg3 wq x1 (.slice v1 E.l.length j1) (.slice v2 E.r.length j2) (.slice v3 E.ps.length j3)) (.inr hlo.out))
          simp only [List.set_cons_zero, List.set_cons_succ] at X
          obtain ⟨wx, hwx⟩ : ∃ q, q = ((wq.setCell ⟨x1, 0, none⟩ (.slice v1 E.l.length j1)).setCell ⟨x1, 1, none⟩ (.slice v2 E.r.length j2)).setCell ⟨x1, 2, none⟩ (.slice v3 E.ps.length j3) := ⟨_, rfl⟩
          rw [← hwx] at X O
          rw [← hwx]
          clear hwx
          obtain ⟨c0, c1', c2', g0, g1, g2, d0, d1, d2, e0, e1, e2⟩ := KS.out _ _ _ _ _ X.out
          obtain ⟨kq0, kq1, kq2, lq0, lq1, lq2, mq0, mq1, mq2, n0', n1', n2'⟩ := KR.out _ _ _ _ _ X.out
          have hne1 : r1 ≠ r2 := by have := HBL.out; omega
          have hne2 : r2 ≠ r1 := by have := HBL.out; omega
          have hne3 : s1 ≠ r1 := by have := HBL.out; omega
          have hne4 : s1 ≠ r2 := by have := HBL.out; omega
          have hne5 : x1 ≠ r1 := by have := HBL.out; omega
          have hne6 : x1 ≠ r2 := by have := HBL.out; omega
          go_region
          have Z := ((X.out.put3c 2 rfl (.slice v1 E.l.length j1) (.slice v2 E.r.length j2) (.slice v3 E.ps.length j3)).put3c 3 rfl (.int .i64 p) (.int .i64 t) (.int .i64 ss)).drew
          have z0 := Z.cell 2 0 rfl rfl
          have z1 := Z.cell 2 1 rfl rfl
          have z2 := Z.cell 2 2 rfl rfl
          have z3 := Z.cell 3 0 rfl rfl
          have z4 := Z.cell 3 1 rfl rfl
          have z5 := Z.cell 3 2 rfl rfl
          have O9 := ((O.out.seg (seg3 _ r1 (.slice v1 E.l.length j1) (.slice v2 E.r.length j2) (.slice v3 E.ps.length j3)) (.inr (by have := hlo.out; have := HBL.out; omega))).seg (seg3 _ r2 (.int .i64 p) (.int .i64 t) (.int .i64 ss)) (.inr (by have := hlo.out; have := HBL.out; omega))).below (Below.refl _ _).drew
          go_wp2_with fail
          exact bodyPost_ret (v := .tuple #[.agg #[.slice v1 E.l.length j1, .slice v2 E.r.length j2, .slice v3 E.ps.length j3], .agg #[.int .i64 p, .int .i64 t, .int .i64 ss], .int .i64 (S9.n : Int)]) (by simp [results, Tryz.results30, go_sem, z0, z1, z2, z3, z4, z5]) rfl
            ⟨_, _, _, lo, hi, n1, h1, n2, h2, n3, h3, by rw [HSE.out.2.2.2], by have := hlo.out; have := HBL.out; omega, O9.top.2, by rw [HSE.out.1, HSE.out.2.1, HSE.out.2.2.1]; exact O9, Z.below⟩
        have hp0' : decide (p ≠ 0) = true := decide_eq_true hp0
        have tp : (p != 0) = true := by simp [hp0]
        clear hp0
        by_cases hlt : t < pb - pa
        · skip
          have hm : T.more p t v = true := by rw [HMORE.out, hp0']; simp only [Bool.true_and]; exact decide_eq_true hlt
          have hw : wrap64 (pb - pa) = pb - pa := IntWalk.wrap64_in _ (by have := hpcl.out; omega)
          have tl : decide (t < pb - pa) = true := decide_eq_true hlt
          have hmb := PS.m_in hT.out hp ht hm
          have hg1 := hide (show 1 ≤ gk by have := hpc.out; omega)
          have hless := hide (HLESS.out hm)
          have hT2 := PS.step_ok hT.out hp ht hm
          have HN := hide (show PS.run p t v (gk - 1) (T.step p t v) = RS by
            have := HRUN.out T (gk - 1) hm
            rw [show gk - 1 + 1 = gk by have := hg1.out; omega] at this
            rw [← this]; exact hrun.out)
          obtain ⟨E1, E2, E3, E4, E5⟩ := PS.each_two T p t v
          have HCE := hide (fun (W : World) (hv' : CU W (.agg #[.slice b1 T.l.length k1, .slice b2 T.r.length k2, .slice b3 T.ps.length k3]) T.l T.r T.ps) (a' : Option Addr) (c' : Nat) (hi' : IU W (.slice a' 2 c') [T.m p t v, T.m p t v + 1]) => show Calls Tryz.prog 86 #[.agg #[.slice b1 T.l.length k1, .slice b2 T.r.length k2, .slice b3 T.ps.length k3], .slice a' 2 c'] W (RetPS W ((⟨T.l, T.r, T.ps, 0, 0⟩ : PS).each [T.m p t v, T.m p t v + 1])) from iEach_any _ T.l T.r T.ps 0 a' c' [T.m p t v, T.m p t v + 1] W hv' hi' (wf_up hT.out.2.1 (by omega)) (by simp) (by simp) (by intro y hy; simp only [List.mem_cons, List.not_mem_nil, or_false] at hy; rcases hy with rfl | rfl <;> exact ⟨by omega, by omega⟩))
          have LI := hide (fun (W : World) => lit_iu W [T.m p t v, T.m p t v + 1] (by intro y hy; simp only [List.mem_cons, List.not_mem_nil, or_false] at hy; rcases hy with rfl | rfl <;> exact ⟨by omega, by omega⟩) (by simp))
          obtain ⟨E, hEE⟩ : ∃ q, q = (⟨T.l, T.r, T.ps, 0, 0⟩ : PS).each [T.m p t v, T.m p t v + 1] := ⟨_, rfl⟩
          rw [← hEE] at HCE E1 E2 E3 E4
          obtain ⟨m, hmm⟩ : ∃ q, q = T.m p t v := ⟨_, rfl⟩
          rw [← hmm] at HCE LI CH hmb
          obtain ⟨s2, hs2⟩ : ∃ q, q = (T.chosen p t v).s := ⟨_, rfl⟩
          rw [← hs2] at CH E5
          obtain ⟨T2, hT2'⟩ : ∃ q, q = T.step p t v := ⟨_, rfl⟩
          rw [← hT2'] at E1 E2 E3 E4 E5 HN hT2 hless
          have hnb : T2.n ≤ 1000000000 := Nat.le_trans hT2.2.2.2.2 (by have := hnn.out; omega)
          have HSE := hide (⟨E1, E2, E3, E5⟩ : T2.l = E.l ∧ T2.r = E.r ∧ T2.ps = E.ps ∧ T2.s = s2)
          have wn : IntKind.i64.wrap ((T.n : Int) + (E.n : Int)) = (T2.n : Int) := by rw [IntWalk.i64_left, IntWalk.wrap64_in _ (by omega)]; omega
          have wn2 : wrap64 ((T.n : Int) + (E.n : Int)) = (T2.n : Int) := by rw [IntWalk.wrap64_in _ (by omega)]; omega
          have wm : IntKind.i64.wrap (m + 1) = m + 1 := by rw [IntWalk.i64_left, IntWalk.wrap64_in _ (by omega)]
          have wm2 : wrap64 (m + 1) = m + 1 := IntWalk.wrap64_in _ (by omega)
          have hpc2 := hide (show (T2.piece v).2 - (T2.piece v).1 ≤ ((gk - 1 : Nat) : Int) by have h1 := hless.out; have h2 := hpc.out; have h3 := hg1.out; omega)
          have hnn2 := hide (show nn + 2097152 + (gk - 1) * 2097152 ≤ 64 * 2097152 by have h2 := hnn.out; have h3 := hg1.out; omega)
          have HOK2 := hide hT2
          have HW2 := hide hT2.2.1
          obtain ⟨ss, hss⟩ : ∃ q, q = T.s := ⟨_, rfl⟩
          rw [← hss] at X CH
          clear hmm hs2 hT2' hEE hss E1 E2 E3 E4 E5 hT2 hnb hm hlt hmb hless hpc hnn hrun HRUN HST HRS HY HMORE HLESS hp0'
          obtain ⟨c0, c1', c2', g0, g1, g2, d0, d1, d2, e0, e1, e2⟩ := KS.out _ _ _ _ _ X.out
          go_wp2_with fail
          clear c0 c1' c2' g0 g1 g2 d0 d1 d2 e0 e1 e2
          go_at_call 85
          refine (CH.out _ V.out.cu).mono ?_
          rintro e w7 ⟨rfl, hb⟩
          have X := hide (X.out.up hb)
          have V := hide (V.out.below hb)
          clear hb CH
          obtain ⟨c0, c1', c2', g0, g1, g2, d0, d1, d2, e0, e1, e2⟩ := KS.out _ _ _ _ _ X.out
          go_upto_region 9 with fail
          clear c0 c1' c2' g0 g1 g2 d0 d1 d2 e0 e1 e2
          have X := hide (X.out.put3c 1 rfl (.int .i64 p) (.int .i64 t) (.int .i64 s2))
          have V := hide (V.out.poke3 (g := s1) (by simp) (.int .i64 p) (.int .i64 t) (.int .i64 s2))
          simp only [List.set_cons_zero, List.set_cons_succ] at X
          obtain ⟨w8, hw8⟩ : ∃ q, q = ((w7.setCell ⟨s1, 0, none⟩ (.int .i64 p)).setCell ⟨s1, 1, none⟩ (.int .i64 t)).setCell ⟨s1, 2, none⟩ (.int .i64 s2) := ⟨_, rfl⟩
          rw [← hw8] at X V
          rw [← hw8]
          clear hw8
          obtain ⟨c0, c1', c2', g0, g1, g2, d0, d1, d2, e0, e1, e2⟩ := KS.out _ _ _ _ _ X.out
          go_wp2_with fail
          clear c0 c1' c2' g0 g1 g2 d0 d1 d2 e0 e1 e2
          go_at_call 86
          have bl := below1 w8 (.cells #[.int .i64 m, .int .i64 (m + 1)] 3)
          have X := hide (X.out.up bl)
          have V := hide (V.out.below bl)
          clear bl
          refine (HCE.out _ V.out.cu _ _ (LI.out _)).mono ?_
          rintro e wq ⟨x', y', z', lo, hi, n1, h1, n2, h2, n3, h3, rfl, q1, q2, O, hb⟩
          rw [← HSE.out.1, ← HSE.out.2.1, ← HSE.out.2.2.1] at O
          obtain ⟨v1, j1, rfl⟩ := O.x.form
          obtain ⟨v2, j2, rfl⟩ := O.y.form
          obtain ⟨v3, j3, rfl⟩ := O.z.own.form
          have hlo := hide (show x1 + 1 ≤ lo from Nat.le_trans (Nat.succ_le_of_lt (X.out.lt 4 rfl)) q1)
          have X := hide (X.out.up hb)
          have V := hide (CG.of_oc (G := [s1, x1]) O (by intro b hb; have := HBL.out; have := hlo.out; simp only [List.mem_cons, List.not_mem_nil, or_false] at hb; rcases hb with rfl | rfl <;> omega) HW2.out (by omega))
          clear hb q1 q2 O HCE LI
          obtain ⟨c0, c1', c2', g0, g1, g2, d0, d1, d2, e0, e1, e2⟩ := KS.out _ _ _ _ _ X.out
          go_upto_region 10 with fail
          clear c0 c1' c2' g0 g1 g2 d0 d1 d2 e0 e1 e2
          have X := hide (X.out.put3c 4 rfl (.slice v1 T2.l.length j1) (.slice v2 T2.r.length j2) (.slice v3 T2.ps.length j3))
          have V := hide (V.out.poke3 (g := x1) (by simp) (.slice v1 T2.l.length j1) (.slice v2 T2.r.length j2) (.slice v3 T2.ps.length j3))
          simp only [List.set_cons_zero, List.set_cons_succ] at X
          obtain ⟨w9, hw9⟩ : ∃ q, q = ((wq.setCell ⟨x1, 0, none⟩ (.slice v1 T2.l.length j1)).setCell ⟨x1, 1, none⟩ (.slice v2 T2.r.length j2)).setCell ⟨x1, 2, none⟩ (.slice v3 T2.ps.length j3) := ⟨_, rfl⟩
          rw [← hw9] at X V
          rw [← hw9]
          clear hw9
          obtain ⟨c0, c1', c2', g0, g1, g2, d0, d1, d2, e0, e1, e2⟩ := KS.out _ _ _ _ _ X.out
          go_wp2_with fail
          clear c0 c1' c2' g0 g1 g2 d0 d1 d2 e0 e1 e2
          go_at_call 84
          refine (CP.out _ _ _ _ T2 V.out.cu).mono ?_
          rintro e wz ⟨rfl, hb⟩
          have X := hide (X.out.up hb)
          have V := hide (V.out.below hb)
          clear hb
          obtain ⟨pa2, hpa2⟩ : ∃ q, q = (T2.piece v).1 := ⟨_, rfl⟩
          obtain ⟨pb2, hpb2⟩ : ∃ q, q = (T2.piece v).2 := ⟨_, rfl⟩
          rw [← hpa2, ← hpb2]
          have HPA2 := hide hpa2
          have HPB2 := hide hpb2
          clear hpa2 hpb2
          go_wp2_with fail
          go_roundg (gk - 1)
          case measure => have := hg1.out; omega
          case rel => exact ⟨_, _, _, T2, nn + 2097152, by first | rfl | rw [wn] | rw [wn2], by rw [HPA2.out], by rw [HPB2.out], HOK2.out, hnn2.out, hpc2.out, HN.out, by rw [HSE.out.2.2.2]; exact X.out, V.out⟩
        · have hm : T.more p t v = false := by rw [HMORE.out, decide_eq_false hlt, Bool.and_false]
          have hw : wrap64 (pb - pa) = pb - pa := IntWalk.wrap64_in _ (by have := hpcl.out; omega)
          have tl : decide (t < pb - pa) = false := decide_eq_false hlt
          clear HMORE HLESS CH hpcl CP hp0' hlt
          have hst := HST.out T gk hm
          have e9 : RS = T := hrun.out.symm.trans hst
          have HY9 := hide (show S9 = T.crack v by rw [HY.out, e9])
          clear hst e9 hm HRS HRUN HST hrun hpc HY
          obtain ⟨E1, E2, E3, E4, E5⟩ := PS.each_one T v
          have hE := PS.crack_ok (x := v) hT.out hvb
          have hvI := hide (show ∀ y ∈ [v], I64 y from fun y hy => by
            have ey : y = v := by simpa using hy
            rw [ey]
            exact ⟨by omega, by omega⟩)
          have HCE := hide (fun (W : World) (hv' : CU W (.agg #[.slice b1 T.l.length k1, .slice b2 T.r.length k2, .slice b3 T.ps.length k3]) T.l T.r T.ps) (a' : Option Addr) (c' : Nat) (hi' : IU W (.slice a' 1 c') [v]) => show Calls Tryz.prog 86 #[.agg #[.slice b1 T.l.length k1, .slice b2 T.r.length k2, .slice b3 T.ps.length k3], .slice a' 1 c'] W (RetPS W ((⟨T.l, T.r, T.ps, 0, 0⟩ : PS).each [v])) from iEach_any _ T.l T.r T.ps 0 a' c' [v] W hv' hi' (wf_up hT.out.2.1 (by omega)) (by simp) (by simp) hvI.out)
          obtain ⟨E, hEE⟩ : ∃ q, q = (⟨T.l, T.r, T.ps, 0, 0⟩ : PS).each [v] := ⟨_, rfl⟩
          rw [← hEE] at HCE E1 E2 E3 E4
          have hnE : (T.crack v).n ≤ 1000000000 := Nat.le_trans hE.2.2.2.2 (by have := hnn.out; omega)
          have hS9 := HY9.out
          rw [← hS9] at E1 E2 E3 E4 E5 hnE
          have hs5 := E5
          have HSE := hide (⟨E1, E2, E3, E5⟩ : S9.l = E.l ∧ S9.r = E.r ∧ S9.ps = E.ps ∧ S9.s = T.s)
          have wn : IntKind.i64.wrap ((T.n : Int) + (E.n : Int)) = (S9.n : Int) := by rw [IntWalk.i64_left, IntWalk.wrap64_in _ (by omega)]; omega
          have wn2 : wrap64 ((T.n : Int) + (E.n : Int)) = (S9.n : Int) := by rw [IntWalk.wrap64_in _ (by omega)]; omega
          obtain ⟨ss, hss⟩ : ∃ q, q = T.s := ⟨_, rfl⟩
          rw [← hss] at X HSE
          clear hEE hS9 HY9 E1 E2 E3 E4 E5 hs5 hE hnE hss hnn
          obtain ⟨c0, c1', c2', g0, g1, g2, d0, d1, d2, e0, e1, e2⟩ := KS.out _ _ _ _ _ X.out
          have LI := hide (fun (W : World) => lit_iu W [v] hvI.out (by simp))
          go_wp2_with fail
          clear c0 c1' c2' g0 g1 g2 d0 d1 d2 e0 e1 e2
          go_at_call 86
          have bl := below1 wr (.cells #[.int .i64 v] 3)
          have X := hide (X.out.up bl)
          have V := hide (V.out.below bl)
          clear bl
          refine (HCE.out _ V.out.cu _ _ (LI.out _)).mono ?_
          rintro e wq ⟨x', y', z', lo, hi, n1, h1, n2, h2, n3, h3, rfl, q1, q2, O, hb⟩
          obtain ⟨v1, j1, rfl⟩ := O.x.form
          obtain ⟨v2, j2, rfl⟩ := O.y.form
          obtain ⟨v3, j3, rfl⟩ := O.z.own.form
          have hlo := hide (show x1 + 1 ≤ lo from Nat.le_trans (Nat.succ_le_of_lt (X.out.lt 4 rfl)) q1)
          have X := hide (X.out.up hb)
          have O := hide O
          clear hb q1 q2 V HCE LI
          obtain ⟨c0, c1', c2', g0, g1, g2, d0, d1, d2, e0, e1, e2⟩ := KS.out _ _ _ _ _ X.out
          go_upto_region 13 with fail
          clear c0 c1' c2' g0 g1 g2 d0 d1 d2 e0 e1 e2
          have X := hide (X.out.put3c 4 rfl (.slice v1 E.l.length j1) (.slice v2 E.r.length j2) (.slice v3 E.ps.length j3))
          have O := hide (O.out.seg (seg3 wq x1 (.slice v1 E.l.length j1) (.slice v2 E.r.length j2) (.slice v3 E.ps.length j3)) (.inr hlo.out))
          simp only [List.set_cons_zero, List.set_cons_succ] at X
          obtain ⟨wx, hwx⟩ : ∃ q, q = ((wq.setCell ⟨x1, 0, none⟩ (.slice v1 E.l.length j1)).setCell ⟨x1, 1, none⟩ (.slice v2 E.r.length j2)).setCell ⟨x1, 2, none⟩ (.slice v3 E.ps.length j3) := ⟨_, rfl⟩
          rw [← hwx] at X O
          rw [← hwx]
          clear hwx
          obtain ⟨c0, c1', c2', g0, g1, g2, d0, d1, d2, e0, e1, e2⟩ := KS.out _ _ _ _ _ X.out
          obtain ⟨kq0, kq1, kq2, lq0, lq1, lq2, mq0, mq1, mq2, n0', n1', n2'⟩ := KR.out _ _ _ _ _ X.out
          have hne1 : r1 ≠ r2 := by have := HBL.out; omega
          have hne2 : r2 ≠ r1 := by have := HBL.out; omega
          have hne3 : s1 ≠ r1 := by have := HBL.out; omega
          have hne4 : s1 ≠ r2 := by have := HBL.out; omega
          have hne5 : x1 ≠ r1 := by have := HBL.out; omega
          have hne6 : x1 ≠ r2 := by have := HBL.out; omega
          go_region
          have Z := ((X.out.put3c 2 rfl (.slice v1 E.l.length j1) (.slice v2 E.r.length j2) (.slice v3 E.ps.length j3)).put3c 3 rfl (.int .i64 p) (.int .i64 t) (.int .i64 ss)).drew
          have z0 := Z.cell 2 0 rfl rfl
          have z1 := Z.cell 2 1 rfl rfl
          have z2 := Z.cell 2 2 rfl rfl
          have z3 := Z.cell 3 0 rfl rfl
          have z4 := Z.cell 3 1 rfl rfl
          have z5 := Z.cell 3 2 rfl rfl
          have O9 := ((O.out.seg (seg3 _ r1 (.slice v1 E.l.length j1) (.slice v2 E.r.length j2) (.slice v3 E.ps.length j3)) (.inr (by have := hlo.out; have := HBL.out; omega))).seg (seg3 _ r2 (.int .i64 p) (.int .i64 t) (.int .i64 ss)) (.inr (by have := hlo.out; have := HBL.out; omega))).below (Below.refl _ _).drew
          go_wp2_with fail
          exact bodyPost_ret (v := .tuple #[.agg #[.slice v1 E.l.length j1, .slice v2 E.r.length j2, .slice v3 E.ps.length j3], .agg #[.int .i64 p, .int .i64 t, .int .i64 ss], .int .i64 (S9.n : Int)]) (by simp [results, Tryz.results30, go_sem, z0, z1, z2, z3, z4, z5]) rfl
            ⟨_, _, _, lo, hi, n1, h1, n2, h2, n3, h3, by rw [HSE.out.2.2.2], by have := hlo.out; have := HBL.out; omega, O9.top.2, by rw [HSE.out.1, HSE.out.2.1, HSE.out.2.2.1]; exact O9, Z.below⟩

end Go.Proofs.YtajfhalalnlejaaGreat

/- Slices of charges (five numbers each): read only (Cgs), owned by the call (Lg); the laws' toCharge.., eqCharge.., szChargeS (promise 6). Written by gen_cg.py. -/
namespace Go.Proofs.YtajfhalalnlejaaGreat
open Go.RowKit Go.ChangeShapes
set_option linter.unusedSimpArgs false
set_option linter.unusedVariables false
set_option maxRecDepth 100000

/-- A charge: the query, the value, the piece, the number of swaps. -/
@[ext] structure Chg where
  q : Int
  v : Int
  a : Int
  b : Int
  n : Int

instance : Inhabited Chg := ⟨⟨0, 0, 0, 0, 0⟩⟩

/-- All its numbers are ints of Go. -/
def Chg.Ok (c : Chg) : Prop := I64 c.q ∧ I64 c.v ∧ I64 c.a ∧ I64 c.b ∧ I64 c.n

theorem infoChg : (Tryz.prog.info? 129).map (fun i => (i.zero, i.size, i.bytes)) = some (some (.agg #[.int .i64 0, .int .i64 0, .int .i64 0, .int .i64 0, .int .i64 0]), 5, 40) := by kernel_rfl

/-- The cells of charges. -/
def cgVs : List Chg → List Value
  | [] => []
  | c :: cs => .int .i64 c.q :: .int .i64 c.v :: .int .i64 c.a :: .int .i64 c.b :: .int .i64 c.n :: cgVs cs

theorem cgVs_length : ∀ cs : List Chg, (cgVs cs).length = cs.length * 5
  | [] => rfl
  | c :: cs => by simp [cgVs, cgVs_length cs]; omega

theorem cgVs_append : ∀ a b : List Chg, cgVs (a ++ b) = cgVs a ++ cgVs b
  | [], b => rfl
  | c :: cs, b => by simp [cgVs, cgVs_append cs b]

theorem cgVs_get0 : ∀ (cs : List Chg) (j : Nat) (h : j < cs.length), (cgVs cs)[j * 5]? = some (.int .i64 cs[j].q)
  | c :: cs, 0, _ => by simp [cgVs]
  | c :: cs, j + 1, h => by
    have := cgVs_get0 cs j (by simpa using h)
    rw [show (j + 1) * 5 = j * 5 + 1 + 1 + 1 + 1 + 1 by omega]
    simpa [cgVs] using this

theorem cgVs_get1 : ∀ (cs : List Chg) (j : Nat) (h : j < cs.length), (cgVs cs)[j * 5 + 1]? = some (.int .i64 cs[j].v)
  | c :: cs, 0, _ => by simp [cgVs]
  | c :: cs, j + 1, h => by
    have := cgVs_get1 cs j (by simpa using h)
    rw [show (j + 1) * 5 + 1 = j * 5 + 1 + 1 + 1 + 1 + 1 + 1 by omega]
    simpa [cgVs] using this

theorem cgVs_get2 : ∀ (cs : List Chg) (j : Nat) (h : j < cs.length), (cgVs cs)[j * 5 + 2]? = some (.int .i64 cs[j].a)
  | c :: cs, 0, _ => by simp [cgVs]
  | c :: cs, j + 1, h => by
    have := cgVs_get2 cs j (by simpa using h)
    rw [show (j + 1) * 5 + 2 = j * 5 + 2 + 1 + 1 + 1 + 1 + 1 by omega]
    simpa [cgVs] using this

theorem cgVs_get3 : ∀ (cs : List Chg) (j : Nat) (h : j < cs.length), (cgVs cs)[j * 5 + 3]? = some (.int .i64 cs[j].b)
  | c :: cs, 0, _ => by simp [cgVs]
  | c :: cs, j + 1, h => by
    have := cgVs_get3 cs j (by simpa using h)
    rw [show (j + 1) * 5 + 3 = j * 5 + 3 + 1 + 1 + 1 + 1 + 1 by omega]
    simpa [cgVs] using this

theorem cgVs_get4 : ∀ (cs : List Chg) (j : Nat) (h : j < cs.length), (cgVs cs)[j * 5 + 4]? = some (.int .i64 cs[j].n)
  | c :: cs, 0, _ => by simp [cgVs]
  | c :: cs, j + 1, h => by
    have := cgVs_get4 cs j (by simpa using h)
    rw [show (j + 1) * 5 + 4 = j * 5 + 4 + 1 + 1 + 1 + 1 + 1 by omega]
    simpa [cgVs] using this

theorem cgVs_set0 : ∀ (cs : List Chg) (j : Nat) (x : Int) (h : j < cs.length), (cgVs cs).set (j * 5) (.int .i64 x) = cgVs (cs.set j { cs[j] with q := x })
  | c :: cs, 0, x, _ => by simp [cgVs]
  | c :: cs, j + 1, x, h => by
    have := cgVs_set0 cs j x (by simpa using h)
    rw [show (j + 1) * 5 = j * 5 + 1 + 1 + 1 + 1 + 1 by omega]
    simpa [cgVs] using this

theorem cgVs_set1 : ∀ (cs : List Chg) (j : Nat) (x : Int) (h : j < cs.length), (cgVs cs).set (j * 5 + 1) (.int .i64 x) = cgVs (cs.set j { cs[j] with v := x })
  | c :: cs, 0, x, _ => by simp [cgVs]
  | c :: cs, j + 1, x, h => by
    have := cgVs_set1 cs j x (by simpa using h)
    rw [show (j + 1) * 5 + 1 = j * 5 + 1 + 1 + 1 + 1 + 1 + 1 by omega]
    simpa [cgVs] using this

theorem cgVs_set2 : ∀ (cs : List Chg) (j : Nat) (x : Int) (h : j < cs.length), (cgVs cs).set (j * 5 + 2) (.int .i64 x) = cgVs (cs.set j { cs[j] with a := x })
  | c :: cs, 0, x, _ => by simp [cgVs]
  | c :: cs, j + 1, x, h => by
    have := cgVs_set2 cs j x (by simpa using h)
    rw [show (j + 1) * 5 + 2 = j * 5 + 2 + 1 + 1 + 1 + 1 + 1 by omega]
    simpa [cgVs] using this

theorem cgVs_set3 : ∀ (cs : List Chg) (j : Nat) (x : Int) (h : j < cs.length), (cgVs cs).set (j * 5 + 3) (.int .i64 x) = cgVs (cs.set j { cs[j] with b := x })
  | c :: cs, 0, x, _ => by simp [cgVs]
  | c :: cs, j + 1, x, h => by
    have := cgVs_set3 cs j x (by simpa using h)
    rw [show (j + 1) * 5 + 3 = j * 5 + 3 + 1 + 1 + 1 + 1 + 1 by omega]
    simpa [cgVs] using this

theorem cgVs_set4 : ∀ (cs : List Chg) (j : Nat) (x : Int) (h : j < cs.length), (cgVs cs).set (j * 5 + 4) (.int .i64 x) = cgVs (cs.set j { cs[j] with n := x })
  | c :: cs, 0, x, _ => by simp [cgVs]
  | c :: cs, j + 1, x, h => by
    have := cgVs_set4 cs j x (by simpa using h)
    rw [show (j + 1) * 5 + 4 = j * 5 + 4 + 1 + 1 + 1 + 1 + 1 by omega]
    simpa [cgVs] using this

/-- v owns the charges cs in a block of the call's own. -/
def Lg (w : World) (base : Nat) (v : Value) (cs : List Chg) : Prop := w.ownsRow base 129 5 v cs.length (cgVs cs)

theorem Lg.keep {w w' : World} {base : Nat} {v : Value} {cs : List Chg} (h : Lg w base v cs) (hk : ∀ g, v.ownBlock = some g → w'.heap[g]? = w.heap[g]?) : Lg w' base v cs := owns_eq h hk

theorem Lg.below {w w' : World} {base : Nat} {v : Value} {cs : List Chg} (h : Lg w base v cs) (hb : Below w.heap.size w w') : Lg w' base v cs :=
  owns_eq h fun g hg => hb.block g (World.ownsRow.lt h g hg).2

theorem Lg.lt {w : World} {base : Nat} {v : Value} {cs : List Chg} (h : Lg w base v cs) {g : Nat} (hg : v.ownBlock = some g) : base ≤ g ∧ g < w.heap.size := World.ownsRow.lt h g hg

theorem Lg.form {w : World} {base : Nat} {v : Value} {cs : List Chg} (h : Lg w base v cs) : ∃ a cap, v = .slice a cs.length cap := by
  rcases h.2 with ⟨hv, hn⟩ | ⟨g, cap, cur, hv, _⟩
  · exact ⟨none, 0, by rw [hv, hn]⟩
  · exact ⟨_, _, hv⟩

theorem Lg.at' {w : World} {base n cap : Nat} {a : Option Addr} {cs : List Chg} (h : Lg w base (.slice a n cap) cs) (hn : 0 < cs.length) : ∃ g, a = some ⟨g, 0, none⟩ := by
  rcases h.2 with ⟨hv, hn'⟩ | ⟨g, cap, cur, hv, _⟩
  · omega
  · injection hv with h1
    exact ⟨g, h1⟩

theorem Lg.lower {w : World} {base B : Nat} {v : Value} {cs : List Chg} (h : Lg w base v cs) (hb : B ≤ base) : Lg w B v cs := by
  refine ⟨h.1, ?_⟩
  rcases h.2 with h2 | ⟨g, cap, cur, hv, hg, r⟩
  · exact .inl h2
  · exact .inr ⟨g, cap, cur, hv, Nat.le_trans hb hg, r⟩

theorem Lg.cell {w : World} {base : Nat} {g n cap : Nat} {cs : List Chg} (h : Lg w base (.slice (some ⟨g, 0, none⟩) n cap) cs) (j : Nat) (hj : j < cs.length) :
    w.cell? ⟨g, j * 5, none⟩ = some (.int .i64 cs[j].q) ∧ w.cell? ⟨g, j * 5 + 1, none⟩ = some (.int .i64 cs[j].v) ∧ w.cell? ⟨g, j * 5 + 2, none⟩ = some (.int .i64 cs[j].a) ∧ w.cell? ⟨g, j * 5 + 3, none⟩ = some (.int .i64 cs[j].b) ∧ w.cell? ⟨g, j * 5 + 4, none⟩ = some (.int .i64 cs[j].n) := by
  rcases h.2 with ⟨h', _⟩ | ⟨g', cap', cur, h', hb, hg, _, _, _, htake⟩
  · simp at h'
  · have h'' := h'
    simp only [Value.slice.injEq, Option.some.injEq, Addr.mk.injEq, and_true, true_and] at h''
    obtain ⟨rfl, rfl, rfl⟩ := h''
    have h3 : w.ownsRow base 129 5 (.slice (some ⟨g, 0, none⟩) cs.length cap) cs.length (cgVs cs) := h
    refine ⟨?_, ?_, ?_, ?_, ?_⟩
    · rw [World.ownsRow.cellAt h3 (j * 5) (by omega)]; exact cgVs_get0 cs j hj
    · rw [World.ownsRow.cellAt h3 (j * 5 + 1) (by omega)]; exact cgVs_get1 cs j hj
    · rw [World.ownsRow.cellAt h3 (j * 5 + 2) (by omega)]; exact cgVs_get2 cs j hj
    · rw [World.ownsRow.cellAt h3 (j * 5 + 3) (by omega)]; exact cgVs_get3 cs j hj
    · rw [World.ownsRow.cellAt h3 (j * 5 + 4) (by omega)]; exact cgVs_get4 cs j hj

theorem Lg.free {w : World} {base : Nat} {g n cap : Nat} {cs : List Chg} (h : Lg w base (.slice (some ⟨g, 0, none⟩) n cap) cs) (j : Nat) : w.frozen? ⟨g, j, none⟩ = false ∧ base ≤ g ∧ g < w.heap.size := by
  have hlt := World.ownsRow.lt h g (by simp [Value.ownBlock])
  obtain ⟨a, c, hv⟩ := h.form
  simp only [Value.slice.injEq] at hv
  obtain ⟨-, rfl, -⟩ := hv
  have h3 : w.ownsRow base 129 5 (.slice (some ⟨g, 0, none⟩) cs.length cap) cs.length (cgVs cs) := h
  exact ⟨World.ownsRow.frozenAt h3 _, hlt.1, hlt.2⟩

theorem Lg.made (w : World) (base : Nat) (hb : base ≤ w.heap.size) : Lg (w.alloc (.cells #[] 129)) base (.slice (some ⟨w.heap.size, 0, none⟩) 0 0) [] :=
  World.ownsRow_made w #[] 0 hb (by unfold maxLen; omega) rfl

/-- A charge is put. -/
theorem Lg.put {w : World} {base : Nat} {g n cap : Nat} {cs : List Chg} (h : Lg w base (.slice (some ⟨g, 0, none⟩) n cap) cs) (j : Nat) (c : Chg) (hj : j < cs.length) :
    Lg (((((w.setCell ⟨g, j * 5, none⟩ (.int .i64 c.q)).setCell ⟨g, j * 5 + 1, none⟩ (.int .i64 c.v)).setCell ⟨g, j * 5 + 2, none⟩ (.int .i64 c.a)).setCell ⟨g, j * 5 + 3, none⟩ (.int .i64 c.b)).setCell ⟨g, j * 5 + 4, none⟩ (.int .i64 c.n)) base (.slice (some ⟨g, 0, none⟩) n cap) (cs.set j c) := by
  obtain rfl : n = cs.length := by
    obtain ⟨a, c, hv⟩ := h.form
    simp only [Value.slice.injEq] at hv
    exact hv.2.1
  have s0 : w.ownsRow base 129 5 (.slice (some ⟨g, 0, none⟩) cs.length cap) cs.length (cgVs cs) := h
  have s1 := (World.ownsRow.stored s0 (j * 5) (.int .i64 c.q)).1
  have s2 := (World.ownsRow.stored s1 (j * 5 + 1) (.int .i64 c.v)).1
  have s3 := (World.ownsRow.stored s2 (j * 5 + 2) (.int .i64 c.a)).1
  have s4 := (World.ownsRow.stored s3 (j * 5 + 3) (.int .i64 c.b)).1
  have s5 := (World.ownsRow.stored s4 (j * 5 + 4) (.int .i64 c.n)).1
  rw [cgVs_set0 cs j c.q hj, cgVs_set1 _ j c.v (by simpa using hj), cgVs_set2 _ j c.a (by simpa using hj), cgVs_set3 _ j c.b (by simpa using hj), cgVs_set4 _ j c.n (by simpa using hj)] at s5
  simp only [List.getElem_set_self, List.set_set] at s5
  unfold Lg
  rw [List.length_set]
  exact s5

/-- v is a slice of charges that reads as cs; its cells lie below block B. -/
def Cgs (w : World) (B : Nat) (v : Value) (cs : List Chg) : Prop :=
  ∃ a cap, v = .slice a cs.length cap ∧ cs.length ≤ 9223372036854775807 ∧ (∀ c ∈ cs, c.Ok) ∧ ∀ j (h : j < cs.length), ∃ b o, a = some ⟨b, o, none⟩ ∧ b < B ∧ w.cell? ⟨b, o + j * 5, none⟩ = some (.int .i64 cs[j].q) ∧ w.cell? ⟨b, o + j * 5 + 1, none⟩ = some (.int .i64 cs[j].v) ∧ w.cell? ⟨b, o + j * 5 + 2, none⟩ = some (.int .i64 cs[j].a) ∧ w.cell? ⟨b, o + j * 5 + 3, none⟩ = some (.int .i64 cs[j].b) ∧ w.cell? ⟨b, o + j * 5 + 4, none⟩ = some (.int .i64 cs[j].n)

theorem Cgs.form {w : World} {B : Nat} {v : Value} {cs : List Chg} (h : Cgs w B v cs) : ∃ a cap, v = .slice a cs.length cap := by
  obtain ⟨a, cap, e, _⟩ := h
  exact ⟨a, cap, e⟩

theorem Cgs.ok {w : World} {B : Nat} {v : Value} {cs : List Chg} (h : Cgs w B v cs) : ∀ c ∈ cs, c.Ok := by
  obtain ⟨a, cap, _, _, h1, _⟩ := h
  exact h1

theorem Cgs.at' {w : World} {B n cap : Nat} {a : Option Addr} {cs : List Chg} (h : Cgs w B (.slice a n cap) cs) (j : Nat) (hj : j < cs.length) : ∃ b o, a = some ⟨b, o, none⟩ ∧ b < B ∧ w.cell? ⟨b, o + j * 5, none⟩ = some (.int .i64 cs[j].q) ∧ w.cell? ⟨b, o + j * 5 + 1, none⟩ = some (.int .i64 cs[j].v) ∧ w.cell? ⟨b, o + j * 5 + 2, none⟩ = some (.int .i64 cs[j].a) ∧ w.cell? ⟨b, o + j * 5 + 3, none⟩ = some (.int .i64 cs[j].b) ∧ w.cell? ⟨b, o + j * 5 + 4, none⟩ = some (.int .i64 cs[j].n) := by
  obtain ⟨a', cap', e, _, _, h3⟩ := h
  simp only [Value.slice.injEq] at e
  obtain ⟨rfl, -, -⟩ := e
  exact h3 j hj

theorem Cgs.below {w w' : World} {B C : Nat} {v : Value} {cs : List Chg} (h : Cgs w B v cs) (hb : Below C w w') (hC : B ≤ C) : Cgs w' B v cs := by
  obtain ⟨a, cap, e, h1, h2, h3⟩ := h
  refine ⟨a, cap, e, h1, h2, fun j hj => ?_⟩
  obtain ⟨b, o, e2, hB, c0, c1, c2, c3, c4⟩ := h3 j hj
  have K : ∀ i, w'.cell? ⟨b, i, none⟩ = w.cell? ⟨b, i, none⟩ := fun i => hb.cell (p := ⟨b, i, none⟩) (Nat.lt_of_lt_of_le hB hC)
  exact ⟨b, o, e2, hB, (K _).trans c0, (K _).trans c1, (K _).trans c2, (K _).trans c3, (K _).trans c4⟩

theorem Cgs.mono {w : World} {B C : Nat} {v : Value} {cs : List Chg} (h : Cgs w B v cs) (hC : B ≤ C) : Cgs w C v cs := by
  obtain ⟨a, cap, e, h1, h2, h3⟩ := h
  refine ⟨a, cap, e, h1, h2, fun j hj => ?_⟩
  obtain ⟨b, o, e2, hB, hc⟩ := h3 j hj
  exact ⟨b, o, e2, Nat.lt_of_lt_of_le hB hC, hc⟩

theorem Cgs.up {w w' : World} {v : Value} {cs : List Chg} (h : Cgs w w.heap.size v cs) (hb : Below w.heap.size w w') : Cgs w' w'.heap.size v cs := (h.below hb (Nat.le_refl _)).mono hb.size

theorem Lg.cgs {w : World} {base B : Nat} {v : Value} {cs : List Chg} (h : Lg w base v cs) (hB : w.heap.size ≤ B) (hl : cs.length ≤ 9223372036854775807) (hw : ∀ c ∈ cs, c.Ok) : Cgs w B v cs := by
  rcases h.2 with ⟨hv, hn⟩ | ⟨g, cap, cur, hv, _⟩
  · have : cs = [] := List.eq_nil_of_length_eq_zero hn
    subst this; subst hv
    exact ⟨_, _, rfl, by simp, hw, fun j hj => by simp at hj⟩
  · subst hv
    refine ⟨_, _, rfl, hl, hw, fun j hj => ?_⟩
    obtain ⟨c0, c1, c2, c3, c4⟩ := Lg.cell h j hj
    exact ⟨g, 0, rfl, Nat.lt_of_lt_of_le (Lg.free h 0).2.2 hB, by rw [Nat.zero_add]; exact c0, by rw [Nat.zero_add]; exact c1, by rw [Nat.zero_add]; exact c2, by rw [Nat.zero_add]; exact c3, by rw [Nat.zero_add]; exact c4⟩

/-- A charge is returned; nothing that was there has turned. -/
def RetCg1 (w : World) (c : Chg) (e : Ending) (w' : World) : Prop := e = .returned (.agg #[.int .i64 c.q, .int .i64 c.v, .int .i64 c.a, .int .i64 c.b, .int .i64 c.n]) ∧ Below w.heap.size w w'

theorem eqCharge_same (c : Chg) (w : World) : Calls Tryz.prog 103 #[.agg #[.int .i64 c.q, .int .i64 c.v, .int .i64 c.a, .int .i64 c.b, .int .i64 c.n], .agg #[.int .i64 c.q, .int .i64 c.v, .int .i64 c.a, .int .i64 c.b, .int .i64 c.n]] w (RetB1 w true) := by
  obtain ⟨x0, x1, x2, x3, x4⟩ := c
  simp only
  have h0 : (x0 != x0) = false := by simp
  have h1 : (x1 != x1) = false := by simp
  have h2 : (x2 != x2) = false := by simp
  have h3 : (x3 != x3) = false := by simp
  have h4 : (x4 != x4) = false := by simp
  go_enter Tryz.func103, Tryz.ntmps103
  go_wp2
  go_ret
  exact ⟨rfl, below2 _ _ _⟩

/-- New charges of the call's own are returned; nothing that was there has turned. -/
def RetCgs (w : World) (cs : List Chg) (e : Ending) (w' : World) : Prop := ∃ v, e = .returned v ∧ Lg w' w.heap.size v cs ∧ Below w.heap.size w w'

theorem take_setC (l m : List Chg) (k : Nat) (hk : k < l.length) (hm : m = l.take k ++ List.replicate (l.length - k) ⟨0, 0, 0, 0, 0⟩) : m.set k l[k] = l.take (k + 1) ++ List.replicate (l.length - (k + 1)) ⟨0, 0, 0, 0, 0⟩ := by
  subst hm
  rw [List.set_append_right _ _ (by simp; omega)]
  have e : (List.replicate (l.length - k) (⟨0, 0, 0, 0, 0⟩ : Chg)).set (k - (l.take k).length) l[k] = l[k] :: List.replicate (l.length - (k + 1)) ⟨0, 0, 0, 0, 0⟩ := by
    rw [show k - (l.take k).length = 0 by simp; omega, show l.length - k = (l.length - (k + 1)) + 1 by omega, List.replicate_succ]
    rfl
  rw [e, List.take_succ_eq_append_getElem hk, List.append_assoc, List.singleton_append]

theorem cgVs_zeros : ∀ n : Nat, cgVs (List.replicate n ⟨0, 0, 0, 0, 0⟩) = List.replicate (n * 5) (.int .i64 0)
  | 0 => rfl
  | n + 1 => by
    rw [List.replicate_succ, cgVs, cgVs_zeros n, show (n + 1) * 5 = n * 5 + 1 + 1 + 1 + 1 + 1 by omega]
    simp only [List.replicate_succ]

/-- make([]Charge, n). -/
theorem lg_make (W : World) {ops : Array Oper} {rest : List Oper} {o : Oper} {a : Act} {Q : Exit → Act → World → Prop} (hgd : o.guard = none) (x y : Operand)
    (ho : o.op = Go.Op.makeSlice 73 x y) (base : Nat)
    (n : Nat) (L C : Int) (hx : a.eval x = .int .i64 L) (hy : a.eval y = .int .i64 C) (hL : L = (n : Int)) (hC : C = (n : Int)) (hn : n ≤ 1099511627776) (hbase : base ≤ W.heap.size)
    (h : ∀ w', Lg w' base (.slice (some ⟨W.heap.size, 0, none⟩) n n) (List.replicate n ⟨0, 0, 0, 0, 0⟩) → Below base W w' → W.heap.size < w'.heap.size → wpList Tryz.prog ops Q rest (a.put o.dst (.slice (some ⟨W.heap.size, 0, none⟩) n n)) w') :
    wpList Tryz.prog ops Q (o :: rest) a W := by
  obtain ⟨i0, hi, hz0, hz1, hz2⟩ := info_parts infoChg
  refine wpList_make_full W hgd x y 73 ho base 129 i0 _ 5 Tryz.underlying73 hi hz0 hz1 .i64 .i64 L C n hx hy hL hC (by rw [hz2]; omega) (by unfold maxLen; omega) hbase ?_
  intro w' hown hgrow
  refine h w' ?_ ((Below.refl base W).grown hgrow hbase (fun k hk => by cases hk)) ?_
  · unfold Lg
    have e1 : (madeCells (Value.agg #[.int .i64 0, .int .i64 0, .int .i64 0, .int .i64 0, .int .i64 0]).cells (n * 5)).toList = cgVs (List.replicate n ⟨0, 0, 0, 0, 0⟩) := by
      rw [cgVs_zeros]
      simp [madeCells, Value.cells]
      rw [List.eq_replicate_iff]
      refine ⟨by simp, fun b hb => ?_⟩
      simp at hb
      obtain ⟨i, hi, rfl⟩ := hb
      have : i % 5 = 0 ∨ i % 5 = 1 ∨ i % 5 = 2 ∨ i % 5 = 3 ∨ i % 5 = 4 := by omega
      rcases this with h | h | h | h | h <;> simp [h]
    rw [← e1, List.length_replicate]
    exact hown
  · exact (World.ownsRow.lt hown W.heap.size (by simp [Value.ownBlock])).2

/-- Charges of two slices that read alike. -/
theorem eqChargeS_same (v u : Value) (cs : List Chg) (w : World) (B : Nat) (hv : Cgs w B v cs) (hu : Cgs w B u cs) (hB : B ≤ w.heap.size) :
    Calls Tryz.prog 50 #[v, u] w (RetB1 w true) := by
  obtain ⟨a, cap, rfl, hlen, -, hcell⟩ := hv
  obtain ⟨c, cap2, rfl, -, -, hcell2⟩ := hu
  have HC := hide hcell
  have HC2 := hide hcell2
  clear hcell hcell2
  have hd : ((cs.length : Int) != (cs.length : Int)) = false := by simp
  go_enter Tryz.func50, Tryz.ntmps50
  go_wp2
  go_loopw [5] (fun i wr => ∃ (k : Nat), k ≤ cs.length ∧ i = .int .i64 k ∧ Below w.heap.size w wr) (fun i _ => cs.length - (intOf i).toNat)
  case atStart => exact ⟨0, by omega, rfl, Below.refl _ _⟩
  case round =>
    obtain ⟨k, hk, rfl, hb⟩ := hrel
    by_cases hlt : k < cs.length
    · obtain ⟨b, o, rfl, hbB, hc0, hc1, hc2, hc3, hc4⟩ := HC.out k hlt
      obtain ⟨b2, o2, rfl, hbB2, hd0, hd1, hd2, hd3, hd4⟩ := HC2.out k hlt
      obtain ⟨p, hp⟩ : ∃ p, p = cs[k] := ⟨_, rfl⟩
      rw [← hp] at hc0 hc1 hc2 hc3 hc4 hd0 hd1 hd2 hd3 hd4
      obtain ⟨x0, x1, x2, x3, x4⟩ := p
      simp only at hc0 hc1 hc2 hc3 hc4 hd0 hd1 hd2 hd3 hd4
      have d0 : wr.cell? ⟨b, o + k * 5, none⟩ = some (.int .i64 x0) := by rw [hb.cell (p := ⟨b, o + k * 5, none⟩) (Nat.lt_of_lt_of_le hbB hB)]; exact hc0
      have d1 : wr.cell? ⟨b, o + k * 5 + 1, none⟩ = some (.int .i64 x1) := by rw [hb.cell (p := ⟨b, o + k * 5 + 1, none⟩) (Nat.lt_of_lt_of_le hbB hB)]; exact hc1
      have d2 : wr.cell? ⟨b, o + k * 5 + 2, none⟩ = some (.int .i64 x2) := by rw [hb.cell (p := ⟨b, o + k * 5 + 2, none⟩) (Nat.lt_of_lt_of_le hbB hB)]; exact hc2
      have d3 : wr.cell? ⟨b, o + k * 5 + 3, none⟩ = some (.int .i64 x3) := by rw [hb.cell (p := ⟨b, o + k * 5 + 3, none⟩) (Nat.lt_of_lt_of_le hbB hB)]; exact hc3
      have d4 : wr.cell? ⟨b, o + k * 5 + 4, none⟩ = some (.int .i64 x4) := by rw [hb.cell (p := ⟨b, o + k * 5 + 4, none⟩) (Nat.lt_of_lt_of_le hbB hB)]; exact hc4
      have e0 : wr.cell? ⟨b2, o2 + k * 5, none⟩ = some (.int .i64 x0) := by rw [hb.cell (p := ⟨b2, o2 + k * 5, none⟩) (Nat.lt_of_lt_of_le hbB2 hB)]; exact hd0
      have e1 : wr.cell? ⟨b2, o2 + k * 5 + 1, none⟩ = some (.int .i64 x1) := by rw [hb.cell (p := ⟨b2, o2 + k * 5 + 1, none⟩) (Nat.lt_of_lt_of_le hbB2 hB)]; exact hd1
      have e2 : wr.cell? ⟨b2, o2 + k * 5 + 2, none⟩ = some (.int .i64 x2) := by rw [hb.cell (p := ⟨b2, o2 + k * 5 + 2, none⟩) (Nat.lt_of_lt_of_le hbB2 hB)]; exact hd2
      have e3 : wr.cell? ⟨b2, o2 + k * 5 + 3, none⟩ = some (.int .i64 x3) := by rw [hb.cell (p := ⟨b2, o2 + k * 5 + 3, none⟩) (Nat.lt_of_lt_of_le hbB2 hB)]; exact hd3
      have e4 : wr.cell? ⟨b2, o2 + k * 5 + 4, none⟩ = some (.int .i64 x4) := by rw [hb.cell (p := ⟨b2, o2 + k * 5 + 4, none⟩) (Nat.lt_of_lt_of_le hbB2 hB)]; exact hd4
      have HBB := hide hb
      clear hc0 hc1 hc2 hc3 hc4 hd0 hd1 hd2 hd3 hd4 hp hb
      go_wp2_with fail
      go_region_with (go_at_call 103; refine (eqCharge_same ⟨x0, x1, x2, x3, x4⟩ _).mono ?_; rintro e wa ⟨rfl, hba⟩)
      all_goals go_wp2_with fail
      all_goals go_roundw
      all_goals first
        | exact ⟨k + 1, by omega, by go_num, (HBB.out.drew).trans (hba.mono HBB.out.drew.size)⟩
        | (simp [intOf]; omega)
    · have hke : k = cs.length := by omega
      subst hke
      go_wp2
      go_ret
      exact ⟨rfl, hb⟩

end Go.Proofs.YtajfhalalnlejaaGreat

/- The ledger: rows of charges (five numbers each) that the call owns (Lg), append onto them (promises 4, 6). Begun by gen_lg.py; charges themselves in XCg. -/
namespace Go.Proofs.YtajfhalalnlejaaGreat
open Go.RowKit Go.ChangeShapes
set_option linter.unusedSimpArgs false
set_option linter.unusedVariables false
set_option maxRecDepth 100000

/-- append(s, d): d lies in a block of its own. -/
theorem lg_append_wp (W : World) {o : Oper} {a : Act} {K : Act → World → Prop} {Q : Exit → Act → World → Prop} (s x : Operand)
    (ho : o.op = .call { callee := .builtin .append, args := #[s, x], argTypes := #[73, 73] })
    (base : Nat) (v : Value) (cs : List Chg) (hown : Lg W base v cs) (hs : a.eval s = v) (d : Chg) (c g : Nat)
    (hx : a.eval x = .slice (some ⟨g, 0, none⟩) 1 c) (hg : W.heap[g]? = some (.cells #[.int .i64 d.q, .int .i64 d.v, .int .i64 d.a, .int .i64 d.b, .int .i64 d.n] 129 (0, 0))) (hlen : cs.length < 1099511627776) (hbase : base ≤ W.heap.size)
    (h : ∀ v' w', Lg w' base v' (cs ++ [d]) → Below base W w' → (∀ k, k < W.heap.size → some k ≠ v.ownBlock → w'.heap[k]? = W.heap[k]?) → (v'.ownBlock = v.ownBlock ∨ v'.ownBlock = some W.heap.size) → K (a.put o.dst v') w') : o.wp Tryz.prog a W K Q := by
  obtain ⟨i0, hi0, hi1, hi2, hi3⟩ := info_parts infoChg
  obtain ⟨v', w', hr, hown', hgrow, -, hblk⟩ := run_append_own_at (P := Tryz.prog) (w := W) base 73 o.type 129 i0 _ 5 40 Tryz.underlying73 hi0 hi1 hi2 hi3 rfl (by decide) v cs.length (cgVs cs) hown ⟨g, 0, none⟩ 1 c [.int .i64 d.q, .int .i64 d.v, .int .i64 d.a, .int .i64 d.b, .int .i64 d.n] rfl
    (by intro k u hk
        rw [addr_add, cell_of_row W g (0 + k) _ _ (0, 0) hg, Nat.zero_add]
        simpa using hk)
    (by intro u hu; simp at hu; rcases hu with rfl | rfl | rfl | rfl | rfl <;> rfl) (by unfold maxLen; omega) (by omega) hbase
  unfold Oper.wp execOp
  simp only [ho, resolve, invoke, builtin, Sem.run_bind, Sem.run_pure, Result.andThen_ok, List.map_toArray, List.map_cons, List.map_nil, hs, hx, hr]
  refine h v' w' ?_ ((Below.refl base W).grown hgrow hbase (fun k hk => (World.ownsRow.lt hown k hk).1)) (fun k hk hne => hgrow.block k hk hne) hblk
  unfold Lg
  rw [cgVs_append, List.length_append]
  exact hown'

theorem lg_append_list (W : World) {ops : Array Oper} {rest : List Oper} {o : Oper} {a : Act} {Q : Exit → Act → World → Prop} (hgd : o.guard = none) (s x : Operand)
    (ho : o.op = .call { callee := .builtin .append, args := #[s, x], argTypes := #[73, 73] })
    (base : Nat) (v : Value) (cs : List Chg) (hown : Lg W base v cs) (hs : a.eval s = v) (d : Chg) (c g : Nat)
    (hx : a.eval x = .slice (some ⟨g, 0, none⟩) 1 c) (hg : W.heap[g]? = some (.cells #[.int .i64 d.q, .int .i64 d.v, .int .i64 d.a, .int .i64 d.b, .int .i64 d.n] 129 (0, 0))) (hlen : cs.length < 1099511627776) (hbase : base ≤ W.heap.size)
    (h : ∀ v' w', Lg w' base v' (cs ++ [d]) → Below base W w' → (∀ k, k < W.heap.size → some k ≠ v.ownBlock → w'.heap[k]? = W.heap[k]?) → (v'.ownBlock = v.ownBlock ∨ v'.ownBlock = some W.heap.size) → wpList Tryz.prog ops Q rest (a.put o.dst v') w') :
    wpList Tryz.prog ops Q (o :: rest) a W :=
  wpList_plain hgd fun K hK => lg_append_wp W s x ho base v cs hown hs d c g hx hg hlen hbase fun v' w' q1 q2 q3 q4 => hK _ _ (h v' w' q1 q2 q3 q4)

theorem lg_append_step {W : World} {ops : Array Oper} {o : Oper} {a : Act} {K : Act → World → Prop} {Q : Exit → Act → World → Prop} {E : Prop} (hgd : o.guard = none) (s x : Operand)
    (ho : o.op = .call { callee := .builtin .append, args := #[s, x], argTypes := #[73, 73] })
    (base : Nat) (v : Value) (cs : List Chg) (hown : Lg W base v cs) (hs : a.eval s = v) (d : Chg) (c g : Nat)
    (hx : a.eval x = .slice (some ⟨g, 0, none⟩) 1 c) (hg : W.heap[g]? = some (.cells #[.int .i64 d.q, .int .i64 d.v, .int .i64 d.a, .int .i64 d.b, .int .i64 d.n] 129 (0, 0))) (hlen : cs.length < 1099511627776) (hbase : base ≤ W.heap.size)
    (h : ∀ v' w', Lg w' base v' (cs ++ [d]) → Below base W w' → (∀ k, k < W.heap.size → some k ≠ v.ownBlock → w'.heap[k]? = W.heap[k]?) → (v'.ownBlock = v.ownBlock ∨ v'.ownBlock = some W.heap.size) → K (a.put o.dst v') w') :
    if Region.wanted o (yielded ops a.tmps) = true then Oper.wp Tryz.prog o a W K Q else E := by
  have hw : Region.wanted o (yielded ops a.tmps) = true := by simp [Region.wanted, hgd]
  rw [if_pos hw]
  exact lg_append_wp W s x ho base v cs hown hs d c g hx hg hlen hbase h

/-- The sum of the swaps. -/
def cgT : List Chg → Int
  | [] => 0
  | c :: cs => c.n + cgT cs
theorem cgT_append : ∀ a b : List Chg, cgT (a ++ b) = cgT a + cgT b
  | [], b => by simp [cgT]
  | c :: cs, b => by rw [List.cons_append, cgT, cgT, cgT_append cs b]; omega

/-- The charge of a division: none if nothing is divided. -/
noncomputable def PS.chg (S : PS) (v q : Int) : List Chg := if crDiv S.l S.r S.ps v = true then [⟨q, v, (S.piece v).1, (S.piece v).2, ((crS S.l S.r S.ps v).length : Int)⟩] else []
theorem PS.chg_sum (S : PS) (v q : Int) : cgT (S.chg v q) + S.n = (S.crack v).n := by
  unfold PS.chg
  by_cases h : crDiv S.l S.r S.ps v = true
  · rw [if_pos h]
    show (((crS S.l S.r S.ps v).length : Int) + 0) + S.n = ((S.n + (crS S.l S.r S.ps v).length : Nat) : Int)
    omega
  · rw [if_neg h]
    have e : crS S.l S.r S.ps v = [] := by unfold crS; rw [if_neg h]
    show (0 : Int) + S.n = ((S.n + (crS S.l S.r S.ps v).length : Nat) : Int)
    rw [e]
    simp

/-- The charges of a round, of a run. -/
noncomputable def PS.chgs (S : PS) (p t v q : Int) : List Chg := (S.chosen p t v).chg (S.m p t v) q ++ ((S.chosen p t v).crack (S.m p t v)).chg (S.m p t v + 1) q
noncomputable def PS.runC (p t v q : Int) : Nat → PS → List Chg
  | 0, S => []
  | k + 1, S => if S.more p t v = true then S.chgs p t v q ++ PS.runC p t v q k (S.step p t v) else []
theorem PS.chgs_sum (S : PS) (p t v q : Int) : cgT (S.chgs p t v q) + S.n = (S.step p t v).n := by
  unfold PS.chgs
  rw [cgT_append]
  have h1 := PS.chg_sum (S.chosen p t v) (S.m p t v) q
  have h2 := PS.chg_sum ((S.chosen p t v).crack (S.m p t v)) (S.m p t v + 1) q
  have h3 : (S.chosen p t v).n = S.n := rfl
  show _ = (((((S.chosen p t v).crack (S.m p t v)).crack (S.m p t v + 1)).n : Nat) : Int)
  omega
theorem PS.runC_sum (p t v q : Int) : ∀ (k : Nat) (S : PS), cgT (PS.runC p t v q k S) + S.n = (PS.run p t v k S).n
  | 0, S => by rw [PS.runC, PS.run]; simp [cgT]
  | k + 1, S => by
    rw [PS.runC, PS.run]
    by_cases h : S.more p t v = true
    · rw [if_pos h, if_pos h, cgT_append]
      have h1 := PS.chgs_sum S p t v q
      have h2 := PS.runC_sum p t v q k (S.step p t v)
      omega
    · rw [if_neg h, if_neg h]; simp [cgT]
theorem PS.runC_stop {S : PS} {p t v q : Int} (h : S.more p t v = false) : ∀ k, PS.runC p t v q k S = []
  | 0 => rfl
  | k + 1 => by rw [PS.runC, h]; rfl
theorem PS.chg_len (S : PS) (v q : Int) : (S.chg v q).length ≤ 1 := by unfold PS.chg; split <;> simp
theorem PS.chgs_len (S : PS) (p t v q : Int) : (S.chgs p t v q).length ≤ 2 := by
  unfold PS.chgs
  rw [List.length_append]
  have := PS.chg_len (S.chosen p t v) (S.m p t v) q
  have := PS.chg_len ((S.chosen p t v).crack (S.m p t v)) (S.m p t v + 1) q
  omega
theorem PS.runC_len (p t v q : Int) : ∀ (k : Nat) (S : PS), (PS.runC p t v q k S).length ≤ 2 * k
  | 0, S => by rw [PS.runC]; simp
  | k + 1, S => by
    rw [PS.runC]
    split
    · rw [List.length_append]
      have := PS.chgs_len S p t v q
      have := PS.runC_len p t v q k (S.step p t v)
      omega
    · simp

end Go.Proofs.YtajfhalalnlejaaGreat

/- What ApplySwaps of the reference returns (promise 3). Written by gen_aps.py. -/
namespace Go.Proofs.YtajfhalalnlejaaGreat
open Go.RowKit Go.ChangeShapes
set_option linter.unusedSimpArgs false
set_option linter.unusedVariables false
set_option maxRecDepth 100000

set_option maxHeartbeats 4000000 in
theorem sApply_eq (a1 a2 a3 : Option Addr) (c1 c2 c3 : Nat) (sv : Value) (l r : List Int) (ps sw : List Pv) (w : World) (B : Nat) (V : Hid (Ck w B (.agg #[.slice a1 l.length c1, .slice a2 l.length c2, .slice a3 ps.length c3]) l r ps)) (HR : Hid (r.length = l.length)) (hs : Pvs w B sv sw) (hB : B ≤ w.heap.size) (hl : l.length ≤ 1048576) (hp : ps.length ≤ 1048576) (t : Bool) (HT : Hid (t = sw.all (swOk l.length))) (LL RR : List Int) (HLL : Hid (LL = if t = true then swaps l sw else l)) (HRR : Hid (RR = if t = true then swaps r sw else r)) :
    Calls Tryz.prog 149 #[.agg #[.slice a1 l.length c1, .slice a2 l.length c2, .slice a3 ps.length c3], sv] w (RetOCB w LL RR ps t) := by
  have HC := hide hs
  obtain ⟨ad, cap, rfl, hlen, hwf, hcell⟩ := hs
  have HCC := hide hcell
  clear hcell hwf
  have X := hide (Kn.two w #[.slice a1 l.length c1, .slice a2 l.length c2, .slice a3 ps.length c3] #[.slice none 0 0, .slice none 0 0, .slice none 0 0] 33 33)
  obtain ⟨w1, hw1⟩ : ∃ w1, w1 = (w.alloc (.cells #[.slice a1 l.length c1, .slice a2 l.length c2, .slice a3 ps.length c3] 33)).alloc (.cells #[.slice none 0 0, .slice none 0 0, .slice none 0 0] 33) := ⟨_, rfl⟩
  have hz1 := hide (show w1.heap.size = w.heap.size + 1 + 1 by rw [hw1]; simp)
  rw [← hw1] at X
  have hq0 : ((l.length : Int) != (l.length : Int)) = false := by simp
  have C0 := hide (fun (W : World) (h : Below w.heap.size w W) => sCopy_any _ l r ps W B (V.out.below h hB) (Nat.le_trans hB h.size) hl (by rw [HR.out]; exact hl) hp)
  go_enter Tryz.func149, Tryz.ntmps149
  go_wp2_with fail
  rw [← hw1]
  clear hw1
  have c0 : w1.cell? ⟨w.heap.size, 0, none⟩ = some (.slice a1 l.length c1) := X.out.cell 0 0 rfl rfl
  have c1' : w1.cell? ⟨w.heap.size, 1, none⟩ = some (.slice a2 l.length c2) := X.out.cell 0 1 rfl rfl
  have c2' : w1.cell? ⟨w.heap.size, 2, none⟩ = some (.slice a3 ps.length c3) := X.out.cell 0 2 rfl rfl
  go_wp2_with fail
  go_at_call 61
  refine (C0.out _ X.out.below).mono ?_
  rintro e w2 ⟨x, y, z, lo, hi, n1, h1, n2, h2, n3, h3, rfl, q1, q2, O, hb⟩
  obtain ⟨x1, k1, rfl⟩ := O.x.form
  obtain ⟨x2, k2, hx2⟩ := O.y.form
  rw [HR.out] at hx2
  subst hx2
  obtain ⟨x3, k3, rfl⟩ := O.z.own.form
  have X2 := hide (X.out.up hb)
  have X3 := hide (X2.out.alloc #[.slice x1 l.length k1, .slice x2 l.length k2, .slice x3 ps.length k3] 33)
  have O3 := hide (O.below ((Below.refl w2.heap.size w2).alloc (Nat.le_refl _) (.cells #[.slice x1 l.length k1, .slice x2 l.length k2, .slice x3 ps.length k3] 33)))
  clear c0 c1' c2' O hb X X2
  obtain ⟨m, hm⟩ : ∃ m, m = w2.heap.size := ⟨_, rfl⟩
  obtain ⟨w3, hw3⟩ : ∃ w3, w3 = w2.alloc (.cells #[.slice x1 l.length k1, .slice x2 l.length k2, .slice x3 ps.length k3] 33) := ⟨_, rfl⟩
  rw [← hw3] at X3 O3
  rw [← hm] at X3 q2
  simp only [List.cons_append, List.nil_append] at X3
  have Q1 := hide q1
  have Q2 := hide q2
  have EL := hide HLL.out
  have ER := hide HRR.out
  clear HLL HRR
  go_wp2_with fail
  rw [← hw3]
  try rw [← hm]
  clear hw3 hm q1 q2
  go_loopw [7] (fun u wr => ∃ (k : Nat), k ≤ sw.length ∧ u = .int .i64 k ∧ Hid ((sw.take k).all (swOk l.length) = true) ∧ Hid (Kn w wr [(w.heap.size, #[.slice a1 l.length c1, .slice a2 l.length c2, .slice a3 ps.length c3], 33), (w.heap.size + 1, #[.slice none 0 0, .slice none 0 0, .slice none 0 0], 33), (m, #[.slice x1 l.length k1, .slice x2 l.length k2, .slice x3 ps.length k3], 33)]) ∧ Hid (OC wr (.slice x1 l.length k1) (.slice x2 l.length k2) (.slice x3 ps.length k3) (swaps l (sw.take k)) (swaps r (sw.take k)) ps lo hi n1 h1 n2 h2 n3 h3)) (fun u _ => sw.length - (intOf u).toNat)
  case atStart => exact ⟨0, by omega, rfl, by simp [Hid], X3.out, by simpa [Hid, swaps] using O3.out⟩
  case round =>
      clear X3 O3
      obtain ⟨k, hk, rfl, hall, K, O⟩ := hrel
      have e0 : wr.cell? ⟨m, 0, none⟩ = some (.slice x1 l.length k1) := K.out.cell 2 0 rfl rfl
      have e1 : wr.cell? ⟨m, 1, none⟩ = some (.slice x2 l.length k2) := K.out.cell 2 1 rfl rfl
      by_cases hlt : k < sw.length
      · have es1 := hide (swaps_take l sw k hlt)
        have es2 := hide (swaps_take r sw k hlt)
        have hat := hide (all_take (swOk l.length) sw k hlt)
        obtain ⟨b1, o1, rfl, hb1, hc1, hc2⟩ := HCC.out k hlt
        obtain ⟨x, hx⟩ : ∃ x, x = sw[k].1 := ⟨_, rfl⟩
        obtain ⟨y, hy⟩ : ∃ y, y = sw[k].2 := ⟨_, rfl⟩
        rw [← hx] at hc1
        rw [← hy] at hc2
        have d1 : wr.cell? ⟨b1, o1 + k * 2, none⟩ = some (.int .i64 x) := by rw [K.out.below.cell (p := ⟨b1, o1 + k * 2, none⟩) (Nat.lt_of_lt_of_le hb1 hB)]; exact hc1
        have d2 : wr.cell? ⟨b1, o1 + k * 2 + 1, none⟩ = some (.int .i64 y) := by rw [K.out.below.cell (p := ⟨b1, o1 + k * 2 + 1, none⟩) (Nat.lt_of_lt_of_le hb1 hB)]; exact hc2
        have HX := hide hx
        have HY := hide hy
        clear hc1 hc2 hx hy hb1
        by_cases p1 : 0 ≤ x ∧ x ≤ (l.length : Int) - 1
        · have C1 := hide (fun (W : World) => in_yes x 0 ((l.length : Int) - 1) W p1.1 p1.2)
          by_cases p2 : 0 ≤ y ∧ y ≤ (l.length : Int) - 1
          · have C2 := hide (fun (W : World) => in_yes y 0 ((l.length : Int) - 1) W p2.1 p2.2)
            have HA2 := hide (show (sw.take (k + 1)).all (swOk l.length) = true by rw [hat.out, hall.out]; unfold swOk; rw [← HX.out, ← HY.out]; simp; omega)
            obtain ⟨i, rfl⟩ := Int.eq_ofNat_of_zero_le p1.1
            obtain ⟨j, rfl⟩ := Int.eq_ofNat_of_zero_le p2.1
            have ES1 := hide (show swaps l (sw.take (k + 1)) = swapAt (swaps l (sw.take k)) i j by rw [es1.out, ← HX.out, ← HY.out]; rfl)
            have ES2 := hide (show swaps r (sw.take (k + 1)) = swapAt (swaps r (sw.take k)) i j by rw [es2.out, ← HX.out, ← HY.out]; rfl)
            have H1 := hide (show i < (swaps l (sw.take k)).length by rw [swaps_length]; omega)
            have H2 := hide (show j < (swaps l (sw.take k)).length by rw [swaps_length]; omega)
            have H3 := hide (show i < (swaps r (sw.take k)).length by rw [swaps_length, HR.out]; omega)
            have H4 := hide (show j < (swaps r (sw.take k)).length by rw [swaps_length, HR.out]; omega)
            clear p1 p2 hat es1 es2
            go_wp2_with fail
            go_at_call 79
            refine (C1.out _).mono ?_
            rintro e' wa ⟨rfl, rfl⟩
            go_wp2_with fail
            go_at_call 79
            refine (C2.out _).mono ?_
            rintro e' wa ⟨rfl, rfl⟩
            go_wp2_with fail
            go_at_call 123
            refine (sSwap_ow _ (swaps l (sw.take k)) n1 h1 i j wr O.out.x H1.out H2.out).mono ?_
            rintro e' w6 ⟨⟨u, rfl⟩, Ox, s1⟩
            obtain ⟨l1, l2, l3⟩ := O.out.low
            obtain ⟨g1, g2, g3⟩ := O.out.high
            obtain ⟨r1, r2, r3⟩ := O.out.apart
            have hz := hz1.out
            have hq1 := Q1.out
            have hq2 := Q2.out
            have hm := K.out.lt 2 rfl
            have hlo := O.out.x.le
            have K3 := hide (K.out.seg s1 (by omega) (by intro e he; simp at he; rcases he with rfl | rfl | rfl <;> simp <;> omega))
            have Oy := hide (O.out.y.seg s1 (by omega))
            have Oz := hide (O.out.z.seg s1 (by omega))
            have Ox := hide Ox
            have s1 := hide s1
            have e1 : w6.cell? ⟨m, 1, none⟩ = some (.slice x2 l.length k2) := K3.out.cell 2 1 rfl rfl
            have e0 : w6.cell? ⟨m, 0, none⟩ = some (.slice x1 l.length k1) := K3.out.cell 2 0 rfl rfl
            have L := hide (And.intro l1 (And.intro l2 l3))
            have G := hide (And.intro g1 (And.intro g2 g3))
            have A := hide (And.intro r1 (And.intro r2 r3))
            clear l1 l2 l3 g1 g2 g3 r1 r2 r3 hz hq1 hq2 hm hlo
            go_wp2_with fail
            go_at_call 123
            refine (sSwap_ow _ (swaps r (sw.take k)) n2 h2 i j w6 Oy.out H3.out H4.out).mono ?_
            rintro e' w7 ⟨⟨u', rfl⟩, Oy7, s2⟩
            obtain ⟨l1, l2, l3⟩ := L.out
            obtain ⟨g1, g2, g3⟩ := G.out
            obtain ⟨r1, r2, r3⟩ := A.out
            have hz := hz1.out
            have hq1 := Q1.out
            have hq2 := Q2.out
            have hm := K.out.lt 2 rfl
            have hlo := O.out.y.le
            have K4 := hide (K3.out.seg s2 (by omega) (by intro e he; simp at he; rcases he with rfl | rfl | rfl <;> simp <;> omega))
            have Ox7 := hide (Ox.out.seg s2 (by omega))
            have Oz7 := hide (Oz.out.seg s2 (by omega))
            have hsz := hide (Nat.le_trans O.out.top.2 (Nat.le_trans s1.out.below.size s2.below.size))
            have Oy7 := hide Oy7
            clear l1 l2 l3 g1 g2 g3 r1 r2 r3 hz hq1 hq2 hm hlo K3 s2 e0 e1
            go_wp2_with fail
            go_roundw
            case rel =>
              refine ⟨k + 1, by omega, by go_num, HA2.out, K4.out, ?_⟩
              show OC _ _ _ _ _ _ _ _ _ _ _ _ _ _ _
              rw [ES1.out, ES2.out]
              exact ⟨Ox7.out, Oy7.out, Oz7.out, L.out, G.out, A.out, O.out.top.1, hsz.out⟩
            case measure => simp [intOf]; omega
          · have C2 := hide (fun (W : World) => in_no y 0 ((l.length : Int) - 1) W (by omega))
            go_wp2_with fail
            go_at_call 79
            refine (C1.out _).mono ?_
            rintro e' wa ⟨rfl, rfl⟩
            go_wp2_with fail
            go_at_call 79
            refine (C2.out _).mono ?_
            rintro e' wa ⟨rfl, rfl⟩
            have tf : t = false := by
              rw [HT.out]
              exact List.all_eq_false.2 ⟨sw[k], List.getElem_mem hlt, by unfold swOk; rw [← HX.out, ← HY.out]; simp; omega⟩
            subst tf
            obtain rfl : LL = l := EL.out
            obtain rfl : RR = r := ER.out
            have b0 : wr.cell? ⟨w.heap.size, 0, none⟩ = some (.slice a1 LL.length c1) := K.out.cell 0 0 rfl rfl
            have b1 : wr.cell? ⟨w.heap.size, 1, none⟩ = some (.slice a2 LL.length c2) := K.out.cell 0 1 rfl rfl
            have b2 : wr.cell? ⟨w.heap.size, 2, none⟩ = some (.slice a3 ps.length c3) := K.out.cell 0 2 rfl rfl
            go_wp2_with fail
            go_at_call 61
            refine (C0.out _ K.out.below).mono ?_
            rintro e w5 ⟨y1, y2, y3, lo5, hi5, m1, j1, m2, j2, m3, j3, rfl, p3, p4, O5, hb5⟩
            obtain ⟨v1, d1', rfl⟩ := O5.x.form
            obtain ⟨v2, d2', hv2⟩ := O5.y.form
            rw [HR.out] at hv2
            subst hv2
            obtain ⟨v3, d3', rfl⟩ := O5.z.own.form
            have K5 := hide (K.out.up hb5)
            have O5 := hide O5
            have P3 := hide (Nat.le_trans K.out.below.size p3)
            have P5 := hide (Nat.lt_of_lt_of_le (K.out.lt 1 rfl) p3)
            clear b0 b1 b2 hb5 p3 p4 K O
            have g0 : w5.cell? ⟨w.heap.size + 1, 0, none⟩ = some (.slice none 0 0) := K5.out.cell 1 0 rfl rfl
            have g1 : w5.cell? ⟨w.heap.size + 1, 1, none⟩ = some (.slice none 0 0) := K5.out.cell 1 1 rfl rfl
            have g2 : w5.cell? ⟨w.heap.size + 1, 2, none⟩ = some (.slice none 0 0) := K5.out.cell 1 2 rfl rfl
            have f0 := K5.out.free 1 0 rfl
            have f1 := K5.out.free 1 1 rfl
            have f2 := K5.out.free 1 2 rfl
            go_wp2_with fail
            have Z := ((K5.out.set 1 0 rfl (.slice v1 LL.length d1')).set 1 1 rfl (.slice v2 LL.length d2')).set 1 2 rfl (.slice v3 ps.length d3')
            have z0 := Z.cell 1 0 rfl rfl
            have z1 := Z.cell 1 1 rfl rfl
            have z2 := Z.cell 1 2 rfl rfl
            have O6 := O5.out.seg (seg3 _ (w.heap.size + 1) (.slice v1 LL.length d1') (.slice v2 LL.length d2') (.slice v3 ps.length d3')) (.inr P5.out)
            exact bodyPost_ret (v := .tuple #[.agg #[.slice v1 LL.length d1', .slice v2 LL.length d2', .slice v3 ps.length d3'], .bool false]) (by simp [results, Tryz.results149, go_sem, z0, z1, z2]) rfl
              ⟨_, _, _, lo5, hi5, m1, j1, m2, j2, m3, j3, rfl, P3.out, O6.top.2, O6, Z.below⟩
        · have C1 := hide (fun (W : World) => in_no x 0 ((l.length : Int) - 1) W (by omega))
          have q := True.intro
          · skip
            go_wp2_with fail
            go_at_call 79
            refine (C1.out _).mono ?_
            rintro e' wa ⟨rfl, rfl⟩
            have tf : t = false := by
              rw [HT.out]
              exact List.all_eq_false.2 ⟨sw[k], List.getElem_mem hlt, by unfold swOk; rw [← HX.out, ← HY.out]; simp; omega⟩
            subst tf
            obtain rfl : LL = l := EL.out
            obtain rfl : RR = r := ER.out
            have b0 : wr.cell? ⟨w.heap.size, 0, none⟩ = some (.slice a1 LL.length c1) := K.out.cell 0 0 rfl rfl
            have b1 : wr.cell? ⟨w.heap.size, 1, none⟩ = some (.slice a2 LL.length c2) := K.out.cell 0 1 rfl rfl
            have b2 : wr.cell? ⟨w.heap.size, 2, none⟩ = some (.slice a3 ps.length c3) := K.out.cell 0 2 rfl rfl
            go_wp2_with fail
            go_at_call 61
            refine (C0.out _ K.out.below).mono ?_
            rintro e w5 ⟨y1, y2, y3, lo5, hi5, m1, j1, m2, j2, m3, j3, rfl, p3, p4, O5, hb5⟩
            obtain ⟨v1, d1', rfl⟩ := O5.x.form
            obtain ⟨v2, d2', hv2⟩ := O5.y.form
            rw [HR.out] at hv2
            subst hv2
            obtain ⟨v3, d3', rfl⟩ := O5.z.own.form
            have K5 := hide (K.out.up hb5)
            have O5 := hide O5
            have P3 := hide (Nat.le_trans K.out.below.size p3)
            have P5 := hide (Nat.lt_of_lt_of_le (K.out.lt 1 rfl) p3)
            clear b0 b1 b2 hb5 p3 p4 K O
            have g0 : w5.cell? ⟨w.heap.size + 1, 0, none⟩ = some (.slice none 0 0) := K5.out.cell 1 0 rfl rfl
            have g1 : w5.cell? ⟨w.heap.size + 1, 1, none⟩ = some (.slice none 0 0) := K5.out.cell 1 1 rfl rfl
            have g2 : w5.cell? ⟨w.heap.size + 1, 2, none⟩ = some (.slice none 0 0) := K5.out.cell 1 2 rfl rfl
            have f0 := K5.out.free 1 0 rfl
            have f1 := K5.out.free 1 1 rfl
            have f2 := K5.out.free 1 2 rfl
            go_wp2_with fail
            have Z := ((K5.out.set 1 0 rfl (.slice v1 LL.length d1')).set 1 1 rfl (.slice v2 LL.length d2')).set 1 2 rfl (.slice v3 ps.length d3')
            have z0 := Z.cell 1 0 rfl rfl
            have z1 := Z.cell 1 1 rfl rfl
            have z2 := Z.cell 1 2 rfl rfl
            have O6 := O5.out.seg (seg3 _ (w.heap.size + 1) (.slice v1 LL.length d1') (.slice v2 LL.length d2') (.slice v3 ps.length d3')) (.inr P5.out)
            exact bodyPost_ret (v := .tuple #[.agg #[.slice v1 LL.length d1', .slice v2 LL.length d2', .slice v3 ps.length d3'], .bool false]) (by simp [results, Tryz.results149, go_sem, z0, z1, z2]) rfl
              ⟨_, _, _, lo5, hi5, m1, j1, m2, j2, m3, j3, rfl, P3.out, O6.top.2, O6, Z.below⟩
      · have hke : k = sw.length := by omega
        subst hke
        rw [List.take_length] at O hall
        have tt : t = true := by rw [HT.out]; exact hall.out
        subst tt
        have EL : Hid (LL = swaps l sw) := EL.out
        have ER : Hid (RR = swaps r sw) := ER.out
        clear e0 e1
        rw [← EL.out, ← ER.out] at O
        have e0 : wr.cell? ⟨m, 0, none⟩ = some (.slice x1 l.length k1) := K.out.cell 2 0 rfl rfl
        have e1 : wr.cell? ⟨m, 1, none⟩ = some (.slice x2 l.length k2) := K.out.cell 2 1 rfl rfl
        have e2 : wr.cell? ⟨m, 2, none⟩ = some (.slice x3 ps.length k3) := K.out.cell 2 2 rfl rfl
        have g0 : wr.cell? ⟨w.heap.size + 1, 0, none⟩ = some (.slice none 0 0) := K.out.cell 1 0 rfl rfl
        have g1 : wr.cell? ⟨w.heap.size + 1, 1, none⟩ = some (.slice none 0 0) := K.out.cell 1 1 rfl rfl
        have g2 : wr.cell? ⟨w.heap.size + 1, 2, none⟩ = some (.slice none 0 0) := K.out.cell 1 2 rfl rfl
        have f0 := K.out.free 1 0 rfl
        have f1 := K.out.free 1 1 rfl
        have f2 := K.out.free 1 2 rfl
        go_wp2_with fail
        have Z := ((K.out.set 1 0 rfl (.slice x1 l.length k1)).set 1 1 rfl (.slice x2 l.length k2)).set 1 2 rfl (.slice x3 ps.length k3)
        have z0 := Z.cell 1 0 rfl rfl
        have z1 := Z.cell 1 1 rfl rfl
        have z2 := Z.cell 1 2 rfl rfl
        have q1 := Q1.out
        have hz := hz1.out
        have O6 := O.out.seg (seg3 _ (w.heap.size + 1) (.slice x1 l.length k1) (.slice x2 l.length k2) (.slice x3 ps.length k3)) (.inr (by omega))
        exact bodyPost_ret (v := .tuple #[.agg #[.slice x1 l.length k1, .slice x2 l.length k2, .slice x3 ps.length k3], .bool true]) (by simp [results, Tryz.results149, go_sem, z0, z1, z2]) rfl
          ⟨_, _, _, lo, hi, n1, h1, n2, h2, n3, h3, rfl, by omega, O6.top.2, O6, Z.below⟩

set_option maxHeartbeats 4000000 in
theorem sApply_ne (a1 a2 a3 : Option Addr) (c1 c2 c3 : Nat) (sv : Value) (l r : List Int) (ps sw : List Pv) (w : World) (B : Nat) (V : Hid (Ck w B (.agg #[.slice a1 l.length c1, .slice a2 r.length c2, .slice a3 ps.length c3]) l r ps)) (HR : ¬ (r.length = l.length)) (hs : Pvs w B sv sw) (hB : B ≤ w.heap.size) (hl : l.length ≤ 1048576) (hr : r.length ≤ 1048576) (hp : ps.length ≤ 1048576) :
    Calls Tryz.prog 149 #[.agg #[.slice a1 l.length c1, .slice a2 r.length c2, .slice a3 ps.length c3], sv] w (RetOCB w l r ps false) := by
  obtain ⟨ad, cap, rfl, -⟩ := hs
  have hq0 : ((r.length : Int) != (l.length : Int)) = true := by simp; omega
  have hq1 : (r.length == l.length) = false := by simp; omega
  have hq2 : decide (r.length = l.length) = false := by simp; omega
  clear HR
  have X := hide (Kn.two w #[.slice a1 l.length c1, .slice a2 r.length c2, .slice a3 ps.length c3] #[.slice none 0 0, .slice none 0 0, .slice none 0 0] 33 33)
  obtain ⟨w1, hw1⟩ : ∃ w1, w1 = (w.alloc (.cells #[.slice a1 l.length c1, .slice a2 r.length c2, .slice a3 ps.length c3] 33)).alloc (.cells #[.slice none 0 0, .slice none 0 0, .slice none 0 0] 33) := ⟨_, rfl⟩
  have hz1 := hide (show w1.heap.size = w.heap.size + 1 + 1 by rw [hw1]; simp)
  rw [← hw1] at X
  have C0 := hide (fun (W : World) (h : Below w.heap.size w W) => sCopy_any _ l r ps W B (V.out.below h hB) (Nat.le_trans hB h.size) hl hr hp)
  go_enter Tryz.func149, Tryz.ntmps149
  go_wp2_with fail
  rw [← hw1]
  clear hw1
  have c0 : w1.cell? ⟨w.heap.size, 0, none⟩ = some (.slice a1 l.length c1) := X.out.cell 0 0 rfl rfl
  have c1' : w1.cell? ⟨w.heap.size, 1, none⟩ = some (.slice a2 r.length c2) := X.out.cell 0 1 rfl rfl
  have c2' : w1.cell? ⟨w.heap.size, 2, none⟩ = some (.slice a3 ps.length c3) := X.out.cell 0 2 rfl rfl
  go_wp2_with fail
  go_at_call 61
  refine (C0.out _ X.out.below).mono ?_
  rintro e w2 ⟨x, y, z, lo, hi, n1, h1, n2, h2, n3, h3, rfl, q1, q2, O, hb⟩
  obtain ⟨x1, k1, rfl⟩ := O.x.form
  obtain ⟨x2, k2, rfl⟩ := O.y.form
  obtain ⟨x3, k3, rfl⟩ := O.z.own.form
  have X2 := hide (X.out.up hb)
  have X3 := hide (X2.out.alloc #[.slice x1 l.length k1, .slice x2 r.length k2, .slice x3 ps.length k3] 33)
  have O3 := hide (O.below ((Below.refl w2.heap.size w2).alloc (Nat.le_refl _) (.cells #[.slice x1 l.length k1, .slice x2 r.length k2, .slice x3 ps.length k3] 33)))
  clear c0 c1' c2' O hb X X2
  obtain ⟨m, hm⟩ : ∃ m, m = w2.heap.size := ⟨_, rfl⟩
  obtain ⟨w3, hw3⟩ : ∃ w3, w3 = w2.alloc (.cells #[.slice x1 l.length k1, .slice x2 r.length k2, .slice x3 ps.length k3] 33) := ⟨_, rfl⟩
  rw [← hw3] at X3 O3
  rw [← hm] at X3 q2
  simp only [List.cons_append, List.nil_append] at X3
  have b0 : w3.cell? ⟨w.heap.size, 0, none⟩ = some (.slice a1 l.length c1) := X3.out.cell 0 0 rfl rfl
  have b1 : w3.cell? ⟨w.heap.size, 1, none⟩ = some (.slice a2 r.length c2) := X3.out.cell 0 1 rfl rfl
  have g0 : w3.cell? ⟨w.heap.size + 1, 0, none⟩ = some (.slice none 0 0) := X3.out.cell 1 0 rfl rfl
  have g1 : w3.cell? ⟨w.heap.size + 1, 1, none⟩ = some (.slice none 0 0) := X3.out.cell 1 1 rfl rfl
  have g2 : w3.cell? ⟨w.heap.size + 1, 2, none⟩ = some (.slice none 0 0) := X3.out.cell 1 2 rfl rfl
  have f0 := X3.out.free 1 0 rfl
  have f1 := X3.out.free 1 1 rfl
  have f2 := X3.out.free 1 2 rfl
  have Q1 := hide q1
  have Q2 := hide q2
  rw [hw3] at b0 b1 g0 g1 g2 f0 f1 f2
  go_wp2_with fail
  have Z := ((X3.out.set 1 0 rfl (.slice x1 l.length k1)).set 1 1 rfl (.slice x2 r.length k2)).set 1 2 rfl (.slice x3 ps.length k3)
  have q1 := Q1.out
  have hz := hz1.out
  have O6 := O3.out.seg (seg3 _ (w.heap.size + 1) (.slice x1 l.length k1) (.slice x2 r.length k2) (.slice x3 ps.length k3)) (.inr (by omega))
  rw [hw3] at Z O6
  have z0 := Z.cell 1 0 rfl rfl
  have z1 := Z.cell 1 1 rfl rfl
  have z2 := Z.cell 1 2 rfl rfl
  exact bodyPost_ret (v := .tuple #[.agg #[.slice x1 l.length k1, .slice x2 r.length k2, .slice x3 ps.length k3], .bool false]) (by simp [results, Tryz.results149, go_sem, z0, z1, z2]) rfl
    ⟨_, _, _, lo, hi, n1, h1, n2, h2, n3, h3, rfl, by omega, O6.top.2, O6, Z.below⟩

theorem sApply_any (v sv : Value) (l r : List Int) (ps sw : List Pv) (w : World) (B : Nat) (hv : Ck w B v l r ps) (hs : Pvs w B sv sw) (hB : B ≤ w.heap.size) (hl : l.length ≤ 1048576) (hr : r.length ≤ 1048576) (hp : ps.length ≤ 1048576) :
    Calls Tryz.prog 149 #[v, sv] w (RetOCB w (apL l r sw) (apR l r sw) ps (canSwap l r sw)) := by
  obtain ⟨a1, c1, a2, c2, a3, c3, rfl, -⟩ := hv.form
  by_cases h : r.length = l.length
  · rw [h] at hv ⊢
    have e : canSwap l r sw = sw.all (swOk l.length) := by unfold canSwap; rw [decide_eq_true h]; rfl
    exact sApply_eq a1 a2 a3 c1 c2 c3 sv l r ps sw w B hv h hs hB hl hp _ e _ _ rfl rfl
  · have e : canSwap l r sw = false := by unfold canSwap; rw [decide_eq_false h]; rfl
    have e1 : apL l r sw = l := by unfold apL; rw [e]; rfl
    have e2 : apR l r sw = r := by unfold apR; rw [e]; rfl
    rw [e, e1, e2]
    exact sApply_ne a1 a2 a3 c1 c2 c3 sv l r ps sw w B hv h hs hB hl hr hp

end Go.Proofs.YtajfhalalnlejaaGreat

/- What CrackAt of the reference returns (promise 3). Written by gen_crs.py. -/
namespace Go.Proofs.YtajfhalalnlejaaGreat
open Go.RowKit Go.ChangeShapes
set_option linter.unusedSimpArgs false
set_option linter.unusedVariables false
set_option maxRecDepth 100000

set_option maxHeartbeats 8000000 in
theorem sCrack_any (u : Value) (l r : List Int) (ps : List Pv) (v : Int) (w : World) (B : Nat) (hv : Ck w B u l r ps) (hB : B ≤ w.heap.size) (hl : l.length ≤ 1048576) (hr : r.length ≤ 1048576) (hp : ps.length ≤ 1048576) (hvw : I64 v) :
    Calls Tryz.prog 134 #[u, .int .i64 v] w (RetOCSB w (crL l r ps v) (crR l r ps v) (crP l r ps v) (crS l r ps v) (crOk l r ps v)) := by
  obtain ⟨a1, c1, a2, c2, a3, c3, rfl, i1, i2, i3⟩ := hv.form
  obtain ⟨wl, wr, wpl, wp⟩ := hv.wf
  have V := hide hv
  have I1 := hide i1
  clear hv i1 i2 i3
  obtain ⟨t0, ht0⟩ : ∃ t, t = isCk l r ps := ⟨_, rfl⟩
  obtain ⟨bd, hbd⟩ : ∃ t, t = decide (-1000 ≤ v ∧ v ≤ 1000) := ⟨_, rfl⟩
  obtain ⟨fd, hfd⟩ : ∃ p, p = fndP ps v := ⟨_, rfl⟩
  obtain ⟨pc, hpc⟩ : ∃ p, p = pieceP l r ps v := ⟨_, rfl⟩
  obtain ⟨pt, hpt⟩ : ∃ p, p = crPt l r ps v := ⟨_, rfl⟩
  obtain ⟨L1, hL1⟩ : ∃ p, p = apL l r pt.1 := ⟨_, rfl⟩
  obtain ⟨R1, hR1⟩ : ∃ p, p = apR l r pt.1 := ⟨_, rfl⟩
  obtain ⟨P1, hP1⟩ : ∃ p, p = adP L1 R1 ps (v, pt.2) := ⟨_, rfl⟩
  obtain ⟨nl, hnl⟩ : ∃ p, p = crL l r ps v := ⟨_, rfl⟩
  obtain ⟨nr, hnr⟩ : ∃ p, p = crR l r ps v := ⟨_, rfl⟩
  obtain ⟨np, hnp⟩ : ∃ p, p = crP l r ps v := ⟨_, rfl⟩
  obtain ⟨ns, hns⟩ : ∃ p, p = crS l r ps v := ⟨_, rfl⟩
  obtain ⟨ok, hok⟩ : ∃ p, p = crOk l r ps v := ⟨_, rfl⟩
  have HOK := hide (show ok = (t0 && bd) by rw [hok, ht0, hbd]; rfl)
  have HDV := hide (show crDiv l r ps v = ((t0 && bd) && !fd.2) by rw [ht0, hbd, hfd]; rfl)
  have HNL := hide (show nl = if ((t0 && bd) && !fd.2) = true then L1 else l by rw [← HDV.out, hnl, hL1, hpt]; rfl)
  have HNR := hide (show nr = if ((t0 && bd) && !fd.2) = true then R1 else r by rw [← HDV.out, hnr, hR1, hpt]; rfl)
  have HNP := hide (show np = if ((t0 && bd) && !fd.2) = true then P1 else ps by rw [← HDV.out, hnp, hP1, hL1, hR1, hpt]; rfl)
  have HNS := hide (show ns = if ((t0 && bd) && !fd.2) = true then pt.1 else [] by rw [← HDV.out, hns, hpt]; rfl)
  rw [← hnl, ← hnr, ← hnp, ← hns, ← hok]
  have HPT := hide (show pt = partP l pc.1 pc.2 v by rw [hpt, hpc]; rfl)
  have hnum := partP_nums l pc.1 pc.2 v hl
  have hpw := partP_wf l pc.1 pc.2 v hl
  rw [← HPT.out] at hnum hpw
  have HL1 := hide (show L1.length ≤ 1048576 ∧ (∀ x ∈ L1, I64 x) by rw [hL1]; exact ⟨by rw [apL_length]; exact hl, apL_wf wl⟩)
  have HR1 := hide (show R1.length ≤ 1048576 ∧ (∀ x ∈ R1, I64 x) by rw [hR1]; exact ⟨by rw [apR_length]; exact hr, apR_wf wr⟩)
  have HNM := hide hnum
  have HPW := hide hpw
  have HWP := hide wp
  have CK := hide (fun (W : World) (h : Below w.heap.size w W) => show Calls Tryz.prog 26 #[.agg #[.slice a1 l.length c1, .slice a2 r.length c2, .slice a3 ps.length c3]] W (RetB1 W t0) by rw [ht0]; exact sIsCk_any _ l r ps W B (V.out.below h hB) (Nat.le_trans hB h.size))
  have CF := hide (fun (W : World) (h : Below w.heap.size w W) => show Calls Tryz.prog 62 #[.agg #[.slice a1 l.length c1, .slice a2 r.length c2, .slice a3 ps.length c3], .int .i64 v] W (RetPB W fd) by rw [hfd]; exact sFindP_any _ l r ps v W B (V.out.below h hB) (Nat.le_trans hB h.size))
  have CC := hide (fun (W : World) (h : Below w.heap.size w W) => sCopy_any _ l r ps W B (V.out.below h hB) (Nat.le_trans hB h.size) hl hr hp)
  have CP := hide (fun (W : World) (h : Below w.heap.size w W) => show Calls Tryz.prog 120 #[.agg #[.slice a1 l.length c1, .slice a2 r.length c2, .slice a3 ps.length c3], .int .i64 v] W (RetII W pc) by rw [hpc]; exact sPieceOf_any _ l r ps v W B (V.out.below h hB) (Nat.le_trans hB h.size))
  have CT := hide (fun (W : World) (h : Below w.heap.size w W) => show Calls Tryz.prog 148 #[.slice a1 l.length c1, .int .i64 pc.1, .int .i64 pc.2, .int .i64 v] W (RetSI W pt) by rw [HPT.out]; exact sPart_any _ l pc.1 pc.2 v W B (I1.out.below h hB) (Nat.le_trans hB h.size) hl)
  have CAp := hide (fun (W : World) (sv : Value) (h : Below w.heap.size w W) (h2 : Pvs W W.heap.size sv pt.1) => show Calls Tryz.prog 149 #[.agg #[.slice a1 l.length c1, .slice a2 r.length c2, .slice a3 ps.length c3], sv] W (RetOCB W L1 R1 ps (canSwap l r pt.1)) by rw [hL1, hR1]; exact sApply_any _ sv l r ps pt.1 W W.heap.size ((V.out.below h hB).mono (Nat.le_trans hB h.size)) h2 (Nat.le_refl _) hl hr hp)
  have CAd := hide (fun (W : World) (x : Value) (h : Ck W W.heap.size x L1 R1 ps) => show Calls Tryz.prog 150 #[x, .agg #[.int .i64 v, .int .i64 pt.2]] W (RetOCB W L1 R1 P1 (adOk L1 R1 ps (v, pt.2))) by rw [hP1]; exact sAdd_any x L1 R1 ps v pt.2 W W.heap.size h ⟨hvw, ⟨by have := HNM.out; omega, by have := HNM.out; omega⟩⟩ (Nat.le_refl _) HL1.out.1 HR1.out.1 hp)
  have HBD := hide hbd
  clear ht0 hbd hfd hpc hpt hL1 hR1 hP1 hnl hnr hnp hns hok hnum hpw wl wr wpl wp
  obtain ⟨f0, f1⟩ := fd
  obtain ⟨pa, pb⟩ := pc
  obtain ⟨sw, at0⟩ := pt
  simp only at HDV HNL HNR HNP HNS CT CAp CAd HNM HPW CP HPT
  obtain ⟨cs, hcs⟩ : ∃ t, t = canSwap l r sw := ⟨_, rfl⟩
  obtain ⟨ad, had⟩ : ∃ t, t = adOk L1 R1 ps (v, at0) := ⟨_, rfl⟩
  rw [← hcs] at CAp
  rw [← had] at CAd
  clear hcs had
  have X := hide (Kn.two w #[.slice a1 l.length c1, .slice a2 r.length c2, .slice a3 ps.length c3] #[.slice none 0 0, .slice none 0 0, .slice none 0 0] 33 33)
  obtain ⟨w1, hw1⟩ : ∃ w1, w1 = (w.alloc (.cells #[.slice a1 l.length c1, .slice a2 r.length c2, .slice a3 ps.length c3] 33)).alloc (.cells #[.slice none 0 0, .slice none 0 0, .slice none 0 0] 33) := ⟨_, rfl⟩
  have hz1 := hide (show w1.heap.size = w.heap.size + 1 + 1 by rw [hw1]; simp)
  rw [← hw1] at X
  have d0 : w1.cell? ⟨w.heap.size, 0, none⟩ = some (.slice a1 l.length c1) := X.out.cell 0 0 rfl rfl
  have d1 : w1.cell? ⟨w.heap.size, 1, none⟩ = some (.slice a2 r.length c2) := X.out.cell 0 1 rfl rfl
  have d2 : w1.cell? ⟨w.heap.size, 2, none⟩ = some (.slice a3 ps.length c3) := X.out.cell 0 2 rfl rfl
  rw [hw1] at d0 d1 d2
  go_enter Tryz.func134, Tryz.ntmps134
  go_wp2_with fail
  rw [← hw1]
  clear hw1 d0 d1 d2
  go_at_call 26
  refine (CK.out _ X.out.below).mono ?_
  rintro e w2 ⟨rfl, hb⟩
  have X := hide (X.out.up hb)
  have N2 := hide (Nat.le_trans (Nat.le_of_eq hz1.out.symm) hb.size)
  clear hb
  cases t0 with
  | false =>
    have d0 : w2.cell? ⟨w.heap.size, 0, none⟩ = some (.slice a1 l.length c1) := X.out.cell 0 0 rfl rfl
    have d1 : w2.cell? ⟨w.heap.size, 1, none⟩ = some (.slice a2 r.length c2) := X.out.cell 0 1 rfl rfl
    have d2 : w2.cell? ⟨w.heap.size, 2, none⟩ = some (.slice a3 ps.length c3) := X.out.cell 0 2 rfl rfl
    cases f1 with
    | false =>
      obtain rfl : nl = l := by simpa [Hid] using HNL
      obtain rfl : nr = r := by simpa [Hid] using HNR
      obtain rfl : np = ps := by simpa [Hid] using HNP
      obtain rfl : ns = [] := by simpa [Hid] using HNS
      obtain rfl : ok = false := by simpa [Hid] using HOK
      go_wp2_with fail
      go_at_call 61
      refine (CC.out _ X.out.below).mono ?_
      rintro e w8 ⟨x', y', z', lo', hi', n1', h1', n2', h2', n4, h4, rfl, q1, q2, O8, hb⟩
      obtain ⟨v1, j1, rfl⟩ := O8.x.form
      obtain ⟨v2, j2, rfl⟩ := O8.y.form
      obtain ⟨v3, j4, rfl⟩ := O8.z.own.form
      have K8 := hide (X.out.up hb)
      have P3 := hide (Nat.le_trans X.out.below.size q1)
      have P5 := hide (Nat.lt_of_lt_of_le (X.out.lt 1 rfl) q1)
      have O8 := hide O8
      clear d0 d1 d2 hb q1 q2 X
      have KA := hide (K8.out.alloc #[] 171)
      have OA := hide (O8.out.below (below1 w8 (.cells #[] 171)))
      have OM := hide (Osw.of (OwS.made w8 w8.heap.size (Nat.le_refl _)) (by simp))
      have g0 : (w8.alloc (.cells #[] 171)).cell? ⟨w.heap.size + 1, 0, none⟩ = some (.slice none 0 0) := KA.out.cell 1 0 rfl rfl
      have g1 : (w8.alloc (.cells #[] 171)).cell? ⟨w.heap.size + 1, 1, none⟩ = some (.slice none 0 0) := KA.out.cell 1 1 rfl rfl
      have g2 : (w8.alloc (.cells #[] 171)).cell? ⟨w.heap.size + 1, 2, none⟩ = some (.slice none 0 0) := KA.out.cell 1 2 rfl rfl
      have f0' : (w8.alloc (.cells #[] 171)).frozen? ⟨w.heap.size + 1, 0, none⟩ = false := KA.out.free 1 0 rfl
      have f1' : (w8.alloc (.cells #[] 171)).frozen? ⟨w.heap.size + 1, 1, none⟩ = false := KA.out.free 1 1 rfl
      have f2' : (w8.alloc (.cells #[] 171)).frozen? ⟨w.heap.size + 1, 2, none⟩ = false := KA.out.free 1 2 rfl
      go_wp2_with fail
      have Z := ((KA.out.set 1 0 rfl (.slice v1 nl.length j1)).set 1 1 rfl (.slice v2 nr.length j2)).set 1 2 rfl (.slice v3 np.length j4)
      have z0 := Z.cell 1 0 rfl rfl
      have z1 := Z.cell 1 1 rfl rfl
      have z2 := Z.cell 1 2 rfl rfl
      have P6 := Nat.le_trans P3.out (Nat.le_trans O8.out.top.1 O8.out.top.2)
      have P7 : w.heap.size + 1 + 1 ≤ w8.heap.size := Nat.le_trans P5.out (Nat.le_trans O8.out.top.1 O8.out.top.2)
      have O9 := OA.out.seg (seg3 _ (w.heap.size + 1) (.slice v1 nl.length j1) (.slice v2 nr.length j2) (.slice v3 np.length j4)) (.inr P5.out)
      have M9 := OM.out.seg (seg3 _ (w.heap.size + 1) (.slice v1 nl.length j1) (.slice v2 nr.length j2) (.slice v3 np.length j4)) (.inr P7)
      exact bodyPost_ret (v := .tuple #[.agg #[.slice v1 nl.length j1, .slice v2 nr.length j2, .slice v3 np.length j4], .slice (some ⟨w8.heap.size, 0, none⟩) 0 0, .bool false]) (by simp [results, Tryz.results134, go_sem, z0, z1, z2]) rfl
        ⟨_, _, _, _, lo', hi', n1', h1', n2', h2', n4, h4, _, _, rfl, ⟨P3.out, P6⟩, ⟨O9.top.2, M9.top⟩, O9, M9, .inl O8.out.top.2, Z.below⟩
    | true =>
      obtain rfl : nl = l := by simpa [Hid] using HNL
      obtain rfl : nr = r := by simpa [Hid] using HNR
      obtain rfl : np = ps := by simpa [Hid] using HNP
      obtain rfl : ns = [] := by simpa [Hid] using HNS
      obtain rfl : ok = false := by simpa [Hid] using HOK
      go_wp2_with fail
      go_at_call 61
      refine (CC.out _ X.out.below).mono ?_
      rintro e w8 ⟨x', y', z', lo', hi', n1', h1', n2', h2', n4, h4, rfl, q1, q2, O8, hb⟩
      obtain ⟨v1, j1, rfl⟩ := O8.x.form
      obtain ⟨v2, j2, rfl⟩ := O8.y.form
      obtain ⟨v3, j4, rfl⟩ := O8.z.own.form
      have K8 := hide (X.out.up hb)
      have P3 := hide (Nat.le_trans X.out.below.size q1)
      have P5 := hide (Nat.lt_of_lt_of_le (X.out.lt 1 rfl) q1)
      have O8 := hide O8
      clear d0 d1 d2 hb q1 q2 X
      have KA := hide (K8.out.alloc #[] 171)
      have OA := hide (O8.out.below (below1 w8 (.cells #[] 171)))
      have OM := hide (Osw.of (OwS.made w8 w8.heap.size (Nat.le_refl _)) (by simp))
      have g0 : (w8.alloc (.cells #[] 171)).cell? ⟨w.heap.size + 1, 0, none⟩ = some (.slice none 0 0) := KA.out.cell 1 0 rfl rfl
      have g1 : (w8.alloc (.cells #[] 171)).cell? ⟨w.heap.size + 1, 1, none⟩ = some (.slice none 0 0) := KA.out.cell 1 1 rfl rfl
      have g2 : (w8.alloc (.cells #[] 171)).cell? ⟨w.heap.size + 1, 2, none⟩ = some (.slice none 0 0) := KA.out.cell 1 2 rfl rfl
      have f0' : (w8.alloc (.cells #[] 171)).frozen? ⟨w.heap.size + 1, 0, none⟩ = false := KA.out.free 1 0 rfl
      have f1' : (w8.alloc (.cells #[] 171)).frozen? ⟨w.heap.size + 1, 1, none⟩ = false := KA.out.free 1 1 rfl
      have f2' : (w8.alloc (.cells #[] 171)).frozen? ⟨w.heap.size + 1, 2, none⟩ = false := KA.out.free 1 2 rfl
      go_wp2_with fail
      have Z := ((KA.out.set 1 0 rfl (.slice v1 nl.length j1)).set 1 1 rfl (.slice v2 nr.length j2)).set 1 2 rfl (.slice v3 np.length j4)
      have z0 := Z.cell 1 0 rfl rfl
      have z1 := Z.cell 1 1 rfl rfl
      have z2 := Z.cell 1 2 rfl rfl
      have P6 := Nat.le_trans P3.out (Nat.le_trans O8.out.top.1 O8.out.top.2)
      have P7 : w.heap.size + 1 + 1 ≤ w8.heap.size := Nat.le_trans P5.out (Nat.le_trans O8.out.top.1 O8.out.top.2)
      have O9 := OA.out.seg (seg3 _ (w.heap.size + 1) (.slice v1 nl.length j1) (.slice v2 nr.length j2) (.slice v3 np.length j4)) (.inr P5.out)
      have M9 := OM.out.seg (seg3 _ (w.heap.size + 1) (.slice v1 nl.length j1) (.slice v2 nr.length j2) (.slice v3 np.length j4)) (.inr P7)
      exact bodyPost_ret (v := .tuple #[.agg #[.slice v1 nl.length j1, .slice v2 nr.length j2, .slice v3 np.length j4], .slice (some ⟨w8.heap.size, 0, none⟩) 0 0, .bool false]) (by simp [results, Tryz.results134, go_sem, z0, z1, z2]) rfl
        ⟨_, _, _, _, lo', hi', n1', h1', n2', h2', n4, h4, _, _, rfl, ⟨P3.out, P6⟩, ⟨O9.top.2, M9.top⟩, O9, M9, .inl O8.out.top.2, Z.below⟩
  | true =>
    cases bd with
    | false =>
      have d0 : w2.cell? ⟨w.heap.size, 0, none⟩ = some (.slice a1 l.length c1) := X.out.cell 0 0 rfl rfl
      have d1 : w2.cell? ⟨w.heap.size, 1, none⟩ = some (.slice a2 r.length c2) := X.out.cell 0 1 rfl rfl
      have d2 : w2.cell? ⟨w.heap.size, 2, none⟩ = some (.slice a3 ps.length c3) := X.out.cell 0 2 rfl rfl
      have hvb := of_decide_eq_false HBD.out.symm
      have CB := hide (fun (W : World) => in_no v (-1000) 1000 W (by omega))
      clear hvb
      go_wp2_with fail
      go_at_call 79
      refine (CB.out _).mono ?_
      rintro e wq ⟨rfl, rfl⟩
      cases f1 with
      | false =>
        obtain rfl : nl = l := by simpa [Hid] using HNL
        obtain rfl : nr = r := by simpa [Hid] using HNR
        obtain rfl : np = ps := by simpa [Hid] using HNP
        obtain rfl : ns = [] := by simpa [Hid] using HNS
        obtain rfl : ok = false := by simpa [Hid] using HOK
        go_wp2_with fail
        go_at_call 61
        refine (CC.out _ X.out.below).mono ?_
        rintro e w8 ⟨x', y', z', lo', hi', n1', h1', n2', h2', n4, h4, rfl, q1, q2, O8, hb⟩
        obtain ⟨v1, j1, rfl⟩ := O8.x.form
        obtain ⟨v2, j2, rfl⟩ := O8.y.form
        obtain ⟨v3, j4, rfl⟩ := O8.z.own.form
        have K8 := hide (X.out.up hb)
        have P3 := hide (Nat.le_trans X.out.below.size q1)
        have P5 := hide (Nat.lt_of_lt_of_le (X.out.lt 1 rfl) q1)
        have O8 := hide O8
        clear d0 d1 d2 hb q1 q2 X
        have KA := hide (K8.out.alloc #[] 171)
        have OA := hide (O8.out.below (below1 w8 (.cells #[] 171)))
        have OM := hide (Osw.of (OwS.made w8 w8.heap.size (Nat.le_refl _)) (by simp))
        have g0 : (w8.alloc (.cells #[] 171)).cell? ⟨w.heap.size + 1, 0, none⟩ = some (.slice none 0 0) := KA.out.cell 1 0 rfl rfl
        have g1 : (w8.alloc (.cells #[] 171)).cell? ⟨w.heap.size + 1, 1, none⟩ = some (.slice none 0 0) := KA.out.cell 1 1 rfl rfl
        have g2 : (w8.alloc (.cells #[] 171)).cell? ⟨w.heap.size + 1, 2, none⟩ = some (.slice none 0 0) := KA.out.cell 1 2 rfl rfl
        have f0' : (w8.alloc (.cells #[] 171)).frozen? ⟨w.heap.size + 1, 0, none⟩ = false := KA.out.free 1 0 rfl
        have f1' : (w8.alloc (.cells #[] 171)).frozen? ⟨w.heap.size + 1, 1, none⟩ = false := KA.out.free 1 1 rfl
        have f2' : (w8.alloc (.cells #[] 171)).frozen? ⟨w.heap.size + 1, 2, none⟩ = false := KA.out.free 1 2 rfl
        go_wp2_with fail
        have Z := ((KA.out.set 1 0 rfl (.slice v1 nl.length j1)).set 1 1 rfl (.slice v2 nr.length j2)).set 1 2 rfl (.slice v3 np.length j4)
        have z0 := Z.cell 1 0 rfl rfl
        have z1 := Z.cell 1 1 rfl rfl
        have z2 := Z.cell 1 2 rfl rfl
        have P6 := Nat.le_trans P3.out (Nat.le_trans O8.out.top.1 O8.out.top.2)
        have P7 : w.heap.size + 1 + 1 ≤ w8.heap.size := Nat.le_trans P5.out (Nat.le_trans O8.out.top.1 O8.out.top.2)
        have O9 := OA.out.seg (seg3 _ (w.heap.size + 1) (.slice v1 nl.length j1) (.slice v2 nr.length j2) (.slice v3 np.length j4)) (.inr P5.out)
        have M9 := OM.out.seg (seg3 _ (w.heap.size + 1) (.slice v1 nl.length j1) (.slice v2 nr.length j2) (.slice v3 np.length j4)) (.inr P7)
        exact bodyPost_ret (v := .tuple #[.agg #[.slice v1 nl.length j1, .slice v2 nr.length j2, .slice v3 np.length j4], .slice (some ⟨w8.heap.size, 0, none⟩) 0 0, .bool false]) (by simp [results, Tryz.results134, go_sem, z0, z1, z2]) rfl
          ⟨_, _, _, _, lo', hi', n1', h1', n2', h2', n4, h4, _, _, rfl, ⟨P3.out, P6⟩, ⟨O9.top.2, M9.top⟩, O9, M9, .inl O8.out.top.2, Z.below⟩
      | true =>
        obtain rfl : nl = l := by simpa [Hid] using HNL
        obtain rfl : nr = r := by simpa [Hid] using HNR
        obtain rfl : np = ps := by simpa [Hid] using HNP
        obtain rfl : ns = [] := by simpa [Hid] using HNS
        obtain rfl : ok = false := by simpa [Hid] using HOK
        go_wp2_with fail
        go_at_call 61
        refine (CC.out _ X.out.below).mono ?_
        rintro e w8 ⟨x', y', z', lo', hi', n1', h1', n2', h2', n4, h4, rfl, q1, q2, O8, hb⟩
        obtain ⟨v1, j1, rfl⟩ := O8.x.form
        obtain ⟨v2, j2, rfl⟩ := O8.y.form
        obtain ⟨v3, j4, rfl⟩ := O8.z.own.form
        have K8 := hide (X.out.up hb)
        have P3 := hide (Nat.le_trans X.out.below.size q1)
        have P5 := hide (Nat.lt_of_lt_of_le (X.out.lt 1 rfl) q1)
        have O8 := hide O8
        clear d0 d1 d2 hb q1 q2 X
        have KA := hide (K8.out.alloc #[] 171)
        have OA := hide (O8.out.below (below1 w8 (.cells #[] 171)))
        have OM := hide (Osw.of (OwS.made w8 w8.heap.size (Nat.le_refl _)) (by simp))
        have g0 : (w8.alloc (.cells #[] 171)).cell? ⟨w.heap.size + 1, 0, none⟩ = some (.slice none 0 0) := KA.out.cell 1 0 rfl rfl
        have g1 : (w8.alloc (.cells #[] 171)).cell? ⟨w.heap.size + 1, 1, none⟩ = some (.slice none 0 0) := KA.out.cell 1 1 rfl rfl
        have g2 : (w8.alloc (.cells #[] 171)).cell? ⟨w.heap.size + 1, 2, none⟩ = some (.slice none 0 0) := KA.out.cell 1 2 rfl rfl
        have f0' : (w8.alloc (.cells #[] 171)).frozen? ⟨w.heap.size + 1, 0, none⟩ = false := KA.out.free 1 0 rfl
        have f1' : (w8.alloc (.cells #[] 171)).frozen? ⟨w.heap.size + 1, 1, none⟩ = false := KA.out.free 1 1 rfl
        have f2' : (w8.alloc (.cells #[] 171)).frozen? ⟨w.heap.size + 1, 2, none⟩ = false := KA.out.free 1 2 rfl
        go_wp2_with fail
        have Z := ((KA.out.set 1 0 rfl (.slice v1 nl.length j1)).set 1 1 rfl (.slice v2 nr.length j2)).set 1 2 rfl (.slice v3 np.length j4)
        have z0 := Z.cell 1 0 rfl rfl
        have z1 := Z.cell 1 1 rfl rfl
        have z2 := Z.cell 1 2 rfl rfl
        have P6 := Nat.le_trans P3.out (Nat.le_trans O8.out.top.1 O8.out.top.2)
        have P7 : w.heap.size + 1 + 1 ≤ w8.heap.size := Nat.le_trans P5.out (Nat.le_trans O8.out.top.1 O8.out.top.2)
        have O9 := OA.out.seg (seg3 _ (w.heap.size + 1) (.slice v1 nl.length j1) (.slice v2 nr.length j2) (.slice v3 np.length j4)) (.inr P5.out)
        have M9 := OM.out.seg (seg3 _ (w.heap.size + 1) (.slice v1 nl.length j1) (.slice v2 nr.length j2) (.slice v3 np.length j4)) (.inr P7)
        exact bodyPost_ret (v := .tuple #[.agg #[.slice v1 nl.length j1, .slice v2 nr.length j2, .slice v3 np.length j4], .slice (some ⟨w8.heap.size, 0, none⟩) 0 0, .bool false]) (by simp [results, Tryz.results134, go_sem, z0, z1, z2]) rfl
          ⟨_, _, _, _, lo', hi', n1', h1', n2', h2', n4, h4, _, _, rfl, ⟨P3.out, P6⟩, ⟨O9.top.2, M9.top⟩, O9, M9, .inl O8.out.top.2, Z.below⟩
    | true =>
      have d0 : w2.cell? ⟨w.heap.size, 0, none⟩ = some (.slice a1 l.length c1) := X.out.cell 0 0 rfl rfl
      have d1 : w2.cell? ⟨w.heap.size, 1, none⟩ = some (.slice a2 r.length c2) := X.out.cell 0 1 rfl rfl
      have d2 : w2.cell? ⟨w.heap.size, 2, none⟩ = some (.slice a3 ps.length c3) := X.out.cell 0 2 rfl rfl
      have hvb := of_decide_eq_true HBD.out.symm
      have CB := hide (fun (W : World) => in_yes v (-1000) 1000 W hvb.1 hvb.2)
      clear hvb
      go_wp2_with fail
      go_at_call 79
      refine (CB.out _).mono ?_
      rintro e wq ⟨rfl, rfl⟩
      go_wp2_with fail
      go_at_call 62
      refine (CF.out _ X.out.below).mono ?_
      rintro e w3 ⟨rfl, hb⟩
      have X := hide (X.out.up hb)
      have N3 := hide (Nat.le_trans N2.out hb.size)
      clear hb d0 d1 d2
      have d0 : w3.cell? ⟨w.heap.size, 0, none⟩ = some (.slice a1 l.length c1) := X.out.cell 0 0 rfl rfl
      have d1 : w3.cell? ⟨w.heap.size, 1, none⟩ = some (.slice a2 r.length c2) := X.out.cell 0 1 rfl rfl
      have d2 : w3.cell? ⟨w.heap.size, 2, none⟩ = some (.slice a3 ps.length c3) := X.out.cell 0 2 rfl rfl
      cases f1 with
      | true =>
        obtain rfl : nl = l := by simpa [Hid] using HNL
        obtain rfl : nr = r := by simpa [Hid] using HNR
        obtain rfl : np = ps := by simpa [Hid] using HNP
        obtain rfl : ns = [] := by simpa [Hid] using HNS
        obtain rfl : ok = true := by simpa [Hid] using HOK
        go_wp2_with fail
        go_at_call 61
        refine (CC.out _ X.out.below).mono ?_
        rintro e w8 ⟨x', y', z', lo', hi', n1', h1', n2', h2', n4, h4, rfl, q1, q2, O8, hb⟩
        obtain ⟨v1, j1, rfl⟩ := O8.x.form
        obtain ⟨v2, j2, rfl⟩ := O8.y.form
        obtain ⟨v3, j4, rfl⟩ := O8.z.own.form
        have K8 := hide (X.out.up hb)
        have P3 := hide (Nat.le_trans X.out.below.size q1)
        have P5 := hide (Nat.lt_of_lt_of_le (X.out.lt 1 rfl) q1)
        have O8 := hide O8
        clear d0 d1 d2 hb q1 q2 X
        have KA := hide (K8.out.alloc #[] 171)
        have OA := hide (O8.out.below (below1 w8 (.cells #[] 171)))
        have OM := hide (Osw.of (OwS.made w8 w8.heap.size (Nat.le_refl _)) (by simp))
        have g0 : (w8.alloc (.cells #[] 171)).cell? ⟨w.heap.size + 1, 0, none⟩ = some (.slice none 0 0) := KA.out.cell 1 0 rfl rfl
        have g1 : (w8.alloc (.cells #[] 171)).cell? ⟨w.heap.size + 1, 1, none⟩ = some (.slice none 0 0) := KA.out.cell 1 1 rfl rfl
        have g2 : (w8.alloc (.cells #[] 171)).cell? ⟨w.heap.size + 1, 2, none⟩ = some (.slice none 0 0) := KA.out.cell 1 2 rfl rfl
        have f0' : (w8.alloc (.cells #[] 171)).frozen? ⟨w.heap.size + 1, 0, none⟩ = false := KA.out.free 1 0 rfl
        have f1' : (w8.alloc (.cells #[] 171)).frozen? ⟨w.heap.size + 1, 1, none⟩ = false := KA.out.free 1 1 rfl
        have f2' : (w8.alloc (.cells #[] 171)).frozen? ⟨w.heap.size + 1, 2, none⟩ = false := KA.out.free 1 2 rfl
        go_wp2_with fail
        have Z := ((KA.out.set 1 0 rfl (.slice v1 nl.length j1)).set 1 1 rfl (.slice v2 nr.length j2)).set 1 2 rfl (.slice v3 np.length j4)
        have z0 := Z.cell 1 0 rfl rfl
        have z1 := Z.cell 1 1 rfl rfl
        have z2 := Z.cell 1 2 rfl rfl
        have P6 := Nat.le_trans P3.out (Nat.le_trans O8.out.top.1 O8.out.top.2)
        have P7 : w.heap.size + 1 + 1 ≤ w8.heap.size := Nat.le_trans P5.out (Nat.le_trans O8.out.top.1 O8.out.top.2)
        have O9 := OA.out.seg (seg3 _ (w.heap.size + 1) (.slice v1 nl.length j1) (.slice v2 nr.length j2) (.slice v3 np.length j4)) (.inr P5.out)
        have M9 := OM.out.seg (seg3 _ (w.heap.size + 1) (.slice v1 nl.length j1) (.slice v2 nr.length j2) (.slice v3 np.length j4)) (.inr P7)
        exact bodyPost_ret (v := .tuple #[.agg #[.slice v1 nl.length j1, .slice v2 nr.length j2, .slice v3 np.length j4], .slice (some ⟨w8.heap.size, 0, none⟩) 0 0, .bool true]) (by simp [results, Tryz.results134, go_sem, z0, z1, z2]) rfl
          ⟨_, _, _, _, lo', hi', n1', h1', n2', h2', n4, h4, _, _, rfl, ⟨P3.out, P6⟩, ⟨O9.top.2, M9.top⟩, O9, M9, .inl O8.out.top.2, Z.below⟩
      | false =>
        obtain rfl : nl = L1 := by simpa [Hid] using HNL
        obtain rfl : nr = R1 := by simpa [Hid] using HNR
        obtain rfl : np = P1 := by simpa [Hid] using HNP
        obtain rfl : ns = sw := by simpa [Hid] using HNS
        obtain rfl : ok = true := by simpa [Hid] using HOK
        go_wp2_with fail
        go_at_call 120
        refine (CP.out _ X.out.below).mono ?_
        rintro e w4 ⟨rfl, hb⟩
        have X := hide (X.out.up hb)
        have N4 := hide (Nat.le_trans N3.out hb.size)
        clear hb d0 d1 d2
        have d0 : w4.cell? ⟨w.heap.size, 0, none⟩ = some (.slice a1 l.length c1) := X.out.cell 0 0 rfl rfl
        have d1 : w4.cell? ⟨w.heap.size, 1, none⟩ = some (.slice a2 r.length c2) := X.out.cell 0 1 rfl rfl
        have d2 : w4.cell? ⟨w.heap.size, 2, none⟩ = some (.slice a3 ps.length c3) := X.out.cell 0 2 rfl rfl
        go_wp2_with fail
        go_at_call 148
        refine (CT.out _ X.out.below).mono ?_
        rintro e w5 ⟨sv, rfl, OS, hb⟩
        obtain ⟨sg, sk, rfl⟩ := OS.form
        have X := hide (X.out.up hb)
        have OS := hide (Osw.of OS hb.size)
        have N5 := hide hb.size
        clear hb d0 d1 d2
        have d0 : w5.cell? ⟨w.heap.size, 0, none⟩ = some (.slice a1 l.length c1) := X.out.cell 0 0 rfl rfl
        have d1 : w5.cell? ⟨w.heap.size, 1, none⟩ = some (.slice a2 r.length c2) := X.out.cell 0 1 rfl rfl
        have d2 : w5.cell? ⟨w.heap.size, 2, none⟩ = some (.slice a3 ps.length c3) := X.out.cell 0 2 rfl rfl
        go_wp2_with fail
        go_at_call 149
        refine (CAp.out _ _ X.out.below (OS.out.own.pvs (Nat.le_refl _) (by have := HNM.out.2.1; omega) HPW.out)).mono ?_
        rintro e w6 ⟨x, y, z, lo, hi, n1, h1, n2, h2, n3, h3, rfl, q1, q2, O, hb⟩
        obtain ⟨x1, k1, rfl⟩ := O.x.form
        obtain ⟨x2, k2, rfl⟩ := O.y.form
        obtain ⟨x3, k3, rfl⟩ := O.z.own.form
        have X := hide (X.out.up hb)
        have OS := hide (OS.out.below hb)
        have HC := hide (O.ck HL1.out.2 HR1.out.2 (by omega) HWP.out)
        clear d0 d1 d2 O q1 q2
        have hs6 := hide hb.size
        clear hb
        have bl := below1 w6 (.cells #[.slice x1 nl.length k1, .slice x2 nr.length k2, .slice x3 ps.length k3] 33)
        have X := hide (X.out.alloc #[.slice x1 nl.length k1, .slice x2 nr.length k2, .slice x3 ps.length k3] 33)
        have OS := hide (OS.out.below bl)
        have HC := hide (HC.out.up bl)
        clear bl
        obtain ⟨m, hm⟩ : ∃ m, m = w6.heap.size := ⟨_, rfl⟩
        obtain ⟨w7, hw7⟩ : ∃ q, q = w6.alloc (.cells #[.slice x1 nl.length k1, .slice x2 nr.length k2, .slice x3 ps.length k3] 33) := ⟨_, rfl⟩
        have hs7 := hide (show w7.heap.size = m + 1 by rw [hw7, hm]; simp)
        rw [← hw7] at X OS HC
        rw [← hm] at X
        have hs6 := hide (show w5.heap.size ≤ m by rw [hm]; exact hs6.out)
        simp only [List.cons_append, List.nil_append] at X
        go_wp2_with fail
        rw [← hw7]
        try rw [← hm]
        clear hw7 hm
        go_at_call 150
        refine (CAd.out _ _ HC.out).mono ?_
        rintro e w8 ⟨x', y', z', lo, hi, n1, h1, n2, h2, n3, h3, rfl, q1, q2, O, hb⟩
        obtain ⟨v1, j1, rfl⟩ := O.x.form
        obtain ⟨v2, j2, rfl⟩ := O.y.form
        obtain ⟨v3, j3, rfl⟩ := O.z.own.form
        have K8 := hide (X.out.up hb)
        have OS := hide (OS.out.below hb)
        have Q1 := hide (show m + 1 ≤ lo by rw [← hs7.out]; exact q1)
        have O := hide O
        clear hb q1 q2 X HC
        have KA := hide (K8.out.alloc #[.slice v1 nl.length j1, .slice v2 nr.length j2, .slice v3 np.length j3] 33)
        have bl := below1 w8 (.cells #[.slice v1 nl.length j1, .slice v2 nr.length j2, .slice v3 np.length j3] 33)
        have O := hide (O.out.below bl)
        have OS := hide (OS.out.below bl)
        clear bl
        have g0 : (w8.alloc (.cells #[.slice v1 nl.length j1, .slice v2 nr.length j2, .slice v3 np.length j3] 33)).cell? ⟨w.heap.size + 1, 0, none⟩ = some (.slice none 0 0) := KA.out.cell 1 0 rfl rfl
        have g1 : (w8.alloc (.cells #[.slice v1 nl.length j1, .slice v2 nr.length j2, .slice v3 np.length j3] 33)).cell? ⟨w.heap.size + 1, 1, none⟩ = some (.slice none 0 0) := KA.out.cell 1 1 rfl rfl
        have g2 : (w8.alloc (.cells #[.slice v1 nl.length j1, .slice v2 nr.length j2, .slice v3 np.length j3] 33)).cell? ⟨w.heap.size + 1, 2, none⟩ = some (.slice none 0 0) := KA.out.cell 1 2 rfl rfl
        have f0' : (w8.alloc (.cells #[.slice v1 nl.length j1, .slice v2 nr.length j2, .slice v3 np.length j3] 33)).frozen? ⟨w.heap.size + 1, 0, none⟩ = false := KA.out.free 1 0 rfl
        have f1' : (w8.alloc (.cells #[.slice v1 nl.length j1, .slice v2 nr.length j2, .slice v3 np.length j3] 33)).frozen? ⟨w.heap.size + 1, 1, none⟩ = false := KA.out.free 1 1 rfl
        have f2' : (w8.alloc (.cells #[.slice v1 nl.length j1, .slice v2 nr.length j2, .slice v3 np.length j3] 33)).frozen? ⟨w.heap.size + 1, 2, none⟩ = false := KA.out.free 1 2 rfl
        have Z := ((KA.out.set 1 0 rfl (.slice v1 nl.length j1)).set 1 1 rfl (.slice v2 nr.length j2)).set 1 2 rfl (.slice v3 np.length j3)
        have z0 := Z.cell 1 0 rfl rfl
        have z1 := Z.cell 1 1 rfl rfl
        have z2 := Z.cell 1 2 rfl rfl
        have HZ := hide Z
        have Q0 := hide (show w.heap.size + 1 + 1 ≤ lo by have := N4.out; have := N5.out; have := hs6.out; have := Q1.out; omega)
        have Q2 := hide (show w.heap.size + 1 + 1 ≤ w4.heap.size from N4.out)
        have hs56 := hide (show w5.heap.size ≤ m from hs6.out)
        clear Z
        go_wp2_with fail
        have O2 := hide (O.out.seg (seg3 _ (w.heap.size + 1) (.slice v1 nl.length j1) (.slice v2 nr.length j2) (.slice v3 np.length j3)) (.inr Q0.out))
        have T2 := hide (OS.out.seg (seg3 _ (w.heap.size + 1) (.slice v1 nl.length j1) (.slice v2 nr.length j2) (.slice v3 np.length j3)) (.inr Q2.out))
        exact bodyPost_ret (v := .tuple #[.agg #[.slice v1 nl.length j1, .slice v2 nr.length j2, .slice v3 np.length j3], .slice sg ns.length sk, .bool true]) (by simp [results, Tryz.results134, go_sem, z0, z1, z2]) rfl
          ⟨_, _, _, _, lo, hi, n1, h1, n2, h2, n3, h3, _, _, rfl, ⟨by have := Q0.out; omega, by have := Q2.out; omega⟩, ⟨O2.out.top.2, T2.out.top⟩, O2.out, T2.out, .inr (by have := Q1.out; have := hs56.out; omega), HZ.out.below⟩

end Go.Proofs.YtajfhalalnlejaaGreat

/- l7Crack of the reference: a column is divided at a value, the charge goes into the ledger (promises 4, 6). -/
namespace Go.Proofs.YtajfhalalnlejaaGreat
open Go.RowKit Go.ChangeShapes
set_option linter.unusedSimpArgs false
set_option linter.unusedVariables false
set_option maxRecDepth 100000

/-- The ledger: block lb holds the row sv, which reads as the charges cs. -/
structure LB (w : World) (lb base : Nat) (sv : Value) (cs : List Chg) : Prop where
  box : w.heap[lb]? = some (.cells #[sv] 73 (0, 0))
  row : Lg w base sv cs
  ne : sv.ownBlock ≠ some lb

theorem LB.lt {w : World} {lb base : Nat} {sv : Value} {cs : List Chg} (h : LB w lb base sv cs) : lb < w.heap.size := (Array.getElem?_eq_some_iff.1 h.box).1
theorem LB.below {w w' : World} {lb base : Nat} {sv : Value} {cs : List Chg} (h : LB w lb base sv cs) (hb : Below w.heap.size w w') : LB w' lb base sv cs :=
  ⟨by rw [hb.block _ h.lt]; exact h.box, h.row.below hb, h.ne⟩
theorem LB.cell {w : World} {lb base : Nat} {sv : Value} {cs : List Chg} (h : LB w lb base sv cs) : w.cell? ⟨lb, 0, none⟩ = some sv := by rw [cell_of_row w lb 0 _ _ (0, 0) h.box]; rfl
theorem LB.free {w : World} {lb base : Nat} {sv : Value} {cs : List Chg} (h : LB w lb base sv cs) : w.frozen? ⟨lb, 0, none⟩ = false := frozen_of_row w lb 0 _ _ h.box
/-- Blocks turn that are not the ledger's. -/
theorem LB.only {w w' : World} {lb base : Nat} {sv : Value} {cs : List Chg} {F : List Nat} (h : LB w lb base sv cs) (ho : Only F w w') (h1 : lb ∉ F) (h2 : ∀ g, sv.ownBlock = some g → g ∉ F) : LB w' lb base sv cs :=
  ⟨by rw [ho.block _ h.lt h1]; exact h.box, h.row.keep fun g hg => ho.block g (h.row.lt hg).2 (h2 g hg), h.ne⟩
/-- A store into another block. -/
theorem LB.poke {w : World} {lb base : Nat} {sv : Value} {cs : List Chg} (h : LB w lb base sv cs) {g j : Nat} {x : Value} (h1 : lb ≠ g) (h2 : sv.ownBlock ≠ some g) : LB (w.setCell ⟨g, j, none⟩ x) lb base sv cs :=
  h.only (F := [g]) ((Only.refl _ _).setCell (p := ⟨g, j, none⟩) (by simp) x) (by simpa using h1) (fun b hb hm => h2 (by rw [hb, List.mem_singleton.1 hm]))

/-- The blocks of a ledger. -/
def lbF (lb : Nat) (sv : Value) : List Nat := lb :: sv.ownBlock.toList
theorem lbF_lt {w : World} {lb base : Nat} {sv : Value} {cs : List Chg} (h : LB w lb base sv cs) : ∀ b ∈ lbF lb sv, b < w.heap.size := by
  intro b hb
  rcases List.mem_cons.1 hb with rfl | hb
  · exact h.lt
  · exact (h.row.lt (Option.mem_toList.1 hb)).2

/-- A column of the call's own is returned, the ledger has grown; nothing else that was there has turned. -/
def RetLC (w : World) (lb base : Nat) (sv : Value) (S : PS) (cs : List Chg) (e : Ending) (w' : World) : Prop := ∃ x y z lo hi n1 h1 n2 h2 n3 h3 sv', e = .returned (.agg #[x, y, z]) ∧ w.heap.size ≤ lo ∧ OC w' x y z S.l S.r S.ps lo hi n1 h1 n2 h2 n3 h3 ∧ LB w' lb base sv' cs ∧ (sv'.ownBlock = sv.ownBlock ∨ ∃ g, sv'.ownBlock = some g ∧ hi ≤ g) ∧ Only (lbF lb sv) w w'

/-- append's frame as one of blocks. -/
theorem only_row {W W' : World} {base : Nat} {sv : Value} (hb : Below base W W') (hq : ∀ k, k < W.heap.size → some k ≠ sv.ownBlock → W'.heap[k]? = W.heap[k]?) : Only sv.ownBlock.toList W W' :=
  ⟨hb.mono (Nat.zero_le _), fun b hb hn => hq b hb (fun e => hn (Option.mem_toList.2 e.symm))⟩

set_option maxHeartbeats 8000000 in
theorem l7Crack_any (u : Value) (S : PS) (v q : Int) (lb base : Nat) (sv : Value) (cs : List Chg) (w : World) (n : Nat) (hv : CU w u S.l S.r S.ps) (hwf : Wf S.l S.r S.ps n) (hn : n ≤ 1048576) (hvw : I64 v) (hlg : LB w lb base sv cs) (hcl : cs.length < 1048576) (hbs : base ≤ w.heap.size) :
    Calls Tryz.prog 122 #[u, .int .i64 v, .int .i64 q, .pointer (some ⟨lb, 0, none⟩)] w (RetLC w lb base sv (S.crack v) (cs ++ S.chg v q)) := by
  obtain ⟨a1, c1, a2, c2, a3, c3, rfl, -⟩ := Ck.form hv
  obtain ⟨sa, sc, rfl⟩ := hlg.row.form
  have X := hide ((Kd.one (lbF lb (.slice sa cs.length sc)) w #[.slice a1 S.l.length c1, .slice a2 S.r.length c2, .slice a3 S.ps.length c3] 33).alloc #[.slice none 0 0, .slice none 0 0, .slice none 0 0] 33)
  obtain ⟨w1, hw1⟩ : ∃ w1, w1 = (w.alloc (.cells #[.slice a1 S.l.length c1, .slice a2 S.r.length c2, .slice a3 S.ps.length c3] 33)).alloc (.cells #[.slice none 0 0, .slice none 0 0, .slice none 0 0] 33) := ⟨_, rfl⟩
  have hb1 : Below w.heap.size w w1 := by rw [hw1]; exact below2 _ _ _
  rw [← hw1] at X
  simp only [List.cons_append, List.nil_append, World.size_alloc] at X
  have HF := hide (lbF_lt hlg)
  have LG := hide (hlg.below hb1)
  have V := hide (fun (W : World) (h : Below w.heap.size w W) => hv.below h)
  have HB1 := hide hb1
  have hz := hide (show w1.heap.size = w.heap.size + 2 by rw [hw1]; simp)
  obtain ⟨g1, g2, -⟩ := crack_Wf (v := v) hwf hn hvw
  have HW2 := hide g1
  have hsl := g2
  clear g1 g2 hlg hb1
  have CP := hide (fun (W : World) (h : Below w.heap.size w W) => show Calls Tryz.prog 120 #[.agg #[.slice a1 S.l.length c1, .slice a2 S.r.length c2, .slice a3 S.ps.length c3], .int .i64 v] W (RetII W (S.piece v)) from sPieceOf_any _ S.l S.r S.ps v W W.heap.size (V.out W h) (Nat.le_refl _))
  have CF := hide (fun (W : World) (h : Below w.heap.size w W) => show Calls Tryz.prog 62 #[.agg #[.slice a1 S.l.length c1, .slice a2 S.r.length c2, .slice a3 S.ps.length c3], .int .i64 v] W (RetPB W (fndP S.ps v)) from sFindP_any _ S.l S.r S.ps v W W.heap.size (V.out W h) (Nat.le_refl _))
  have CC := hide (fun (W : World) (h : Below w.heap.size w W) => show Calls Tryz.prog 134 #[.agg #[.slice a1 S.l.length c1, .slice a2 S.r.length c2, .slice a3 S.ps.length c3], .int .i64 v] W (RetOCSB W (S.crack v).l (S.crack v).r (S.crack v).ps (crS S.l S.r S.ps v) (crOk S.l S.r S.ps v)) from sCrack_any _ S.l S.r S.ps v W W.heap.size (V.out W h) (Nat.le_refl _) hwf.1 hwf.2.1 (by have := hwf.2.2.1; omega) hvw)
  have HCH := hide (show S.chg v q = if (crOk S.l S.r S.ps v && !(fndP S.ps v).2) = true then [⟨q, v, (S.piece v).1, (S.piece v).2, ((crS S.l S.r S.ps v).length : Int)⟩] else [] from rfl)
  obtain ⟨T, hT⟩ : ∃ T, T = S.crack v := ⟨_, rfl⟩
  obtain ⟨pc, hpc⟩ : ∃ p, p = S.piece v := ⟨_, rfl⟩
  obtain ⟨fd, hfd⟩ : ∃ p, p = fndP S.ps v := ⟨_, rfl⟩
  obtain ⟨ns, hns⟩ : ∃ p, p = crS S.l S.r S.ps v := ⟨_, rfl⟩
  obtain ⟨ok, hok⟩ : ∃ p, p = crOk S.l S.r S.ps v := ⟨_, rfl⟩
  obtain ⟨ch, hch⟩ : ∃ p, p = S.chg v q := ⟨_, rfl⟩
  rw [← hT, ← hns, ← hok] at CC
  rw [← hpc] at CP
  rw [← hfd] at CF
  rw [← hch, ← hok, ← hfd, ← hpc, ← hns] at HCH
  rw [← hns] at hsl
  have HW2 := hide (show Wf T.l T.r T.ps (n + 1) by rw [hT]; exact HW2.out)
  rw [← hT, ← hch]
  clear hT hpc hfd hns hok hch hv hwf hvw
  obtain ⟨f0, f1⟩ := fd
  obtain ⟨pa, pb⟩ := pc
  simp only at CP CF HCH
  have d0 : w1.cell? ⟨w.heap.size, 0, none⟩ = some (.slice a1 S.l.length c1) := X.out.cell 0 0 rfl rfl
  have d1 : w1.cell? ⟨w.heap.size, 1, none⟩ = some (.slice a2 S.r.length c2) := X.out.cell 0 1 rfl rfl
  have d2 : w1.cell? ⟨w.heap.size, 2, none⟩ = some (.slice a3 S.ps.length c3) := X.out.cell 0 2 rfl rfl
  rw [hw1] at d0 d1 d2
  go_enter Tryz.func122, Tryz.ntmps122
  go_wp2_with fail
  rw [← hw1]
  clear hw1 d0 d1 d2
  go_at_call 120
  refine (CP.out _ HB1.out).mono ?_
  rintro e w2 ⟨rfl, hb⟩
  have HB2 := hide (HB1.out.trans (hb.mono HB1.out.size))
  have X := hide (X.out.up hb)
  have LG := hide (LG.out.below hb)
  clear hb
  have d0 : w2.cell? ⟨w.heap.size, 0, none⟩ = some (.slice a1 S.l.length c1) := X.out.cell 0 0 rfl rfl
  have d1 : w2.cell? ⟨w.heap.size, 1, none⟩ = some (.slice a2 S.r.length c2) := X.out.cell 0 1 rfl rfl
  have d2 : w2.cell? ⟨w.heap.size, 2, none⟩ = some (.slice a3 S.ps.length c3) := X.out.cell 0 2 rfl rfl
  go_wp2_with fail
  clear d0 d1 d2
  go_at_call 62
  refine (CF.out _ HB2.out).mono ?_
  rintro e w3 ⟨rfl, hb⟩
  have HB3 := hide (HB2.out.trans (hb.mono HB2.out.size))
  have X := hide (X.out.up hb)
  have LG := hide (LG.out.below hb)
  clear hb
  have d0 : w3.cell? ⟨w.heap.size, 0, none⟩ = some (.slice a1 S.l.length c1) := X.out.cell 0 0 rfl rfl
  have d1 : w3.cell? ⟨w.heap.size, 1, none⟩ = some (.slice a2 S.r.length c2) := X.out.cell 0 1 rfl rfl
  have d2 : w3.cell? ⟨w.heap.size, 2, none⟩ = some (.slice a3 S.ps.length c3) := X.out.cell 0 2 rfl rfl
  go_wp2_with fail
  clear d0 d1 d2
  have hl3 := hide (X.out.lt 1 rfl)
  go_at_call 134
  refine (CC.out _ HB3.out).mono ?_
  rintro e w4 ⟨x', y', z', ss, lo, hi, n1, h1, n2, h2, n3, h3, slo, shi, rfl, ⟨q1, -⟩, ⟨q2, -⟩, O, Sw, -, hb⟩
  obtain ⟨v1, j1, rfl⟩ := O.x.form
  obtain ⟨v2, j2, rfl⟩ := O.y.form
  obtain ⟨v3, j3, rfl⟩ := O.z.own.form
  obtain ⟨sg, sk, rfl⟩ := Sw.own.form
  have X := hide (X.out.up hb)
  have LG := hide (LG.out.below hb)
  have Q1 := hide (show w.heap.size + 2 ≤ lo by have := hl3.out; omega)
  have O := hide O
  have HX := hide (fun (g : Nat) (e : (Value.slice sa cs.length sc).ownBlock = some g) => HF.out g (List.mem_cons_of_mem _ (Option.mem_toList.2 e)))
  have HLB := hide (HF.out lb (List.mem_cons_self ..))
  have hl4 := hide (show w.heap.size + 1 < w4.heap.size from X.out.lt 1 rfl)
  clear hb q1 q2 Sw hl3
  have bl := below1 w4 (.cells #[.slice v1 T.l.length j1, .slice v2 T.r.length j2, .slice v3 T.ps.length j3] 33)
  have X := hide (X.out.alloc #[.slice v1 T.l.length j1, .slice v2 T.r.length j2, .slice v3 T.ps.length j3] 33)
  have LG := hide (LG.out.below bl)
  have O := hide (O.out.below bl)
  clear bl
  obtain ⟨w5, hw5⟩ : ∃ q, q = w4.alloc (.cells #[.slice v1 T.l.length j1, .slice v2 T.r.length j2, .slice v3 T.ps.length j3] 33) := ⟨_, rfl⟩
  obtain ⟨m, hm⟩ : ∃ q, q = w4.heap.size := ⟨_, rfl⟩
  have HM := hide (show w5.heap.size = m + 1 by rw [hw5, hm]; simp)
  rw [← hw5] at X LG O
  rw [← hm] at X
  simp only [List.cons_append, List.nil_append] at X
  have HLM := hide (show w.heap.size + 1 < m by rw [hm]; exact hl4.out)
  have KS := hide (fun (W : World) (h : Kd (lbF lb (.slice sa cs.length sc)) w W [(w.heap.size, #[.slice a1 S.l.length c1, .slice a2 S.r.length c2, .slice a3 S.ps.length c3], 33), (w.heap.size + 1, #[.slice none 0 0, .slice none 0 0, .slice none 0 0], 33), (m, #[.slice v1 T.l.length j1, .slice v2 T.r.length j2, .slice v3 T.ps.length j3], 33)]) => show W.cell? ⟨m, 0, none⟩ = some (.slice v1 T.l.length j1) ∧ W.cell? ⟨m, 1, none⟩ = some (.slice v2 T.r.length j2) ∧ W.cell? ⟨m, 2, none⟩ = some (.slice v3 T.ps.length j3) ∧ W.cell? ⟨w.heap.size + 1, 0, none⟩ = some (.slice none 0 0) ∧ W.cell? ⟨w.heap.size + 1, 1, none⟩ = some (.slice none 0 0) ∧ W.cell? ⟨w.heap.size + 1, 2, none⟩ = some (.slice none 0 0) ∧ W.frozen? ⟨w.heap.size + 1, 0, none⟩ = false ∧ W.frozen? ⟨w.heap.size + 1, 1, none⟩ = false ∧ W.frozen? ⟨w.heap.size + 1, 2, none⟩ = false from ⟨h.cell 2 0 rfl rfl, h.cell 2 1 rfl rfl, h.cell 2 2 rfl rfl, h.cell 1 0 rfl rfl, h.cell 1 1 rfl rfl, h.cell 1 2 rfl rfl, h.free 1 0 rfl, h.free 1 1 rfl, h.free 1 2 rfl⟩)
  have hne : w.heap.size + 1 ≠ m := by have := HLM.out; omega
  have HLB1 := hide (show lb ≠ w.heap.size + 1 by have := HLB.out; omega)
  have HSV1 := hide (show (Value.slice sa cs.length sc).ownBlock ≠ some (w.heap.size + 1) from fun e => by have := HX.out _ e; omega)
  have HLB1 := hide (show lb ≠ w.heap.size + 1 by have := HLB.out; omega)
  have HSV1 := hide (show (Value.slice sa cs.length sc).ownBlock ≠ some (w.heap.size + 1) from fun e => by have := HX.out _ e; omega)
  have HLB1 := hide (show lb ≠ w.heap.size + 1 by have := HLB.out; omega)
  have HSV1 := hide (show (Value.slice sa cs.length sc).ownBlock ≠ some (w.heap.size + 1) from fun e => by have := HX.out _ e; omega)
  have HLB1 := hide (show lb ≠ w.heap.size + 1 by have := HLB.out; omega)
  have HSV1 := hide (show (Value.slice sa cs.length sc).ownBlock ≠ some (w.heap.size + 1) from fun e => by have := HX.out _ e; omega)
  have HLB1 := hide (show lb ≠ w.heap.size + 1 by have := HLB.out; omega)
  have HSV1 := hide (show (Value.slice sa cs.length sc).ownBlock ≠ some (w.heap.size + 1) from fun e => by have := HX.out _ e; omega)
  have HLB1 := hide (show lb ≠ w.heap.size + 1 by have := HLB.out; omega)
  have HSV1 := hide (show (Value.slice sa cs.length sc).ownBlock ≠ some (w.heap.size + 1) from fun e => by have := HX.out _ e; omega)
  have HLB1 := hide (show lb ≠ w.heap.size + 1 by have := HLB.out; omega)
  have HSV1 := hide (show (Value.slice sa cs.length sc).ownBlock ≠ some (w.heap.size + 1) from fun e => by have := HX.out _ e; omega)
  have HLB1 := hide (show lb ≠ w.heap.size + 1 by have := HLB.out; omega)
  have HSV1 := hide (show (Value.slice sa cs.length sc).ownBlock ≠ some (w.heap.size + 1) from fun e => by have := HX.out _ e; omega)
  cases ok with
  | false =>
    obtain rfl : ch = [] := by rw [HCH.out]; rfl
    obtain ⟨m0, m1, m2, r0, r1, r2, f0', f1', f2'⟩ := KS.out _ X.out
    rw [hw5] at m0 m1 m2 r0 r1 r2 f0' f1' f2'
    go_wp2_with fail
    rw [← hw5]
    try rw [← hm]
    clear hw5 hm m0 m1 m2 r0 r1 r2 f0' f1' f2'
    have Z := ((X.out.set 1 0 rfl (.slice v1 T.l.length j1)).set 1 1 rfl (.slice v2 T.r.length j2)).set 1 2 rfl (.slice v3 T.ps.length j3)
    have z0 := Z.cell 1 0 rfl rfl
    have z1 := Z.cell 1 1 rfl rfl
    have z2 := Z.cell 1 2 rfl rfl
    have O9 := O.out.seg (seg3 _ (w.heap.size + 1) (.slice v1 T.l.length j1) (.slice v2 T.r.length j2) (.slice v3 T.ps.length j3)) (.inr Q1.out)
    have L9 := ((LG.out.poke (g := w.heap.size + 1) (j := 0) (x := .slice v1 T.l.length j1) HLB1.out HSV1.out).poke (g := w.heap.size + 1) (j := 1) (x := .slice v2 T.r.length j2) HLB1.out HSV1.out).poke (g := w.heap.size + 1) (j := 2) (x := .slice v3 T.ps.length j3) HLB1.out HSV1.out
    exact bodyPost_ret (v := .agg #[.slice v1 T.l.length j1, .slice v2 T.r.length j2, .slice v3 T.ps.length j3]) (by simp [results, Tryz.results122, go_sem, z0, z1, z2]) rfl
      ⟨_, _, _, lo, hi, n1, h1, n2, h2, n3, h3, _, rfl, by have := Q1.out; omega, O9, by rw [List.append_nil]; exact L9, .inl rfl, Z.only⟩
  | true =>
    cases f1 with
    | true =>
      obtain rfl : ch = [] := by rw [HCH.out]; rfl
      obtain ⟨m0, m1, m2, r0, r1, r2, f0', f1', f2'⟩ := KS.out _ X.out
      rw [hw5] at m0 m1 m2 r0 r1 r2 f0' f1' f2'
      go_wp2_with fail
      rw [← hw5]
      try rw [← hm]
      clear hw5 hm m0 m1 m2 r0 r1 r2 f0' f1' f2'
      have Z := ((X.out.set 1 0 rfl (.slice v1 T.l.length j1)).set 1 1 rfl (.slice v2 T.r.length j2)).set 1 2 rfl (.slice v3 T.ps.length j3)
      have z0 := Z.cell 1 0 rfl rfl
      have z1 := Z.cell 1 1 rfl rfl
      have z2 := Z.cell 1 2 rfl rfl
      have O9 := O.out.seg (seg3 _ (w.heap.size + 1) (.slice v1 T.l.length j1) (.slice v2 T.r.length j2) (.slice v3 T.ps.length j3)) (.inr Q1.out)
      have L9 := ((LG.out.poke (g := w.heap.size + 1) (j := 0) (x := .slice v1 T.l.length j1) HLB1.out HSV1.out).poke (g := w.heap.size + 1) (j := 1) (x := .slice v2 T.r.length j2) HLB1.out HSV1.out).poke (g := w.heap.size + 1) (j := 2) (x := .slice v3 T.ps.length j3) HLB1.out HSV1.out
      exact bodyPost_ret (v := .agg #[.slice v1 T.l.length j1, .slice v2 T.r.length j2, .slice v3 T.ps.length j3]) (by simp [results, Tryz.results122, go_sem, z0, z1, z2]) rfl
        ⟨_, _, _, lo, hi, n1, h1, n2, h2, n3, h3, _, rfl, by have := Q1.out; omega, O9, by rw [List.append_nil]; exact L9, .inl rfl, Z.only⟩
    | false =>
      obtain rfl : ch = [⟨q, v, pa, pb, (ns.length : Int)⟩] := by rw [HCH.out]; rfl
      have LC := LG.out.cell
      have LF := LG.out.free
      have CHB := below1 w5 (.cells #[.int .i64 q, .int .i64 v, .int .i64 pa, .int .i64 pb, .int .i64 (ns.length : Int)] 129)
      have X6 := hide (X.out.up CHB)
      have O6 := hide (O.out.below CHB)
      have LG6 := hide (LG.out.below CHB)
      have HS6 := hide (show (w5.alloc (.cells #[.int .i64 q, .int .i64 v, .int .i64 pa, .int .i64 pb, .int .i64 (ns.length : Int)] 129)).heap.size = m + 2 by simp [HM.out])
      have HG6 := hide (heap_alloc_new w5 (.cells #[.int .i64 q, .int .i64 v, .int .i64 pa, .int .i64 pb, .int .i64 (ns.length : Int)] 129))
      have LC5 := LC
      have LF5 := LF
      rw [hw5] at LC LF
      clear CHB
      have HTOP := hide (show hi ≤ m + 1 by have := O.out.top.2; have := HM.out; omega)
      have HG7 := hide (show (w5.alloc (.cells #[.int .i64 q, .int .i64 v, .int .i64 pa, .int .i64 pb, .int .i64 (ns.length : Int)] 129)).heap[m + 1]? = some (.cells #[.int .i64 q, .int .i64 v, .int .i64 pa, .int .i64 pb, .int .i64 (ns.length : Int)] 129 (0, 0)) by rw [← HM.out]; exact HG6.out)
      have HNM := hide (show ∀ e ∈ ([(w.heap.size, #[.slice a1 S.l.length c1, .slice a2 S.r.length c2, .slice a3 S.ps.length c3], 33), (w.heap.size + 1, #[.slice none 0 0, .slice none 0 0, .slice none 0 0], 33), (m, #[.slice v1 T.l.length j1, .slice v2 T.r.length j2, .slice v3 T.ps.length j3], 33)] : List (Nat × Array Value × TypeId)), e.1 ∉ (Value.slice sa cs.length sc).ownBlock.toList from fun e he hm' => by have h1 := HX.out _ (Option.mem_toList.1 hm'); have h2 := X.out.high e he; omega)
      have HNL := hide (show ∀ e ∈ ([(w.heap.size, #[.slice a1 S.l.length c1, .slice a2 S.r.length c2, .slice a3 S.ps.length c3], 33), (w.heap.size + 1, #[.slice none 0 0, .slice none 0 0, .slice none 0 0], 33), (m, #[.slice v1 T.l.length j1, .slice v2 T.r.length j2, .slice v3 T.ps.length j3], 33)] : List (Nat × Array Value × TypeId)), e.1 ∉ [lb] from fun e he hm' => by have h1 := HLB.out; have h2 := X.out.high e he; have h3 := List.mem_singleton.1 hm'; omega)
      go_wp2_with (first | (at_builtin; apply Hid.out) | fail)
      refine hide ?_
      obtain ⟨cs2, hcs2⟩ : ∃ zz, zz = cs ++ [(⟨q, v, pa, pb, (ns.length : Int)⟩ : Chg)] := ⟨_, rfl⟩
      rw [← hcs2]
      rw [← hw5]
      try rw [← hm]
      clear hw5 hm LC LF
      refine lg_append_list _ rfl _ _ rfl base (.slice sa cs.length sc) cs LG6.out.row rfl ⟨q, v, pa, pb, (ns.length : Int)⟩ 1 (m + 1) rfl HG7.out (by omega) (by have := HS6.out; have := HLM.out; omega) ?_
      intro v8 w8 hown hbw hq hblk
      rw [← hcs2] at hown
      have HC2 := hide hcs2
      clear hcs2
      obtain ⟨ua8, uc8, rfl⟩ := hown.form
      have OR := only_row hbw hq
      have X8 := hide (X6.out.others OR (fun b hb => .inl (List.mem_cons_of_mem _ hb)) HNM.out)
      have O8 := hide (O6.out.seg (OR.seg (lo := 0) (hi := w.heap.size) (fun b hb => ⟨Nat.zero_le _, HX.out b (Option.mem_toList.1 hb)⟩) (Nat.zero_le _)) (.inr (by have := Q1.out; omega)))
      have B8 := hide ((OR.block lb LG6.out.lt (fun hb => LG6.out.ne (Option.mem_toList.1 hb))).trans LG6.out.box)
      have c8 : w8.cell? ⟨lb, 0, none⟩ = some (.slice sa cs.length sc) := (cell_of_row w8 lb 0 _ _ (0, 0) B8.out).trans rfl
      have f8 : w8.frozen? ⟨lb, 0, none⟩ = false := frozen_of_row w8 lb 0 _ _ B8.out
      have H8 := hide hown
      have HB8 := hide hblk
      clear OR hown hbw hq hblk
      have X9 := hide (X8.out.others (F := [lb]) ((Only.refl [lb] w8).setCell (p := (⟨lb, 0, none⟩ : Addr)) (List.mem_cons_self ..) (.slice ua8 cs2.length uc8)) (fun b hb => .inl (by rw [List.mem_singleton.1 hb]; exact List.mem_cons_self ..)) HNL.out)
      obtain ⟨m0, m1, m2, r0, r1, r2, f0', f1', f2'⟩ := KS.out _ X9.out
      have hne3 : (m : Nat) ≠ lb := by have := HLB.out; have := HLM.out; omega
      have hne4 : w.heap.size + 1 ≠ lb := by have := HLB.out; omega
      have OX := hide (O8.out.seg (Seg.setCell w8 lb 0 (.slice ua8 cs2.length uc8)) (.inr (by have := Q1.out; have := HLB.out; omega)))
      have HB9 := hide (show (Value.slice ua8 cs2.length uc8).ownBlock = (Value.slice sa cs.length sc).ownBlock ∨ (Value.slice ua8 cs2.length uc8).ownBlock = some (m + 2) by have := HB8.out; rwa [HS6.out] at this)
      have HNE9 := hide (show (Value.slice ua8 cs2.length uc8).ownBlock ≠ some lb from fun e => HB9.out.elim (fun h => LG6.out.ne (h.symm.trans e)) (fun h => by have h2 := h.symm.trans e; injection h2 with h2; have := HLB.out; have := HLM.out; omega))
      have HNE8 := hide (show (Value.slice ua8 cs2.length uc8).ownBlock ≠ some (w.heap.size + 1) from fun e => HB9.out.elim (fun h => HSV1.out (h.symm.trans e)) (fun h => by have h2 := h.symm.trans e; injection h2 with h2; have := HLM.out; omega))
      have LX : LB (w8.setCell ⟨lb, 0, none⟩ (.slice ua8 cs2.length uc8)) lb base (.slice ua8 cs2.length uc8) cs2 :=
        ⟨heap_setCell_same w8 lb 0 _ _ (.slice ua8 cs2.length uc8) B8.out, H8.out.keep (fun b hb => heap_setCell_other w8 ⟨lb, 0, none⟩ b _ (fun e => HNE9.out (by rw [hb, e]))), HNE9.out⟩
      have LX := hide LX
      go_wp2_with fail
      have Z := ((X9.out.set 1 0 rfl (.slice v1 T.l.length j1)).set 1 1 rfl (.slice v2 T.r.length j2)).set 1 2 rfl (.slice v3 T.ps.length j3)
      have z0 := Z.cell 1 0 rfl rfl
      have z1 := Z.cell 1 1 rfl rfl
      have z2 := Z.cell 1 2 rfl rfl
      have O9 := OX.out.seg (seg3 _ (w.heap.size + 1) (.slice v1 T.l.length j1) (.slice v2 T.r.length j2) (.slice v3 T.ps.length j3)) (.inr Q1.out)
      have L9 := ((LX.out.poke (g := w.heap.size + 1) (j := 0) (x := .slice v1 T.l.length j1) HLB1.out HNE8.out).poke (g := w.heap.size + 1) (j := 1) (x := .slice v2 T.r.length j2) HLB1.out HNE8.out).poke (g := w.heap.size + 1) (j := 2) (x := .slice v3 T.ps.length j3) HLB1.out HNE8.out
      exact bodyPost_ret (v := .agg #[.slice v1 T.l.length j1, .slice v2 T.r.length j2, .slice v3 T.ps.length j3]) (by simp [results, Tryz.results122, go_sem, z0, z1, z2]) rfl
        ⟨_, _, _, lo, hi, n1, h1, n2, h2, n3, h3, _, rfl, by have := Q1.out; omega, O9, by rw [← HC2.out]; exact L9, (HB9.out.elim .inl (fun h => .inr ⟨_, h, by have := HTOP.out; omega⟩)), Z.only⟩

end Go.Proofs.YtajfhalalnlejaaGreat
