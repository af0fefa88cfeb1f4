/- Several texts in one: LvM, PlN, LvI, PlD, PlE, PlF, Prs, MdW. -/
import Derived.Test.YtfldnjkojdnjcaaMf
import Derived.Test.YtfldnjkojdnjcaaIn
import Derived.Test.YtfldnjkojdnjcaaRng
import Derived.Test.YtfldnjkojdnjcaaKn
import Derived.Maps.Own
import Derived.Deep.RegionHeld3
import Derived.Deep.RegionWith
import Derived.Laws.EntriesVeiled
import Derived.Test.YtfldnjkojdnjcaaCb
import Derived.Test.YtfldnjkojdnjcaaCkQ
import Derived.Test.YtfldnjkojdnjcaaCkT
import Derived.BigQuiet
import Derived.Deep.RegionLaw
import Derived.Test.YtfldnjkojdnjcaaMg
import Derived.Test.YtfldnjkojdnjcaaCe
/- How often a number can be halved, the bound on the swaps, the worst query: in numbers (promise 5). No function of the program. -/
namespace Go.Proofs.Ytfldnjkojdnjcaa
set_option linter.unusedSimpArgs false
set_option linter.unusedVariables false
set_option maxRecDepth 100000

/-- n halved k times. -/
def hv (n : Int) (k : Nat) : Int := n / ((2 ^ k : Nat) : Int)
theorem hv_zero (n : Int) : hv n 0 = n := by simp [hv]
theorem hv_succ (n : Int) (k : Nat) : hv n (k + 1) = hv n k / 2 := by
  unfold hv
  rw [Int.ediv_ediv_of_nonneg (Int.natCast_nonneg _), Nat.pow_succ]
  simp
theorem hv_end {n : Int} (h : n ≤ 1000000) : hv n 20 ≤ 0 := by
  unfold hv
  have : ((2 ^ 20 : Nat) : Int) = 1048576 := by decide
  rw [this]
  omega
theorem hv_le {n m : Int} (hn : n ≤ m) (hm : 0 ≤ m) : ∀ k, hv n k ≤ m
  | 0 => by rw [hv_zero]; exact hn
  | k + 1 => by have := hv_le hn hm k; rw [hv_succ]; omega
theorem hv_ge {n m : Int} (hn : m ≤ n) (hm : m ≤ 0) : ∀ k, m ≤ hv n k
  | 0 => by rw [hv_zero]; exact hn
  | k + 1 => by have := hv_ge hn hm k; rw [hv_succ]; omega

/-- At how many of the first k halvings the number is greater than t. -/
def lvC (n t : Int) : Nat → Nat
  | 0 => 0
  | k + 1 => lvC n t k + (if t < hv n k then 1 else 0)
theorem lvC_le (n t : Int) : ∀ k, lvC n t k ≤ k
  | 0 => Nat.le_refl _
  | k + 1 => by have := lvC_le n t k; rw [lvC]; split <;> omega
theorem lvC_all {n t : Int} : ∀ k, (∀ j, j < k → t < hv n j) → lvC n t k = k
  | 0, _ => rfl
  | k + 1, h => by rw [lvC, lvC_all k (fun j hj => h j (by omega)), if_pos (h k (by omega))]
theorem hv_stop {n t : Int} {k : Nat} (ht : 0 < t) (h : hv n k ≤ t) : ∀ m, hv n (k + m) ≤ t
  | 0 => h
  | m + 1 => by have := hv_stop ht h m; rw [← Nat.add_assoc, hv_succ]; omega
theorem lvC_stop {n t : Int} {k : Nat} (ht : 0 < t) (h : hv n k ≤ t) : ∀ m, lvC n t (k + m) = lvC n t k
  | 0 => rfl
  | m + 1 => by
    have := hv_stop ht h m
    rw [← Nat.add_assoc, lvC, lvC_stop ht h m, if_neg (by omega)]
    rfl

/-- The levels. -/
def lvF (n t : Int) : Int := if 0 < t then (lvC (min n 1000000) t 20 : Nat) else 0
theorem lvF_range (n t : Int) : 0 ≤ lvF n t ∧ lvF n t ≤ 20 := by
  unfold lvF
  split
  · have := lvC_le (min n 1000000) t 20; omega
  · omega
/-- Where all halvings so far were greater and this one is not, their number is the answer. -/
theorem lvF_at {n t : Int} {k : Nat} (ht : 0 < t) (hk : k ≤ 20) (h : ∀ j, j < k → t < hv (min n 1000000) j) (he : hv (min n 1000000) k ≤ t) : lvF n t = (k : Int) := by
  unfold lvF
  rw [if_pos ht, show 20 = k + (20 - k) by omega, lvC_stop ht he, lvC_all k h]

/-- The bound. -/
noncomputable def sbOk (n p t s q : Int) : Bool := decide (0 ≤ n ∧ n ≤ 64) && decide (0 ≤ q ∧ q ≤ 30) && isSet p t s
noncomputable def sbF (n p t s q : Int) : Int := if sbOk n p t s q = true then (if p = 0 then n * q else if p = 1 then n * lvF n t + t * q else n * n + t * q) else 0

/-- The worst of the first k. -/
def wqK (l : List Int) : Nat → Int
  | 0 => -1
  | k + 1 => if wqK l k < 0 ∨ l.getD (wqK l k).toNat 0 < l.getD k 0 then (k : Int) else wqK l k
theorem wqK_range (l : List Int) : ∀ k, -1 ≤ wqK l k ∧ wqK l k < k
  | 0 => ⟨by simp [wqK], by simp [wqK]⟩
  | k + 1 => by have := wqK_range l k; rw [wqK]; split <;> omega
theorem wqK_new {l : List Int} {k : Nat} (h : wqK l k < 0 ∨ l.getD (wqK l k).toNat 0 < l.getD k 0) : wqK l (k + 1) = (k : Int) := by rw [wqK, if_pos h]
theorem wqK_old {l : List Int} {k : Nat} (h : ¬(wqK l k < 0 ∨ l.getD (wqK l k).toNat 0 < l.getD k 0)) : wqK l (k + 1) = wqK l k := by rw [wqK, if_neg h]

end Go.Proofs.Ytfldnjkojdnjcaa

/- The choosers (a map of functions, made anew at each call, and what is found in it); settings, seeds, names: what IsSettings, NextSeed and PolicyName return, of the reference and of the program (promise 4). -/
namespace Go.Proofs.Ytfldnjkojdnjcaa
open Go.RowKit Go.ChangeShapes
open Go.ChangeMaps (setBlock)
set_option linter.unusedSimpArgs false
set_option linter.unusedVariables false
set_option maxRecDepth 100000

theorem Kn.apart {w W : World} {L : List (Nat × Array Value × TypeId)} (h : Kn w W L) (i j : Nat) {g g' : Nat} {c c' : Array Value} {t t' : TypeId} (ho : L[i]? = some (g, c, t)) (ho' : L[j]? = some (g', c', t')) (hij : i ≠ j) : g ≠ g' := by
  intro e
  obtain ⟨hi, e1⟩ := List.getElem?_eq_some_iff.1 ho
  obtain ⟨hj, e2⟩ := List.getElem?_eq_some_iff.1 ho'
  have hl : (L.map (·.1)).length = L.length := List.length_map _
  have h2 := List.pairwise_iff_getElem.1 h.nodup
  rcases Nat.lt_or_gt_of_ne hij with hlt | hlt
  · have := h2 i j (by omega) (by omega) hlt
    simp [e1, e2, e] at this
  · have := h2 j i (by omega) (by omega) hlt
    simp [e1, e2, e] at this

theorem run_insert_new {P : Program} {w : World} {t kt et : TypeId} {q : IntKind} {b clock : Nat} {es : Array MapEntry} {a : Int} {v : Value} (ht : P.underlying t = some (.map kt et)) (hk : P.underlying kt = some (.int q))
    (hb : w.heap[b]? = some (.map es clock)) (hn : Instr.findNow (.int q) (.int q a) es.toList 0 = some none) :
    (Instr.mapUpdate t (.map (some b)) (.int q a) v).run P w = .ok () (setBlock w b (.map (es.push { key := .int q a, val := v, born := clock }) (clock + 1))) := by
  unfold Instr.mapUpdate
  simp only [Sem.run_bind, run_underlying ht, Result.andThen, MapKept.run_getObj_map hb, MapKept.run_checkKey hk (show MapKept.IsKey (.int q) (.int q a) from rfl), MapKept.run_findKey hk hn, MapKept.run_setObj_map _ hb]
  rfl

theorem run_look_int {P : Program} {w : World} {t kt et : TypeId} {q : IntKind} {b clock : Nat} {es : Array MapEntry} {a : Int} {z : Value} {r : Option (Nat × Value)} (c : Bool) (ht : P.underlying t = some (.map kt et)) (hk : P.underlying kt = some (.int q))
    (hz : (zeroValue et).run P w = .ok z w) (hb : w.heap[b]? = some (.map es clock)) (hn : Instr.findNow (.int q) (.int q a) es.toList 0 = some r) :
    (Instr.lookup t (.map (some b)) (.int q a) c).run P w = .ok (if c = true then .tuple #[(r.map (·.2)).getD z, .bool r.isSome] else (r.map (·.2)).getD z) w := by
  unfold Instr.lookup
  simp only [Sem.run_bind, run_underlying ht, Result.andThen, MapKept.run_getObj_map hb, Sem.run_pure, MapKept.run_checkKey hk (show MapKept.IsKey (.int q) (.int q a) from rfl), MapKept.run_findKey hk hn]
  cases r with
  | none => simp only [Sem.run_bind, hz, Result.andThen, Sem.run_pure]; rfl
  | some r => rfl

/-- The names. -/
def nmPlain : ByteArray := ⟨#[112, 108, 97, 105, 110]⟩
def nmCenter : ByteArray := ⟨#[99, 101, 110, 116, 101, 114]⟩
def nmRandom : ByteArray := ⟨#[114, 97, 110, 100, 111, 109]⟩

/-- The entries. -/
def chE : Array MapEntry := #[⟨.int .i64 0, .agg #[.string nmPlain, .func (.func 76) #[] #[]], 0⟩, ⟨.int .i64 1, .agg #[.string nmCenter, .func (.func 76) #[] #[]], 1⟩, ⟨.int .i64 2, .agg #[.string nmRandom, .func (.func 77) #[] #[]], 2⟩]

/-- The choosers are returned. -/
def RetCh (w : World) (e : Ending) (w' : World) : Prop := ∃ b, e = .returned (.map (some b)) ∧ w'.heap[b]? = some (.map chE 3) ∧ w.heap.size ≤ b ∧ Below w.heap.size w w'

theorem setBlock_get {w : World} {b : Nat} {o : Obj} (h : b < w.heap.size) : (setBlock w b o).heap[b]? = some o := by simp [setBlock, h]
theorem setBlock_size {w : World} {b : Nat} {o : Obj} : (setBlock w b o).heap.size = w.heap.size := by simp [setBlock]
theorem setBlock_below {w w' : World} {n b : Nat} {o : Obj} (h : Below n w w') (hb : n ≤ b) : Below n w (setBlock w' b o) :=
  ⟨h.os, h.tape, h.output, by rw [setBlock_size]; exact h.size, fun k hk => by rw [← h.block k hk]; simp [setBlock]; rw [Array.getElem?_setIfInBounds_ne (by omega)]⟩

set_option maxHeartbeats 2000000 in
theorem choosers_any (w : World) : Calls Try.prog 47 #[] w (RetCh w) := by
  have hmm := @run_makeMap Try.prog
  obtain ⟨b, hb⟩ : ∃ b, b = w.heap.size := ⟨_, rfl⟩
  obtain ⟨w1, hw1⟩ : ∃ q, q = w.alloc (.map #[] 0) := ⟨_, rfl⟩
  have g1 : w1.heap[b]? = some (.map #[] 0) := by rw [hw1, hb]; exact heap_alloc_new _ _
  have s1 : w1.heap.size = b + 1 := by rw [hw1, hb]; simp
  have e1 := run_insert_new (P := Try.prog) (v := .agg #[.string nmPlain, .func (.func 76) #[] #[]]) Try.underlying72 Try.underlying3 g1 (a := 0) rfl
  obtain ⟨w2, hw2⟩ : ∃ q, q = setBlock w1 b (.map (#[].push ⟨.int .i64 0, .agg #[.string nmPlain, .func (.func 76) #[] #[]], 0⟩) (0 + 1)) := ⟨_, rfl⟩
  rw [← hw2] at e1
  have g2 : w2.heap[b]? = some (.map (#[].push ⟨.int .i64 0, .agg #[.string nmPlain, .func (.func 76) #[] #[]], 0⟩) (0 + 1)) := by rw [hw2]; exact setBlock_get (by omega)
  have s2 : w2.heap.size = b + 1 := by rw [hw2, setBlock_size, s1]
  have e2 := run_insert_new (P := Try.prog) (v := .agg #[.string nmCenter, .func (.func 76) #[] #[]]) Try.underlying72 Try.underlying3 g2 (a := 1) rfl
  obtain ⟨w3, hw3⟩ : ∃ q, q = setBlock w2 b (.map ((#[].push ⟨.int .i64 0, .agg #[.string nmPlain, .func (.func 76) #[] #[]], 0⟩).push ⟨.int .i64 1, .agg #[.string nmCenter, .func (.func 76) #[] #[]], 0 + 1⟩) (0 + 1 + 1)) := ⟨_, rfl⟩
  rw [← hw3] at e2
  have g3 : w3.heap[b]? = some (.map ((#[].push ⟨.int .i64 0, .agg #[.string nmPlain, .func (.func 76) #[] #[]], 0⟩).push ⟨.int .i64 1, .agg #[.string nmCenter, .func (.func 76) #[] #[]], 0 + 1⟩) (0 + 1 + 1)) := by rw [hw3]; exact setBlock_get (by omega)
  have s3 : w3.heap.size = b + 1 := by rw [hw3, setBlock_size, s2]
  have e3 := run_insert_new (P := Try.prog) (v := .agg #[.string nmRandom, .func (.func 77) #[] #[]]) Try.underlying72 Try.underlying3 g3 (a := 2) rfl
  obtain ⟨w4, hw4⟩ : ∃ q, q = setBlock w3 b (.map (((#[].push ⟨.int .i64 0, .agg #[.string nmPlain, .func (.func 76) #[] #[]], 0⟩).push ⟨.int .i64 1, .agg #[.string nmCenter, .func (.func 76) #[] #[]], 0 + 1⟩).push ⟨.int .i64 2, .agg #[.string nmRandom, .func (.func 77) #[] #[]], 0 + 1 + 1⟩) (0 + 1 + 1 + 1)) := ⟨_, rfl⟩
  rw [← hw4] at e3
  have g4 : w4.heap[b]? = some (.map chE 3) := by rw [hw4]; exact setBlock_get (by omega)
  have hbel : Below w.heap.size w w4 := by
    rw [hw4, hw3, hw2, hw1]
    exact setBlock_below (setBlock_below (setBlock_below (below1 w _) (by omega)) (by omega)) (by omega)
  unfold nmPlain at e1
  unfold nmCenter at e2
  unfold nmRandom at e3
  rw [hw1, hb] at e1
  rw [hb] at e2 e3
  clear g1 g2 g3 s1 s2 s3 hw1 hw2 hw3 hw4
  go_enter Try.func47, Try.ntmps47
  go_wp2_with fail
  go_ret
  subst hb
  exact ⟨_, rfl, g4, Nat.le_refl _, hbel⟩

/-- What is found at a policy: 'v, ok := choosers()[p]'. -/
def chV (p : Int) : Value := if p = 0 then .agg #[.string nmPlain, .func (.func 76) #[] #[]] else if p = 1 then .agg #[.string nmCenter, .func (.func 76) #[] #[]] else if p = 2 then .agg #[.string nmRandom, .func (.func 77) #[] #[]] else .agg #[.string .empty, .nilFunc]
def chK (p : Int) : Bool := decide (0 ≤ p ∧ p ≤ 2)

theorem zeroCh (w : World) : (zeroValue 71).run Try.prog w = .ok (.agg #[.string .empty, .nilFunc]) w := by kernel_rfl

theorem find_ch (p : Int) : Instr.findNow (.int .i64) (.int .i64 p) chE.toList 0 = some (if p = 0 then some (0, chV 0) else if p = 1 then some (1, chV 1) else if p = 2 then some (2, chV 2) else none) := by
  unfold chE
  simp only [Instr.findNow, Instr.sameNow, if_true]
  by_cases h0 : p = 0
  · subst h0; rfl
  by_cases h1 : p = 1
  · subst h1; rfl
  by_cases h2 : p = 2
  · subst h2; rfl
  rw [if_neg h0, if_neg h1, if_neg h2, show (p == 0) = false by simp [h0], show (p == 1) = false by simp [h1], show (p == 2) = false by simp [h2]]

theorem look_ch {w : World} {b : Nat} (h : w.heap[b]? = some (.map chE 3)) (p : Int) (c : Bool) :
    (Instr.lookup 72 (.map (some b)) (.int .i64 p) c).run Try.prog w = .ok (if c = true then .tuple #[chV p, .bool (chK p)] else chV p) w := by
  rw [run_look_int c Try.underlying72 Try.underlying3 (zeroCh w) h (find_ch p)]
  unfold chK
  by_cases h0 : p = 0
  · subst h0; rfl
  by_cases h1 : p = 1
  · subst h1; rfl
  by_cases h2 : p = 2
  · subst h2; rfl
  rw [if_neg h0, if_neg h1, if_neg h2, show decide (0 ≤ p ∧ p ≤ 2) = false from decide_eq_false (by omega)]
  unfold chV
  rw [if_neg h0, if_neg h1, if_neg h2]
  rfl

/-- Settings that came in as an argument of a law. -/
theorem open_st {H : Type} {enc : TypeId × Value → H} {W : World} {base : Nat} {v : Value} {d : DataW H} {p : List MemPlace} (hv : Value.okWide Try.prog W .any base 47 v) (h : DataW.Trod enc Try.prog W 0 (fun _ => true) true 47 v d p) :
    ∃ a b c : Int, v = .agg #[.int .i64 a, .int .i64 b, .int .i64 c] ∧ I64 a ∧ I64 b ∧ I64 c := by
  obtain ⟨v0, v1, v2, y0, y1, y2, n, rfl, _, _, t0, t1, t2⟩ := Joins.open_agg3 Try.underlying47 (by kernel_rfl) (by kernel_rfl) hv h
  obtain ⟨a, ha, _, wa⟩ := DataW.trod_int Try.underlying3 t0
  obtain ⟨b, hb, _, wb⟩ := DataW.trod_int Try.underlying3 t1
  obtain ⟨c, hc, _, wc⟩ := DataW.trod_int Try.underlying3 t2
  simp at ha hb hc
  subst ha; subst hb; subst hc
  have b0 := bounds_i64 wa
  have b1 := bounds_i64 wb
  have b2 := bounds_i64 wc
  exact ⟨a, b, c, rfl, ⟨by omega, by omega⟩, ⟨by omega, by omega⟩, ⟨by omega, by omega⟩⟩

theorem Kn.join {w u W : World} {L M : List (Nat × Array Value × TypeId)} (h : Kn w u L) (k : Kn u W M) : Kn w W (L ++ M) := by
  have h2 := h.up k.below
  refine ⟨h2.below, fun e he => ?_, fun e he => ?_, ?_⟩
  · rcases List.mem_append.1 he with he | he
    · exact h2.hold e he
    · exact k.hold e he
  · rcases List.mem_append.1 he with he | he
    · exact h.high e he
    · exact Nat.le_trans h.below.size (k.high e he)
  · rw [List.map_append, List.nodup_append]
    refine ⟨h.nodup, k.nodup, fun a ha b hb => ?_⟩
    obtain ⟨e, he, rfl⟩ := List.mem_map.1 ha
    obtain ⟨f, hf, rfl⟩ := List.mem_map.1 hb
    have h3 := (Array.getElem?_eq_some_iff.1 (h.hold e he)).1
    have h4 := k.high f hf
    omega

theorem Kn.put2s {w W : World} {g : Nat} {x y : Value} {t : TypeId} (h : Kn w W [(g, #[x, y], t)]) (a b : Value) :
    Kn w ((W.setCell ⟨g, 0, none⟩ a).setCell ⟨g, 1, none⟩ b) [(g, #[a, b], t)] := (h.set 0 0 rfl a).set 0 1 rfl b

/-- A number is returned; nothing turns. -/
def RetI (w : World) (n : Int) (e : Ending) (w' : World) : Prop := e = .returned (.int .i64 n) ∧ w = w'

theorem tmod_pos {n : Int} (h : 0 ≤ n) : n.tmod 10007 = n % 10007 := Int.tmod_eq_emod_of_nonneg h
theorem tmod_neg {n : Int} (h : n < 0) : n.tmod 10007 = -((-n) % 10007) := by
  have := Int.neg_tmod (-n) 10007
  rw [Int.neg_neg] at this
  rw [this, tmod_pos (by omega)]

theorem tmod_in (n : Int) : -10006 ≤ n.tmod 10007 ∧ n.tmod 10007 ≤ 10006 ∧ (n.tmod 10007 = n % 10007 ∨ n.tmod 10007 = n % 10007 - 10007) := by
  by_cases h : 0 ≤ n
  · rw [tmod_pos h]; omega
  · rw [tmod_neg (by omega)]; omega

theorem ns_end {x : Int} (h : 0 ≤ x ∧ x ≤ 10006) : (wrap64 (wrap64 (x * 1103) + 2345)).tmod 10007 = (x * 1103 + 2345) % 10007 := by
  rw [IntWalk.wrap64_in (x * 1103) (by omega), IntWalk.wrap64_in _ (by omega), tmod_pos (by omega)]

theorem ns_s (n : Int) : (wrap64 (wrap64 ((wrap64 (n.tmod 10007 + 10007)).tmod 10007 * 1103) + 2345)).tmod 10007 = nsF n := by
  have h := tmod_in n
  rw [IntWalk.wrap64_in (n.tmod 10007 + 10007) (by omega), tmod_pos (n := n.tmod 10007 + 10007) (by omega), show (n.tmod 10007 + 10007) % 10007 = n % 10007 by omega, ns_end (by omega)]
  rfl

theorem ns_i {n : Int} (hn : n.tmod 10007 < 0) : (wrap64 (wrap64 (wrap64 (n.tmod 10007 + 10007) * 1103) + 2345)).tmod 10007 = nsF n := by
  have h := tmod_in n
  rw [IntWalk.wrap64_in (n.tmod 10007 + 10007) (by omega), ns_end (by omega), show n.tmod 10007 + 10007 = n % 10007 by omega]
  rfl

theorem ns_j {n : Int} (hn : 0 ≤ n.tmod 10007) : (wrap64 (wrap64 (n.tmod 10007 * 1103) + 2345)).tmod 10007 = nsF n := by
  have h := tmod_in n
  rw [ns_end (by omega), show n.tmod 10007 = n % 10007 by omega]
  rfl

theorem sNext_any (n : Int) (w : World) : Calls Try.prog 21 #[.int .i64 n] w (RetI w (nsF n)) := by
  go_enter Try.func21, Try.ntmps21
  go_wp2_with fail
  go_ret
  exact ⟨by rw [← ns_s n]; rfl, rfl⟩

theorem iNext_any (n : Int) (w : World) : Calls Try.prog 18 #[.int .i64 n] w (RetI w (nsF n)) := by
  by_cases h : n.tmod 10007 < 0
  · go_enter Try.func18, Try.ntmps18
    go_wp2_with fail
    go_ret
    exact ⟨by rw [← ns_i h]; rfl, rfl⟩
  · go_enter Try.func18, Try.ntmps18
    go_wp2_with fail
    go_ret
    exact ⟨by rw [← ns_j h]; rfl, rfl⟩

/-- Settings are returned; nothing that was there has turned. -/
def RetSt (w : World) (a b c : Int) (e : Ending) (w' : World) : Prop := e = .returned (.agg #[.int .i64 a, .int .i64 b, .int .i64 c]) ∧ Below w.heap.size w w'

theorem toSettings_any (a b c : Int) (w : World) : Calls Try.prog 28 #[.agg #[.int .i64 a, .int .i64 b, .int .i64 c]] w (RetSt w a b c) := by
  go_enter Try.func28, Try.ntmps28
  go_wp2_with fail
  exact bodyPost_ret (v := .agg #[.int .i64 a, .int .i64 b, .int .i64 c]) (by simp [results, Try.results28, go_sem]) rfl ⟨rfl, (below1 _ _).trans ((below1 _ _).mono (by simp) |>.trans ((below1 _ _).mono (by simp; omega)))⟩

theorem eqSettings_same (a b c : Int) (w : World) : Calls Try.prog 31 #[.agg #[.int .i64 a, .int .i64 b, .int .i64 c], .agg #[.int .i64 a, .int .i64 b, .int .i64 c]] w (RetB1 w true) := by
  have h1 : (a != a) = false := by simp
  have h2 : (b != b) = false := by simp
  have h3 : (c != c) = false := by simp
  go_enter Try.func31, Try.ntmps31
  go_wp2_with fail
  go_ret
  exact ⟨rfl, (below1 _ _).trans ((below1 _ _).mono (by simp))⟩

set_option maxHeartbeats 2000000 in
theorem sIsSet_any (p t s : Int) (w : World) : Calls Try.prog 49 #[.agg #[.int .i64 p, .int .i64 t, .int .i64 s]] w (RetB1 w (isSet p t s)) := by
  by_cases h1 : 0 ≤ p ∧ p ≤ 2
  · by_cases h2 : 1 ≤ t ∧ t ≤ 64
    · by_cases h3 : 0 ≤ s ∧ s ≤ 10006
      · have e : isSet p t s = true := decide_eq_true (by omega)
        rw [e]
        clear e
        go_enter Try.func49, Try.ntmps49
        go_wp2_with fail
        refine (in_yes _ _ _ _ h1.1 h1.2).mono ?_
        rintro e w1 ⟨rfl, rfl⟩
        go_wp2_with fail
        refine (in_yes _ _ _ _ h2.1 h2.2).mono ?_
        rintro e w1 ⟨rfl, rfl⟩
        go_wp2_with fail
        refine (in_yes _ _ _ _ h3.1 h3.2).mono ?_
        rintro e w1 ⟨rfl, rfl⟩
        go_wp2_with fail
        go_ret
        exact ⟨rfl, below1 _ _⟩
      · have e : isSet p t s = false := decide_eq_false (by omega)
        rw [e]
        clear e
        go_enter Try.func49, Try.ntmps49
        go_wp2_with fail
        refine (in_yes _ _ _ _ h1.1 h1.2).mono ?_
        rintro e w1 ⟨rfl, rfl⟩
        go_wp2_with fail
        refine (in_yes _ _ _ _ h2.1 h2.2).mono ?_
        rintro e w1 ⟨rfl, rfl⟩
        go_wp2_with fail
        refine (in_no _ _ _ _ (by omega)).mono ?_
        rintro e w1 ⟨rfl, rfl⟩
        go_wp2_with fail
        go_ret
        exact ⟨rfl, below1 _ _⟩
    · have e : isSet p t s = false := decide_eq_false (by omega)
      rw [e]
      clear e
      go_enter Try.func49, Try.ntmps49
      go_wp2_with fail
      refine (in_yes _ _ _ _ h1.1 h1.2).mono ?_
      rintro e w1 ⟨rfl, rfl⟩
      go_wp2_with fail
      refine (in_no _ _ _ _ (by omega)).mono ?_
      rintro e w1 ⟨rfl, rfl⟩
      go_wp2_with fail
      go_ret
      exact ⟨rfl, below1 _ _⟩
  · have e : isSet p t s = false := decide_eq_false (by omega)
    rw [e]
    clear e
    go_enter Try.func49, Try.ntmps49
    go_wp2_with fail
    refine (in_no _ _ _ _ (by omega)).mono ?_
    rintro e w1 ⟨rfl, rfl⟩
    go_wp2_with fail
    go_ret
    exact ⟨rfl, below1 _ _⟩

/-- The name of a policy. -/
def polN (p : Int) : ByteArray := if p = 0 then nmPlain else if p = 1 then nmCenter else if p = 2 then nmRandom else .empty

theorem chV_form (p : Int) : (∃ n, chV p = .agg #[.string (polN p), .func (.func n) #[] #[]]) ∨ chV p = .agg #[.string (polN p), .nilFunc] := by
  unfold chV polN
  by_cases h0 : p = 0
  · exact .inl ⟨_, by rw [if_pos h0, if_pos h0]⟩
  by_cases h1 : p = 1
  · exact .inl ⟨_, by rw [if_neg h0, if_neg h0, if_pos h1, if_pos h1]⟩
  by_cases h2 : p = 2
  · exact .inl ⟨_, by rw [if_neg h0, if_neg h0, if_neg h1, if_neg h1, if_pos h2, if_pos h2]⟩
  exact .inr (by rw [if_neg h0, if_neg h0, if_neg h1, if_neg h1, if_neg h2, if_neg h2])

theorem field0_ch (x : ByteArray) (y : Value) (W : World) : (Instr.field 71 (.agg #[.string x, y]) 0).run Try.prog W = .ok (.string x) W := by kernel_rfl
theorem field1_chf (x : ByteArray) (n : FuncId) (W : World) : (Instr.field 71 (.agg #[.string x, .func (.func n) #[] #[]]) 1).run Try.prog W = .ok (.func (.func n) #[] #[]) W := by kernel_rfl

set_option maxHeartbeats 4000000 in
theorem iIsSet_any (p t s : Int) (w : World) : Calls Try.prog 46 #[.agg #[.int .i64 p, .int .i64 t, .int .i64 s]] w (RetB1 w (isSet p t s)) := by
  have X := hide (Kn.one w #[.int .i64 p, .int .i64 t, .int .i64 s] 32)
  obtain ⟨w1, hw1⟩ : ∃ w1, w1 = w.alloc (.cells #[.int .i64 p, .int .i64 t, .int .i64 s] 32) := ⟨_, rfl⟩
  rw [← hw1] at X
  have c0 : w1.cell? ⟨w.heap.size, 0, none⟩ = some (.int .i64 p) := X.out.cell 0 0 rfl rfl
  rw [hw1] at c0
  obtain ⟨r, hr⟩ : ∃ r, r = isSet p t s := ⟨_, rfl⟩
  have HR := hide hr
  rw [← hr]
  clear hr
  go_enter Try.func46, Try.ntmps46
  go_upto_region 1 with fail
  rw [← hw1]
  rw [← hw1] at c0
  clear hw1
  go_cut [4] (fun x wx => x = .bool (chK p) ∧ Hid (Kn w wx [(w.heap.size, #[.int .i64 p, .int .i64 t, .int .i64 s], 32)]))
  case first =>
    have KS := hide (fun (w' : World) (M : List (Nat × Array Value × TypeId)) (h : Kn w1 w' M) => show w'.cell? ⟨w.heap.size, 0, none⟩ = some (.int .i64 p) from (Kn.join X.out h).cell 0 0 rfl rfl)
    have Y0 := hide (Kn.start w1)
    have Y := hide (Y0.out.drew)
    clear c0
    have c0 := KS.out _ _ Y.out
    rcases chV_form p with ⟨n, hf⟩ | hf
    · have HF := hide hf
      clear hf
      go_region_held3 (fun w' => w'.cell? ⟨w.heap.size, 0, none⟩ = some (.int .i64 p)) (first | with_reducible exact KS.out _ _ Y.out | with_reducible exact KS.out _ _ (Y.out.alloc _ _) | with_reducible exact KS.out _ _ (Y0.out.alloc _ _).drew | with_reducible exact KS.out _ _ (Kn.put2s Y.out _ _) | go_keep) (first
        | (go_at_call 47; refine (choosers_any _).mono ?_; rintro e wq ⟨b, rfl, hb, hlo, hbel⟩; have hlk := look_ch hb p true; rw [if_pos rfl, HF.out] at hlk; have hlk2 := look_ch (w := wq.alloc (.cells #[.string ⟨#[]⟩, .nilFunc] 71)) ((heap_alloc_old _ _ (by exact (Array.getElem?_eq_some_iff.1 hb).1)).trans hb) p true; rw [if_pos rfl, HF.out] at hlk2; (first | replace Y := hide (by with_reducible exact Y.out.up hbel) | replace Y := hide (by with_reducible exact Y.out.upA hbel) | replace Y := hide (by with_reducible exact Y0.out.upD hbel)); clear c0; have c0 := KS.out _ _ Y.out; (first | (have e0 := Y.out.cell 0 0 rfl rfl; have e1 := Y.out.cell 0 1 rfl rfl; have f0 := Y.out.free 0 0 rfl; have f1 := Y.out.free 0 1 rfl) | skip)))
      all_goals go_wp2_with fail
      all_goals go_meet
      all_goals first | exact ⟨rfl, hide (X.out.up (Y.out.alloc _ _).below)⟩ | exact ⟨rfl, hide (X.out.up (Kn.put2s Y.out _ _).below)⟩
    · have HF := hide hf
      clear hf
      go_region_held3 (fun w' => w'.cell? ⟨w.heap.size, 0, none⟩ = some (.int .i64 p)) (first | with_reducible exact KS.out _ _ Y.out | with_reducible exact KS.out _ _ (Y.out.alloc _ _) | with_reducible exact KS.out _ _ (Y0.out.alloc _ _).drew | with_reducible exact KS.out _ _ (Kn.put2s Y.out _ _) | go_keep) (first
        | (go_at_call 47; refine (choosers_any _).mono ?_; rintro e wq ⟨b, rfl, hb, hlo, hbel⟩; have hlk := look_ch hb p true; rw [if_pos rfl, HF.out] at hlk; have hlk2 := look_ch (w := wq.alloc (.cells #[.string ⟨#[]⟩, .nilFunc] 71)) ((heap_alloc_old _ _ (by exact (Array.getElem?_eq_some_iff.1 hb).1)).trans hb) p true; rw [if_pos rfl, HF.out] at hlk2; (first | replace Y := hide (by with_reducible exact Y.out.up hbel) | replace Y := hide (by with_reducible exact Y.out.upA hbel) | replace Y := hide (by with_reducible exact Y0.out.upD hbel)); clear c0; have c0 := KS.out _ _ Y.out; (first | (have e0 := Y.out.cell 0 0 rfl rfl; have e1 := Y.out.cell 0 1 rfl rfl; have f0 := Y.out.free 0 0 rfl; have f1 := Y.out.free 0 1 rfl) | skip)))
      all_goals go_wp2_with fail
      all_goals go_meet
      all_goals first | exact ⟨rfl, hide (X.out.up (Y.out.alloc _ _).below)⟩ | exact ⟨rfl, hide (X.out.up (Kn.put2s Y.out _ _).below)⟩
  case rest =>
    obtain ⟨rfl, X⟩ := hcut
    have c0 : wc.cell? ⟨w.heap.size, 0, none⟩ = some (.int .i64 p) := X.out.cell 0 0 rfl rfl
    have c1 : wc.cell? ⟨w.heap.size, 1, none⟩ = some (.int .i64 t) := X.out.cell 0 1 rfl rfl
    have c2 : wc.cell? ⟨w.heap.size, 2, none⟩ = some (.int .i64 s) := X.out.cell 0 2 rfl rfl
    by_cases h1 : 0 ≤ p ∧ p ≤ 2
    · have e1 : chK p = true := decide_eq_true h1
      rw [e1]
      by_cases h2 : 1 ≤ t
      · by_cases h3 : t ≤ 64
        · by_cases h4 : 0 ≤ s
          · by_cases h5 : s < 10007
            · have e : isSet p t s = true := decide_eq_true (by omega)
              obtain rfl := HR.out.trans e
              clear e e1 HR
              go_wp2_with fail
              go_ret
              exact ⟨rfl, X.out.below⟩
            · have e : isSet p t s = false := decide_eq_false (by omega)
              obtain rfl := HR.out.trans e
              clear e e1 HR
              go_wp2_with fail
              go_ret
              exact ⟨rfl, X.out.below⟩
          · have e : isSet p t s = false := decide_eq_false (by omega)
            obtain rfl := HR.out.trans e
            clear e e1 HR
            go_wp2_with fail
            go_ret
            exact ⟨rfl, X.out.below⟩
        · have e : isSet p t s = false := decide_eq_false (by omega)
          obtain rfl := HR.out.trans e
          clear e e1 HR
          go_wp2_with fail
          go_ret
          exact ⟨rfl, X.out.below⟩
      · have e : isSet p t s = false := decide_eq_false (by omega)
        obtain rfl := HR.out.trans e
        clear e e1 HR
        go_wp2_with fail
        go_ret
        exact ⟨rfl, X.out.below⟩
    · have e1 : chK p = false := decide_eq_false h1
      rw [e1]
      have e : isSet p t s = false := decide_eq_false (by omega)
      obtain rfl := HR.out.trans e
      clear e e1 HR
      go_wp2_with fail
      go_ret
      exact ⟨rfl, X.out.below⟩

end Go.Proofs.Ytfldnjkojdnjcaa

/- What Levels and SwapBound return, of the reference and of the program (promise 5). -/
namespace Go.Proofs.Ytfldnjkojdnjcaa
open Go.RowKit Go.ChangeShapes
set_option linter.unusedSimpArgs false
set_option linter.unusedVariables false
set_option maxRecDepth 100000

theorem hv_range {n : Int} (h : I64 n) (k : Nat) : -9223372036854775808 ≤ hv (min n 1000000) k ∧ hv (min n 1000000) k ≤ 1000000 :=
  ⟨hv_ge (by have := h.1; omega) (by omega) k, hv_le (by omega) (by omega) k⟩

theorem hv_tdiv {x t : Int} (ht : 0 < t) (h : t < x) : x.tdiv 2 = x / 2 := Int.tdiv_eq_ediv_of_nonneg (by omega)

set_option maxHeartbeats 1000000 in
theorem sLev_any (n t : Int) (w : World) (hn : I64 n) (ht : I64 t) :
    Calls Try.prog 20 #[.int .i64 n, .int .i64 t] w fun e w' => e = .returned (.int .i64 (lvF n t)) ∧ w = w' := by
  have HR := hide (fun k => hv_range hn k)
  have HE := hide (fun (k : Nat) (h1 : 0 < t) (h2 : k ≤ 20) h3 h4 => lvF_at (n := n) (k := k) h1 h2 h3 h4)
  have H0 := hide (fun (h : t ≤ 0) => show lvF n t = 0 by unfold lvF; rw [if_neg (by omega)])
  have HS := hide (fun k => hv_succ (min n 1000000) k)
  have HZ := hide (hv_zero (min n 1000000))
  have HX := hide (hv_end (n := min n 1000000) (by omega))
  obtain ⟨m, hm⟩ : ∃ m, m = min n 1000000 := ⟨_, rfl⟩
  obtain ⟨r, hr⟩ : ∃ r, r = lvF n t := ⟨_, rfl⟩
  rw [← hm] at HR HE HS HZ HX
  rw [← hr] at HE H0 ⊢
  have HM := hide hm
  clear hn hr hm
  go_enter Try.func20, Try.ntmps20
  go_wp2_with fail
  try rw [← HM.out]
  go_loopw [5, 6] (fun kk x wr => ∃ k : Nat, k ≤ 20 ∧ kk = .int .i64 (k : Int) ∧ x = .int .i64 (hv m k) ∧ (k = 0 ∨ 0 < t) ∧ (∀ j, j < k → t < hv m j) ∧ wr = w) (fun kk _ _ => 20 - (intOf kk).toNat)
  case atStart => exact ⟨0, by omega, rfl, by rw [HZ.out], .inl rfl, by intro j hj; omega, rfl⟩
  case round =>
    obtain ⟨k, hk, rfl, rfl, hz, hall, rfl⟩ := hrel
    have hall := hide hall
    have hs := HS.out k
    have hx := HX.out
    have hrr := HR.out k
    obtain ⟨x, hxx⟩ : ∃ x, x = hv m k := ⟨_, rfl⟩
    by_cases h1 : t < hv m k
    · by_cases h2 : 0 < t
      · have hk20 : k < 20 := by
          rcases Nat.lt_or_ge k 20 with h | h
          · exact h
          · have : k = 20 := by omega
            subst this
            omega
        rw [← hxx] at h1 hs hrr
        have t1 : decide (t < x) = true := decide_eq_true h1
        have t2 : decide (0 < t) = true := decide_eq_true h2
        have hd := hv_tdiv h2 h1
        have hw : wrap64 (x / 2) = x / 2 := IntWalk.wrap64_in _ (by omega)
        rw [← hxx]
        have hall2 := hide (show ∀ j, j < k + 1 → t < hv m j by
          intro j hj
          rcases Nat.lt_or_ge j k with h | h
          · exact hall.out j h
          · have : j = k := by omega
            subst this
            rw [← hxx]; exact h1)
        have hs := hide hs
        clear hall hrr hxx hx h1
        go_wp2_with fail
        exact ⟨⟨k + 1, by omega, by go_num, by rw [hs.out, hw], .inr h2, hall2.out, trivial⟩, by simp [intOf]; omega⟩
      · rw [← hxx] at h1
        rw [← hxx]
        have t1 : decide (t < x) = true := decide_eq_true h1
        have t2 : decide (0 < t) = false := decide_eq_false h2
        have hk0 : k = 0 := by omega
        have e := H0.out (by omega)
        clear hall hs hx hrr hxx
        subst hk0
        go_wp2_with fail
        go_ret
        exact ⟨rfl, rfl⟩
    · have hle : hv m k ≤ t := by omega
      rw [← hxx] at h1
      have t1 : decide (t < x) = false := decide_eq_false h1
      have e : r = (k : Int) := by
        rcases Int.lt_or_le 0 t with h | h
        · exact HE.out k h hk hall.out hle
        · have : k = 0 := by omega
          rw [this]
          exact H0.out h
      rw [← hxx]
      clear hall hs hx hrr hxx
      go_wp2_with fail
      go_ret
      exact ⟨rfl, rfl⟩

theorem shr_hv (m : Int) (k : Nat) : hv m k = m / 2 ^ k := by
  unfold hv
  simp

set_option maxHeartbeats 1000000 in
theorem iLev_any (n t : Int) (w : World) (hn : I64 n) (ht : I64 t) :
    Calls Try.prog 19 #[.int .i64 n, .int .i64 t] w fun e w' => e = .returned (.int .i64 (lvF n t)) ∧ w = w' := by
  by_cases h0 : t ≤ 0
  · have t1 : decide (t ≤ 0) = true := decide_eq_true h0
    have e : lvF n t = 0 := by unfold lvF; rw [if_neg (by omega)]
    rw [e]
    clear e
    go_enter Try.func19, Try.ntmps19
    go_wp2_with fail
    go_ret
    exact ⟨rfl, rfl⟩
  have t1 : decide (t ≤ 0) = false := decide_eq_false h0
  have HL := hide (fun k => lvC_le (min n 1000000) t k)
  have HC := hide (show ∀ k, lvC (min n 1000000) t (k + 1) = lvC (min n 1000000) t k + (if t < hv (min n 1000000) k then 1 else 0) from fun k => rfl)
  have HE := hide (show lvF n t = (lvC (min n 1000000) t 20 : Nat) by unfold lvF; rw [if_pos (by omega)])
  have HR := hide (fun k => hv_range hn k)
  obtain ⟨m, hm⟩ : ∃ m, m = min n 1000000 := ⟨_, rfl⟩
  obtain ⟨r, hr⟩ : ∃ r, r = lvF n t := ⟨_, rfl⟩
  rw [← hm] at HL HC HE HR
  rw [← hr] at HE ⊢
  have HM := hide hm
  clear hn hr hm h0
  go_enter Try.func19, Try.ntmps19
  go_wp2_with fail
  try rw [← HM.out]
  go_loopw [5, 11] (fun kk x wr => ∃ k : Nat, k ≤ 20 ∧ x = .int .i64 (k : Int) ∧ kk = .int .i64 ((lvC m t k : Nat) : Int) ∧ wr = w) (fun _ x _ => 20 - (intOf x).toNat)
  case atStart => exact ⟨0, by omega, rfl, rfl, rfl⟩
  case round =>
    obtain ⟨k, hk, rfl, rfl, rfl⟩ := hrel
    have hc := HC.out k
    have hl := HL.out k
    have hsh := shr_hv m k
    obtain ⟨c, hcc⟩ : ∃ c, c = lvC m t k := ⟨_, rfl⟩
    rw [← hcc] at hc hl ⊢
    by_cases hlt : k < 20
    · rw [hsh] at hc
      clear hsh hcc
      by_cases h1 : t < m / 2 ^ k
      · rw [if_pos h1] at hc
        have t2 : decide (t < m / 2 ^ k) = true := decide_eq_true h1
        have hc := hide hc
        clear h1
        go_wp2_with fail
        exact ⟨⟨k + 1, by omega, by go_num, by rw [hc.out]; go_num, trivial⟩, by simp [intOf]; omega⟩
      · rw [if_neg h1] at hc
        have t2 : decide (t < m / 2 ^ k) = false := decide_eq_false h1
        have hc := hide hc
        clear h1
        go_wp2_with fail
        exact ⟨⟨k + 1, by omega, by go_num, by rw [hc.out]; go_num, trivial⟩, by simp [intOf]; omega⟩
    · have hk20 : k = 20 := by omega
      subst hk20
      clear hc hl hsh
      have HE := HE.out
      rw [← hcc] at HE
      clear hcc
      go_wp2_with fail
      go_ret
      exact ⟨by rw [HE]; rfl, rfl⟩

theorem mulw {a b : Int} (ha : 0 ≤ a ∧ a ≤ 64) (hb : 0 ≤ b ∧ b ≤ 64) : 0 ≤ a * b ∧ a * b ≤ 4096 :=
  ⟨Int.mul_nonneg ha.1 hb.1, by have := Int.mul_le_mul ha.2 hb.2 hb.1 (by omega : (0:Int) ≤ 64); omega⟩

set_option maxHeartbeats 4000000 in
theorem sSb_any (n p t s q : Int) (w : World) (hn : I64 n) (ht : I64 t) :
    Calls Try.prog 34 #[.int .i64 n, .agg #[.int .i64 p, .int .i64 t, .int .i64 s], .int .i64 q] w (RetI1 w (sbF n p t s q)) := by
  obtain ⟨z, hz⟩ : ∃ z, z = isSet p t s := ⟨_, rfl⟩
  have CS := hide (fun (W : World) => show Calls Try.prog 49 #[.agg #[.int .i64 p, .int .i64 t, .int .i64 s]] W (RetB1 W z) by rw [hz]; exact sIsSet_any p t s W)
  have CL := hide (fun (W : World) => sLev_any n t W hn ht)
  have HLR := hide (lvF_range n t)
  obtain ⟨lv, hlv⟩ : ∃ z, z = lvF n t := ⟨_, rfl⟩
  obtain ⟨rs, hrs⟩ : ∃ z, z = sbF n p t s q := ⟨_, rfl⟩
  have NO := hide (fun (h : ¬((0 ≤ n ∧ n ≤ 64) ∧ (0 ≤ q ∧ q ≤ 30) ∧ z = true)) => show rs = 0 by
    rw [hrs]; unfold sbF sbOk
    rw [if_neg (by rw [← hz]; simp only [Bool.and_eq_true, decide_eq_true_eq]; intro h2; exact h ⟨h2.1.1, h2.1.2, h2.2⟩)])
  have YES := hide (fun (h : (0 ≤ n ∧ n ≤ 64) ∧ (0 ≤ q ∧ q ≤ 30) ∧ z = true) => show rs = (if p = 0 then n * q else if p = 1 then n * lv + t * q else n * n + t * q) by
    rw [hrs, hlv]; unfold sbF sbOk
    rw [if_pos (by rw [← hz]; simp only [Bool.and_eq_true, decide_eq_true_eq]; exact ⟨⟨h.1, h.2.1⟩, h.2.2⟩)])
  have HT := hide (fun (h : z = true) => show 0 ≤ p ∧ p ≤ 2 ∧ 1 ≤ t ∧ t ≤ 64 by
    have := of_decide_eq_true (hz.symm.trans h)
    exact ⟨this.1, this.2.1, this.2.2.1, this.2.2.2.1⟩)
  rw [← hlv] at CL HLR
  rw [← hrs]
  clear hz hlv hrs hn ht
  have X := hide (Kn.one w #[.int .i64 p, .int .i64 t, .int .i64 s] 32)
  obtain ⟨w1, hw1⟩ : ∃ w1, w1 = w.alloc (.cells #[.int .i64 p, .int .i64 t, .int .i64 s] 32) := ⟨_, rfl⟩
  rw [← hw1] at X
  have c0 : w1.cell? ⟨w.heap.size, 0, none⟩ = some (.int .i64 p) := X.out.cell 0 0 rfl rfl
  have c1 : w1.cell? ⟨w.heap.size, 1, none⟩ = some (.int .i64 t) := X.out.cell 0 1 rfl rfl
  have c2 : w1.cell? ⟨w.heap.size, 2, none⟩ = some (.int .i64 s) := X.out.cell 0 2 rfl rfl
  rw [hw1] at c0 c1 c2
  by_cases hn64 : 0 ≤ n ∧ n ≤ 64
  · have CB := hide (fun (W : World) => in_yes n 0 64 W hn64.1 hn64.2)
    go_enter Try.func34, Try.ntmps34
    go_wp2_with fail
    rw [← hw1]
    clear hw1 c0 c1 c2
    go_at_call 56
    refine (CB.out _).mono ?_
    rintro e wq ⟨rfl, rfl⟩
    have c0 : w1.cell? ⟨w.heap.size, 0, none⟩ = some (.int .i64 p) := X.out.cell 0 0 rfl rfl
    have c1 : w1.cell? ⟨w.heap.size, 1, none⟩ = some (.int .i64 t) := X.out.cell 0 1 rfl rfl
    have c2 : w1.cell? ⟨w.heap.size, 2, none⟩ = some (.int .i64 s) := X.out.cell 0 2 rfl rfl
    go_wp2_with fail
    clear c0 c1 c2
    go_at_call 49
    refine (CS.out _).mono ?_
    rintro e w2 ⟨rfl, hb⟩
    have X := hide (X.out.up hb)
    clear hb
    have c0 : w2.cell? ⟨w.heap.size, 0, none⟩ = some (.int .i64 p) := X.out.cell 0 0 rfl rfl
    have c1 : w2.cell? ⟨w.heap.size, 1, none⟩ = some (.int .i64 t) := X.out.cell 0 1 rfl rfl
    have c2 : w2.cell? ⟨w.heap.size, 2, none⟩ = some (.int .i64 s) := X.out.cell 0 2 rfl rfl
    cases z with
    | false =>
      obtain rfl : rs = 0 := NO.out (by simp)
      go_wp2_with fail
      go_ret
      exact ⟨rfl, X.out.below⟩
    | true =>
      by_cases hq30 : 0 ≤ q ∧ q ≤ 30
      · have CQ := hide (fun (W : World) => in_yes q 0 30 W hq30.1 hq30.2)
        go_wp2_with fail
        go_at_call 56
        refine (CQ.out _).mono ?_
        rintro e wq ⟨rfl, rfl⟩
        obtain ⟨pb1, pb2, tb1, tb2⟩ := HT.out (by simp)
        have hlr := HLR.out
        have e := YES.out ⟨hn64, hq30, by simp⟩
        have m1 := mulw (a := n) (b := q) (by omega) (by omega)
        have m2 := mulw (a := n) (b := lv) (by omega) (by omega)
        have m3 := mulw (a := t) (b := q) (by omega) (by omega)
        have m4 := mulw (a := n) (b := n) (by omega) (by omega)
        obtain ⟨n1, hn1⟩ : ∃ x, x = n * q := ⟨_, rfl⟩
        obtain ⟨n2, hn2⟩ : ∃ x, x = n * lv := ⟨_, rfl⟩
        obtain ⟨n3, hn3⟩ : ∃ x, x = t * q := ⟨_, rfl⟩
        obtain ⟨n4, hn4⟩ : ∃ x, x = n * n := ⟨_, rfl⟩
        rw [← hn1, ← hn2, ← hn3, ← hn4] at e
        rw [← hn1] at m1
        rw [← hn2] at m2
        rw [← hn3] at m3
        rw [← hn4] at m4
        have q1 : wrap64 n1 = n1 := IntWalk.wrap64_in _ (by omega)
        have q2 : wrap64 n2 = n2 := IntWalk.wrap64_in _ (by omega)
        have q3 : wrap64 n3 = n3 := IntWalk.wrap64_in _ (by omega)
        have q4 : wrap64 n4 = n4 := IntWalk.wrap64_in _ (by omega)
        have q5 : wrap64 (n2 + n3) = n2 + n3 := IntWalk.wrap64_in _ (by omega)
        have q6 : wrap64 (n4 + n3) = n4 + n3 := IntWalk.wrap64_in _ (by omega)
        have g1 : IntKind.i64.wrap (n1) = n1 := by rw [IntWalk.i64_left, q1]
        have g2 : IntKind.i64.wrap (n2) = n2 := by rw [IntWalk.i64_left, q2]
        have g3 : IntKind.i64.wrap (n3) = n3 := by rw [IntWalk.i64_left, q3]
        have g4 : IntKind.i64.wrap (n4) = n4 := by rw [IntWalk.i64_left, q4]
        have g5 : IntKind.i64.wrap (n2 + n3) = n2 + n3 := by rw [IntWalk.i64_left, q5]
        have g6 : IntKind.i64.wrap (n4 + n3) = n4 + n3 := by rw [IntWalk.i64_left, q6]
        have r1 := hn1.symm
        have r2 := hn2.symm
        have r3 := hn3.symm
        have r4 := hn4.symm
        clear hn1 hn2 hn3 hn4 m1 m2 m3 m4 NO YES HT HLR CS hlr
        by_cases p0 : p = 0
        · subst p0
          rw [if_pos rfl] at e
          subst e
          go_wp2_with fail
          try rw [r1]
          try rw [q1]
          go_ret
          exact ⟨rfl, X.out.below⟩
        by_cases p1 : p = 1
        · subst p1
          rw [if_neg p0, if_pos rfl] at e
          subst e
          go_upto_region 7 with fail
          go_region_with (first | (go_at_call 20; refine (CL.out _).mono ?_; rintro e wq ⟨rfl, rfl⟩))
          all_goals
            go_wp2_with fail
            exact bodyPost_ret (v := .int .i64 (n2 + n3)) (by simp [results, Try.results34, go_sem, g2, g3, g5]) rfl ⟨rfl, X.out.drew.below⟩
        · have p2 : p = 2 := by omega
          subst p2
          rw [if_neg p0, if_neg p1] at e
          subst e
          go_wp2_with fail
          try rw [r4, r3]
          try rw [q4, q3, q6]
          go_ret
          exact ⟨rfl, X.out.below⟩
      · have CQ := hide (fun (W : World) => in_no q 0 30 W (by omega))
        obtain rfl : rs = 0 := NO.out (by intro h; exact hq30 h.2.1)
        go_wp2_with fail
        go_at_call 56
        refine (CQ.out _).mono ?_
        rintro e wq ⟨rfl, rfl⟩
        go_wp2_with fail
        go_ret
        exact ⟨rfl, X.out.below⟩
  · have CB := hide (fun (W : World) => in_no n 0 64 W (by omega))
    obtain rfl : rs = 0 := NO.out (by intro h; exact hn64 h.1)
    go_enter Try.func34, Try.ntmps34
    go_wp2_with fail
    rw [← hw1]
    clear hw1 c0 c1 c2
    go_at_call 56
    refine (CB.out _).mono ?_
    rintro e wq ⟨rfl, rfl⟩
    go_wp2_with fail
    go_ret
    exact ⟨rfl, X.out.below⟩

set_option maxHeartbeats 4000000 in
theorem iSb_any (n p t s q : Int) (w : World) (hn : I64 n) (ht : I64 t) :
    Calls Try.prog 35 #[.int .i64 n, .agg #[.int .i64 p, .int .i64 t, .int .i64 s], .int .i64 q] w (RetI1 w (sbF n p t s q)) := by
  obtain ⟨z, hz⟩ : ∃ z, z = isSet p t s := ⟨_, rfl⟩
  have CS := hide (fun (W : World) => show Calls Try.prog 46 #[.agg #[.int .i64 p, .int .i64 t, .int .i64 s]] W (RetB1 W z) by rw [hz]; exact iIsSet_any p t s W)
  have CL := hide (fun (W : World) => iLev_any n t W hn ht)
  have HLR := hide (lvF_range n t)
  obtain ⟨lv, hlv⟩ : ∃ z, z = lvF n t := ⟨_, rfl⟩
  obtain ⟨rs, hrs⟩ : ∃ z, z = sbF n p t s q := ⟨_, rfl⟩
  have NO := hide (fun (h : ¬((0 ≤ n ∧ n ≤ 64) ∧ (0 ≤ q ∧ q ≤ 30) ∧ z = true)) => show rs = 0 by
    rw [hrs]; unfold sbF sbOk
    rw [if_neg (by rw [← hz]; simp only [Bool.and_eq_true, decide_eq_true_eq]; intro h2; exact h ⟨h2.1.1, h2.1.2, h2.2⟩)])
  have YES := hide (fun (h : (0 ≤ n ∧ n ≤ 64) ∧ (0 ≤ q ∧ q ≤ 30) ∧ z = true) => show rs = (if p = 0 then n * q else if p = 1 then n * lv + t * q else n * n + t * q) by
    rw [hrs, hlv]; unfold sbF sbOk
    rw [if_pos (by rw [← hz]; simp only [Bool.and_eq_true, decide_eq_true_eq]; exact ⟨⟨h.1, h.2.1⟩, h.2.2⟩)])
  have HT := hide (fun (h : z = true) => show 0 ≤ p ∧ p ≤ 2 ∧ 1 ≤ t ∧ t ≤ 64 by
    have := of_decide_eq_true (hz.symm.trans h)
    exact ⟨this.1, this.2.1, this.2.2.1, this.2.2.2.1⟩)
  rw [← hlv] at CL HLR
  rw [← hrs]
  clear hz hlv hrs hn ht
  have X := hide (Kn.one w #[.int .i64 p, .int .i64 t, .int .i64 s] 32)
  obtain ⟨w1, hw1⟩ : ∃ w1, w1 = w.alloc (.cells #[.int .i64 p, .int .i64 t, .int .i64 s] 32) := ⟨_, rfl⟩
  rw [← hw1] at X
  have c0 : w1.cell? ⟨w.heap.size, 0, none⟩ = some (.int .i64 p) := X.out.cell 0 0 rfl rfl
  have c1 : w1.cell? ⟨w.heap.size, 1, none⟩ = some (.int .i64 t) := X.out.cell 0 1 rfl rfl
  have c2 : w1.cell? ⟨w.heap.size, 2, none⟩ = some (.int .i64 s) := X.out.cell 0 2 rfl rfl
  rw [hw1] at c0 c1 c2
  by_cases h_t1 : n < 0
  · have t1 : decide (n < 0) = true := decide_eq_true h_t1
    obtain rfl : rs = 0 := NO.out (by omega)
    go_enter Try.func35, Try.ntmps35
    go_wp2_with fail
    try rw [← hw1]
    clear c0 c1 c2
    go_ret
    exact ⟨rfl, X.out.below⟩
  have t1 : decide (n < 0) = false := decide_eq_false h_t1
  by_cases h_t2 : 64 < n
  · have t2 : decide (64 < n) = true := decide_eq_true h_t2
    obtain rfl : rs = 0 := NO.out (by omega)
    go_enter Try.func35, Try.ntmps35
    go_wp2_with fail
    try rw [← hw1]
    clear c0 c1 c2
    go_ret
    exact ⟨rfl, X.out.below⟩
  have t2 : decide (64 < n) = false := decide_eq_false h_t2
  by_cases h_t3 : q < 0
  · have t3 : decide (q < 0) = true := decide_eq_true h_t3
    obtain rfl : rs = 0 := NO.out (by omega)
    go_enter Try.func35, Try.ntmps35
    go_wp2_with fail
    try rw [← hw1]
    clear c0 c1 c2
    go_ret
    exact ⟨rfl, X.out.below⟩
  have t3 : decide (q < 0) = false := decide_eq_false h_t3
  by_cases h_t4 : 30 < q
  · have t4 : decide (30 < q) = true := decide_eq_true h_t4
    obtain rfl : rs = 0 := NO.out (by omega)
    go_enter Try.func35, Try.ntmps35
    go_wp2_with fail
    try rw [← hw1]
    clear c0 c1 c2
    go_ret
    exact ⟨rfl, X.out.below⟩
  have t4 : decide (30 < q) = false := decide_eq_false h_t4
  have hn64 : 0 ≤ n ∧ n ≤ 64 := by omega
  have hq30 : 0 ≤ q ∧ q ≤ 30 := by omega
  go_enter Try.func35, Try.ntmps35
  go_wp2_with fail
  rw [← hw1]
  clear hw1 c0 c1 c2
  go_at_call 46
  refine (CS.out _).mono ?_
  rintro e w2 ⟨rfl, hb⟩
  have X := hide (X.out.up hb)
  clear hb
  have c0 : w2.cell? ⟨w.heap.size, 0, none⟩ = some (.int .i64 p) := X.out.cell 0 0 rfl rfl
  have c1 : w2.cell? ⟨w.heap.size, 1, none⟩ = some (.int .i64 t) := X.out.cell 0 1 rfl rfl
  have c2 : w2.cell? ⟨w.heap.size, 2, none⟩ = some (.int .i64 s) := X.out.cell 0 2 rfl rfl
  cases z with
  | false =>
    obtain rfl : rs = 0 := NO.out (by simp)
    go_wp2_with fail
    go_ret
    exact ⟨rfl, X.out.below⟩
  | true =>
    obtain ⟨pb1, pb2, tb1, tb2⟩ := HT.out (by simp)
    have hlr := HLR.out
    have e := YES.out ⟨hn64, hq30, by simp⟩
    have m1 := mulw (a := n) (b := q) (by omega) (by omega)
    have m2 := mulw (a := n) (b := lv) (by omega) (by omega)
    have m3 := mulw (a := t) (b := q) (by omega) (by omega)
    have m4 := mulw (a := n) (b := n) (by omega) (by omega)
    obtain ⟨n1, hn1⟩ : ∃ x, x = n * q := ⟨_, rfl⟩
    obtain ⟨n2, hn2⟩ : ∃ x, x = n * lv := ⟨_, rfl⟩
    obtain ⟨n3, hn3⟩ : ∃ x, x = t * q := ⟨_, rfl⟩
    obtain ⟨n4, hn4⟩ : ∃ x, x = n * n := ⟨_, rfl⟩
    rw [← hn1, ← hn2, ← hn3, ← hn4] at e
    rw [← hn1] at m1
    rw [← hn2] at m2
    rw [← hn3] at m3
    rw [← hn4] at m4
    have q1 : wrap64 n1 = n1 := IntWalk.wrap64_in _ (by omega)
    have q2 : wrap64 n2 = n2 := IntWalk.wrap64_in _ (by omega)
    have q3 : wrap64 n3 = n3 := IntWalk.wrap64_in _ (by omega)
    have q4 : wrap64 n4 = n4 := IntWalk.wrap64_in _ (by omega)
    have q5 : wrap64 (n2 + n3) = n2 + n3 := IntWalk.wrap64_in _ (by omega)
    have q6 : wrap64 (n4 + n3) = n4 + n3 := IntWalk.wrap64_in _ (by omega)
    have g1 : IntKind.i64.wrap (n1) = n1 := by rw [IntWalk.i64_left, q1]
    have g2 : IntKind.i64.wrap (n2) = n2 := by rw [IntWalk.i64_left, q2]
    have g3 : IntKind.i64.wrap (n3) = n3 := by rw [IntWalk.i64_left, q3]
    have g4 : IntKind.i64.wrap (n4) = n4 := by rw [IntWalk.i64_left, q4]
    have g5 : IntKind.i64.wrap (n2 + n3) = n2 + n3 := by rw [IntWalk.i64_left, q5]
    have g6 : IntKind.i64.wrap (n4 + n3) = n4 + n3 := by rw [IntWalk.i64_left, q6]
    have r1 := hn1.symm
    have r2 := hn2.symm
    have r3 := hn3.symm
    have r4 := hn4.symm
    clear hn1 hn2 hn3 hn4 m1 m2 m3 m4 NO YES HT HLR CS hlr
    by_cases p0 : p = 0
    · subst p0
      rw [if_pos rfl] at e
      subst e
      go_wp2_with fail
      try rw [r1]
      try rw [q1]
      go_ret
      exact ⟨rfl, X.out.below⟩
    by_cases p1 : p = 1
    · subst p1
      rw [if_neg p0, if_pos rfl] at e
      subst e
      go_upto_region 5 with fail
      go_region_with (first | (go_at_call 19; refine (CL.out _).mono ?_; rintro e wq ⟨rfl, rfl⟩))
      all_goals
        go_wp2_with fail
        exact bodyPost_ret (v := .int .i64 (n2 + n3)) (by simp [results, Try.results35, go_sem, g2, g3, g5]) rfl ⟨rfl, X.out.drew.below⟩
    · have p2 : p = 2 := by omega
      subst p2
      rw [if_neg p0, if_neg p1] at e
      subst e
      go_wp2_with fail
      try rw [r4, r3]
      try rw [q4, q3, q6]
      go_ret
      exact ⟨rfl, X.out.below⟩

end Go.Proofs.Ytfldnjkojdnjcaa

/- What MedianOf returns, of the reference and of the program (promise 4). -/
namespace Go.Proofs.Ytfldnjkojdnjcaa
open Go.RowKit Go.ChangeShapes
set_option linter.unusedSimpArgs false
set_option linter.unusedVariables false
set_option maxRecDepth 100000

/-- A number is returned; nothing that was there has turned. -/
def RetNB (w : World) (n : Int) (e : Ending) (w' : World) : Prop := e = .returned (.int .i64 n) ∧ Below w.heap.size w w'

theorem medL_at {l : List Int} (h : 0 < l.length) (h2 : l.length ≤ 64) (k : Nat) (hk : k = (l.length - 1) / 2) (hk2 : k < (sortL l).length) : (sortL l)[k] = medL l := by
  subst hk
  unfold medL
  rw [if_neg (by omega), List.getD_eq_getElem?_getD, List.getElem?_eq_getElem hk2, Option.getD_some]

theorem med_ix {L : Nat} (h : 0 < L) (h2 : L ≤ 64) : (wrap64 ((L : Int) - 1)).tdiv 2 = (((L - 1) / 2 : Nat) : Int) := by
  rw [IntWalk.wrap64_in _ (by omega), Int.tdiv_eq_ediv_of_nonneg (by omega)]
  omega

set_option maxHeartbeats 4000000 in
theorem sMed_any (a : Option Addr) (c : Nat) (l : List Int) (w : World) (B : Nat) (h : Ints w B (.slice a l.length c) l) (hn : a = none → c = 0) (hB : B ≤ w.heap.size) (hl : l.length ≤ 1048576) :
    Calls Try.prog 11 #[.slice a l.length c] w (RetNB w (medL l)) := by
  have HS := hide (sSort_any a c l w B h hn hB hl)
  clear h hn
  obtain ⟨m, hm⟩ : ∃ m, m = medL l := ⟨_, rfl⟩
  have HA := hide (fun (h1 : 0 < l.length) (h2 : l.length ≤ 64) (k : Nat) (hk : k = (l.length - 1) / 2) (hk2 : k < (sortL l).length) => show (sortL l)[k] = m by rw [hm]; exact medL_at h1 h2 k hk hk2)
  have h0 : (l.length = 0 ∨ 64 < l.length) → m = 0 := fun h => by rw [hm]; unfold medL; rw [if_pos h]
  have hln := sortL_length l
  rw [← hm]
  clear hm
  obtain ⟨s, hs⟩ : ∃ s, s = sortL l := ⟨_, rfl⟩
  rw [← hs] at HS hln
  rw [← hs] at HA
  clear hs
  obtain ⟨L, hL⟩ : ∃ L, L = l.length := ⟨_, rfl⟩
  rw [← hL] at HA h0 hln HS ⊢
  by_cases z : L = 0
  · obtain rfl : m = 0 := h0 (.inl z)
    subst z
    clear hL HS HA h0 hln
    go_enter Try.func11, Try.ntmps11
    go_wp2_with fail
    go_ret
    exact ⟨rfl, Below.refl _ _⟩
  have t0 : ((L : Int) == 0) = false := by simpa using z
  by_cases y : 64 < L
  · obtain rfl : m = 0 := h0 (.inr y)
    have t1 : decide ((64 : Int) < (L : Int)) = true := decide_eq_true (by omega)
    clear hL HS HA h0 hln z
    go_enter Try.func11, Try.ntmps11
    go_wp2_with fail
    go_ret
    exact ⟨rfl, Below.refl _ _⟩
  have t1 : decide ((64 : Int) < (L : Int)) = false := decide_eq_false (by omega)
  have hk := med_ix (L := L) (by omega) (by omega)
  obtain ⟨k, hkk⟩ : ∃ k, k = (L - 1) / 2 := ⟨_, rfl⟩
  rw [← hkk] at hk
  have hkL : k < L := by omega
  have hwk : wrap64 (k : Int) = (k : Int) := IntWalk.wrap64_in _ (by omega)
  have HK := hide hkk
  have Hz := hide z
  have Hy := hide y
  clear hkk h0 z y hL hl
  go_enter Try.func11, Try.ntmps11
  go_wp2_with fail
  go_wp2_with fail
  go_at_call 24
  refine HS.out.mono ?_
  rintro e w1 ⟨v, hi, rfl, O, hb⟩
  obtain ⟨a', c', rfl⟩ := O.form
  obtain ⟨g, rfl, hc⟩ := O.at (by have := Hz.out; omega)
  have hkk := HK.out
  have ec := hc k (by omega)
  rw [HA.out (by have := Hz.out; omega) (by have := Hy.out; omega) k hkk (by omega)] at ec
  rw [hln]
  clear hc HA hkk HK
  go_wp2_with fail
  go_ret
  exact ⟨rfl, hb⟩

set_option maxHeartbeats 4000000 in
theorem iMed_any (a : Option Addr) (c : Nat) (l : List Int) (w : World) (B : Nat) (h : Ints w B (.slice a l.length c) l) (hn : a = none → c = 0) (hB : B ≤ w.heap.size) (hl : l.length ≤ 1048576) :
    Calls Try.prog 10 #[.slice a l.length c] w (RetNB w (medL l)) := by
  have HS := hide (show Calls Try.prog 23 #[.slice a l.length c] w (RetOw w (sortL l)) from (iSort_any a c l w B h hn hB hl).mono fun e w' ⟨v, rfl', O, hb⟩ => ⟨v, _, rfl', Ow.of O hb.size, hb⟩)
  clear h hn
  obtain ⟨m, hm⟩ : ∃ m, m = medL l := ⟨_, rfl⟩
  have HA := hide (fun (h1 : 0 < l.length) (h2 : l.length ≤ 64) (k : Nat) (hk : k = (l.length - 1) / 2) (hk2 : k < (sortL l).length) => show (sortL l)[k] = m by rw [hm]; exact medL_at h1 h2 k hk hk2)
  have h0 : (l.length = 0 ∨ 64 < l.length) → m = 0 := fun h => by rw [hm]; unfold medL; rw [if_pos h]
  have hln := sortL_length l
  rw [← hm]
  clear hm
  obtain ⟨s, hs⟩ : ∃ s, s = sortL l := ⟨_, rfl⟩
  rw [← hs] at HS hln
  rw [← hs] at HA
  clear hs
  obtain ⟨L, hL⟩ : ∃ L, L = l.length := ⟨_, rfl⟩
  rw [← hL] at HA h0 hln HS ⊢
  by_cases z : L = 0
  · obtain rfl : m = 0 := h0 (.inl z)
    subst z
    clear hL HS HA h0 hln
    go_enter Try.func10, Try.ntmps10
    go_wp2_with fail
    go_ret
    exact ⟨rfl, Below.refl _ _⟩
  have t0 : ((L : Int) == 0) = false := by simpa using z
  by_cases y : 64 < L
  · obtain rfl : m = 0 := h0 (.inr y)
    have t1 : decide ((64 : Int) < (L : Int)) = true := decide_eq_true (by omega)
    clear hL HS HA h0 hln z
    go_enter Try.func10, Try.ntmps10
    go_wp2_with fail
    go_ret
    exact ⟨rfl, Below.refl _ _⟩
  have t1 : decide ((64 : Int) < (L : Int)) = false := decide_eq_false (by omega)
  have hk := med_ix (L := L) (by omega) (by omega)
  obtain ⟨k, hkk⟩ : ∃ k, k = (L - 1) / 2 := ⟨_, rfl⟩
  rw [← hkk] at hk
  have hkL : k < L := by omega
  have hwk : wrap64 (k : Int) = (k : Int) := IntWalk.wrap64_in _ (by omega)
  have HK := hide hkk
  have Hz := hide z
  have Hy := hide y
  clear hkk h0 z y hL hl
  go_enter Try.func10, Try.ntmps10
  go_wp2_with fail
  go_wp2_with fail
  go_at_call 23
  refine HS.out.mono ?_
  rintro e w1 ⟨v, hi, rfl, O, hb⟩
  obtain ⟨a', c', rfl⟩ := O.form
  obtain ⟨g, rfl, hc⟩ := O.at (by have := Hz.out; omega)
  have hkk := HK.out
  have ec := hc k (by omega)
  rw [HA.out (by have := Hz.out; omega) (by have := Hy.out; omega) k hkk (by omega)] at ec
  rw [hln]
  clear hc HA hkk HK
  go_wp2_with fail
  go_ret
  exact ⟨rfl, hb⟩

end Go.Proofs.Ytfldnjkojdnjcaa

/- What ChoosePivot returns, of the reference and of the program (promise 4). Written by gen_cho.py. -/
namespace Go.Proofs.Ytfldnjkojdnjcaa
open Go.RowKit Go.ChangeShapes
set_option linter.unusedSimpArgs false
set_option linter.unusedVariables false
set_option maxRecDepth 100000

/-- Two numbers are returned; nothing that was there has turned. -/
def RetNN (w : World) (x y : Int) (e : Ending) (w' : World) : Prop := e = .returned (.tuple #[.int .i64 x, .int .i64 y]) ∧ Below w.heap.size w w'

/-- A number and settings are returned; nothing that was there has turned. -/
def RetMSt (w : World) (m a b c : Int) (e : Ending) (w' : World) : Prop := e = .returned (.tuple #[.int .i64 m, .agg #[.int .i64 a, .int .i64 b, .int .i64 c]]) ∧ Below w.heap.size w w'

theorem Kn.putc {w W : World} {L : List (Nat × Array Value × TypeId)} (h : Kn w W L) (i : Nat) {g : Nat} {x y z : Value} {t : TypeId} (ho : L[i]? = some (g, #[x, y, z], t)) (c : Value) : Kn w (W.setCell ⟨g, 2, none⟩ c) (L.set i (g, #[x, y, c], t)) := h.set i 2 ho c

theorem Ck.leftAt {w : World} {B : Nat} {y z : Value} {a : Option Addr} {n c : Nat} {l r : List Int} {ps : List Pv} (h : Ck w B (.agg #[.slice a n c, y, z]) l r ps) (j : Nat) (hj : j < l.length) : ∃ g o, a = some ⟨g, o, none⟩ ∧ g < B := by
  obtain ⟨x, y', z', e, i1, -⟩ := h
  simp only [Value.agg.injEq, Array.mk.injEq, List.cons.injEq] at e
  obtain ⟨rfl, -⟩ := e
  obtain ⟨a', c', e, -, -, hc⟩ := i1
  injection e with e1
  subst e1
  obtain ⟨g, o, e, hg, -⟩ := hc j hj
  exact ⟨g, o, e, hg⟩

theorem Ints.cellAt {w : World} {B g o n c : Nat} {l : List Int} (h : Ints w B (.slice (some ⟨g, o, none⟩) n c) l) (j : Nat) (hj : j < l.length) : w.cell? ⟨g, o + j, none⟩ = some (.int .i64 (l.getD j 0)) := by
  obtain ⟨a', c', e, -, -, hc⟩ := h
  injection e with e1
  subst e1
  obtain ⟨g', o', e, hg, hx⟩ := hc j hj
  obtain ⟨rfl, rfl⟩ : g = g' ∧ o = o' := by simpa using e
  first | exact hx | (rw [hx]; simp [List.getD_eq_getElem?_getD, List.getElem?_eq_getElem hj])

theorem cut_getD (l : List Int) (a b : Int) (k : Nat) (ha : 0 ≤ a) (h : (k : Int) < b - a) : (cutL l a b).getD k 0 = l.getD (a + k).toNat 0 := by
  unfold cutL
  rw [List.getD_eq_getElem?_getD, List.getD_eq_getElem?_getD, List.getElem?_take, if_pos (by omega), List.getElem?_drop]
  congr 2
  omega

theorem chMed_any (a : Option Addr) (c : Nat) (l : List Int) (s : Int) (w : World) (B : Nat) (h : Ints w B (.slice a l.length c) l) (hn : a = none → c = 0) (hB : B ≤ w.heap.size) (hl : l.length ≤ 1048576) :
    Calls Try.prog 76 #[.slice a l.length c, .int .i64 s] w (RetNN w (medL l) s) := by
  have HM := hide (iMed_any a c l w B h hn hB hl)
  clear h hn
  obtain ⟨L, hL⟩ : ∃ L, L = l.length := ⟨_, rfl⟩
  obtain ⟨m, hm⟩ : ∃ m, m = medL l := ⟨_, rfl⟩
  rw [← hL, ← hm] at HM ⊢
  clear hL hm
  go_enter Try.func76, Try.ntmps76
  go_wp2_with fail
  go_at_call 10
  refine HM.out.mono ?_
  rintro e w1 ⟨rfl, hb⟩
  go_wp2_with fail
  exact bodyPost_ret (v := .tuple #[.int .i64 m, .int .i64 s]) (by simp [results, Try.results76, go_sem]) rfl ⟨rfl, hb⟩

theorem rnd_ix {n : Int} {L : Nat} (hn : 0 ≤ n ∧ n ≤ 10006) (h : 0 < L) : n.tmod (L : Int) = ((n % (L : Int)).toNat : Int) ∧ (n % (L : Int)).toNat < L := by
  have h1 := Int.emod_nonneg n (show (L : Int) ≠ 0 by omega)
  have h2 := Int.emod_lt_of_pos n (show (0 : Int) < L by omega)
  rw [Int.tmod_eq_emod_of_nonneg hn.1]
  omega

theorem chRnd_any (g o : Nat) (c : Nat) (l : List Int) (s : Int) (w : World) (B : Nat) (h : Ints w B (.slice (some ⟨g, o, none⟩) l.length c) l) (h0 : 0 < l.length) (hl : l.length ≤ 1048576) :
    Calls Try.prog 77 #[.slice (some ⟨g, o, none⟩) l.length c, .int .i64 s] w (RetNN w (l.getD (nsF s % (l.length : Int)).toNat 0) (nsF s)) := by
  have HN := hide (iNext_any s w)
  have hr := nsF_range s
  obtain ⟨n, hn⟩ : ∃ n, n = nsF s := ⟨_, rfl⟩
  rw [← hn] at HN hr ⊢
  clear hn
  obtain ⟨e1, e2⟩ := rnd_ix (n := n) hr h0
  have hc := h.cellAt _ e2
  obtain ⟨L, hL⟩ : ∃ L, L = l.length := ⟨_, rfl⟩
  obtain ⟨k, hk⟩ : ∃ k, k = (n % (l.length : Int)).toNat := ⟨_, rfl⟩
  rw [← hk] at e1 e2 hc
  rw [← hk]
  obtain ⟨x, hx⟩ : ∃ x, x = l.getD k 0 := ⟨_, rfl⟩
  rw [← hx] at hc
  rw [← hx]
  rw [← hL] at e1 e2 h0 ⊢
  have hLb : L ≤ 1048576 := by rw [hL]; exact hl
  clear hL hk hx h hl
  have hwk : wrap64 (k : Int) = (k : Int) := IntWalk.wrap64_in _ (by omega)
  have hz : ((L : Int) == 0) = false := by simp; omega
  have hz2 : ¬ (L : Int) = 0 := by omega
  go_enter Try.func77, Try.ntmps77
  go_wp2_with fail
  go_at_call 18
  refine HN.out.mono ?_
  rintro e w1 ⟨rfl, rfl⟩
  go_wp2_with fail
  exact bodyPost_ret (v := .tuple #[.int .i64 x, .int .i64 n]) (by simp [results, Try.results77, go_sem]) rfl ⟨rfl, Below.refl _ _⟩

set_option maxHeartbeats 8000000 in
theorem sCho_any (u : Value) (l r : List Int) (ps : List Pv) (p t s a b : Int) (w : World) (B : Nat) (hv : Ck w B u l r ps) (hB : B ≤ w.heap.size) :
    Calls Try.prog 15 #[u, .agg #[.int .i64 p, .int .i64 t, .int .i64 s], .int .i64 a, .int .i64 b] w (RetMSt w (chM l r ps p t s a b) p t (chS l r ps p t s a b)) := by
  obtain ⟨a1, c1, a2, c2, a3, c3, rfl, i1, i2, i3⟩ := hv.form
  have hcap := hv.caps
  have V := hide hv
  have I1 := hide i1
  have HCP := hide hcap
  clear hv i1 i2 i3 hcap
  obtain ⟨q, hq⟩ : ∃ q, q = isCk l r ps := ⟨_, rfl⟩
  have HQ := hide hq
  have CK := hide (fun (W : World) (h : Below w.heap.size w W) => show Calls Try.prog 48 #[.agg #[.slice a1 l.length c1, .slice a2 r.length c2, .slice a3 ps.length c3]] W (RetB1 W q) by rw [hq]; exact sIsCk_any _ l r ps W B (V.out.below h hB) (Nat.le_trans hB h.size))
  obtain ⟨z, hz⟩ : ∃ z, z = isSet p t s := ⟨_, rfl⟩
  have HZ := hide hz
  have CS := hide (fun (W : World) => show Calls Try.prog 49 #[.agg #[.int .i64 p, .int .i64 t, .int .i64 s]] W (RetB1 W z) by rw [hz]; exact sIsSet_any p t s W)
  obtain ⟨m, hm⟩ : ∃ m, m = chM l r ps p t s a b := ⟨_, rfl⟩
  obtain ⟨ns, hns⟩ : ∃ m, m = chS l r ps p t s a b := ⟨_, rfl⟩
  have NO := hide (fun (h : ¬(q = true ∧ z = true ∧ 0 ≤ a ∧ a < b ∧ b ≤ l.length)) => show m = 0 ∧ ns = s by
    have hh : ¬ chOk l r ps p t s a b = true := by
      unfold chOk
      simp only [Bool.and_eq_true, decide_eq_true_eq, ← hq, ← hz]
      intro h2
      exact h ⟨h2.1.1, h2.1.2, h2.2⟩
    rw [hm, hns]
    unfold chM chS
    rw [if_neg hh, if_neg hh]
    exact ⟨rfl, rfl⟩)
  have YES := hide (fun (h1 : q = true) (h2 : z = true) (h3 : 0 ≤ a ∧ a < b ∧ b ≤ l.length) => show m = (if p = 2 then l.getD (a + nsF s % (b - a)).toNat 0 else medL (cutL l a b)) ∧ ns = (if p = 2 then nsF s else s) by
    have hh : chOk l r ps p t s a b = true := by
      unfold chOk
      rw [← hq, ← hz, h1, h2, decide_eq_true h3]
      rfl
    rw [hm, hns]
    unfold chM chS
    rw [if_pos hh, if_pos hh]
    exact ⟨rfl, rfl⟩)
  have HL := hide (fun (h : q = true) => areVals_len (isCk_parts (hq.symm.trans h)).1)
  rw [← hm, ← hns]
  clear hq hz hm hns
  have X := hide (Kn.three w #[.slice a1 l.length c1, .slice a2 r.length c2, .slice a3 ps.length c3] #[.int .i64 p, .int .i64 t, .int .i64 s] #[.int .i64 0, .int .i64 0, .int .i64 0] 30 32 32)
  obtain ⟨w1, hw1⟩ : ∃ w1, w1 = ((w.alloc (.cells #[.slice a1 l.length c1, .slice a2 r.length c2, .slice a3 ps.length c3] 30)).alloc (.cells #[.int .i64 p, .int .i64 t, .int .i64 s] 32)).alloc (.cells #[.int .i64 0, .int .i64 0, .int .i64 0] 32) := ⟨_, rfl⟩
  rw [← hw1] at X
  have d0 : w1.cell? ⟨w.heap.size, 0, none⟩ = some (.slice a1 l.length c1) := X.out.cell 0 0 rfl rfl
  have d1 : w1.cell? ⟨w.heap.size, 1, none⟩ = some (.slice a2 r.length c2) := X.out.cell 0 1 rfl rfl
  have d2 : w1.cell? ⟨w.heap.size, 2, none⟩ = some (.slice a3 ps.length c3) := X.out.cell 0 2 rfl rfl
  rw [hw1] at d0 d1 d2
  go_enter Try.func15, Try.ntmps15
  go_wp2_with fail
  rw [← hw1]
  clear hw1 d0 d1 d2
  go_at_call 48
  refine (CK.out _ X.out.below).mono ?_
  rintro e w2 ⟨rfl, hb⟩
  have X := hide (X.out.up hb)
  clear hb
  have e0 : w2.cell? ⟨w.heap.size + 1, 0, none⟩ = some (.int .i64 p) := X.out.cell 1 0 rfl rfl
  have e1 : w2.cell? ⟨w.heap.size + 1, 1, none⟩ = some (.int .i64 t) := X.out.cell 1 1 rfl rfl
  have e2 : w2.cell? ⟨w.heap.size + 1, 2, none⟩ = some (.int .i64 s) := X.out.cell 1 2 rfl rfl
  cases q with
  | false =>
    obtain ⟨rfl, rfl⟩ := NO.out (by simp)
    have f20 := X.out.free 2 0 rfl
    have f21 := X.out.free 2 1 rfl
    have f22 := X.out.free 2 2 rfl
    have r0 : w2.cell? ⟨w.heap.size + 1 + 1, 0, none⟩ = some (.int .i64 0) := X.out.cell 2 0 rfl rfl
    have r1 : w2.cell? ⟨w.heap.size + 1 + 1, 1, none⟩ = some (.int .i64 0) := X.out.cell 2 1 rfl rfl
    have r2 : w2.cell? ⟨w.heap.size + 1 + 1, 2, none⟩ = some (.int .i64 0) := X.out.cell 2 2 rfl rfl
    have hne := X.out.apart 1 2 rfl rfl (by omega)
    have hne2 := fun e => hne (Eq.symm e)
    go_upto_region 2 with fail
    go_region
    have Z := (((X.out.set 2 0 rfl (.int .i64 p)).set 2 1 rfl (.int .i64 t)).set 2 2 rfl (.int .i64 ns)).drew
    have z0 := Z.cell 2 0 rfl rfl
    have z1 := Z.cell 2 1 rfl rfl
    have z2 := Z.cell 2 2 rfl rfl
    go_wp2_with fail
    exact bodyPost_ret (v := .tuple #[.int .i64 0, .agg #[.int .i64 p, .int .i64 t, .int .i64 ns]]) (by simp [results, Try.results15, go_sem, z0, z1, z2]) rfl ⟨rfl, Z.below⟩
  | true =>
    go_wp2_with fail
    go_at_call 49
    refine (CS.out _).mono ?_
    rintro e w3 ⟨rfl, hb⟩
    have X := hide (X.out.up hb)
    clear hb e0 e1 e2
    have e0 : w3.cell? ⟨w.heap.size + 1, 0, none⟩ = some (.int .i64 p) := X.out.cell 1 0 rfl rfl
    have e1 : w3.cell? ⟨w.heap.size + 1, 1, none⟩ = some (.int .i64 t) := X.out.cell 1 1 rfl rfl
    have e2 : w3.cell? ⟨w.heap.size + 1, 2, none⟩ = some (.int .i64 s) := X.out.cell 1 2 rfl rfl
    have d0 : w3.cell? ⟨w.heap.size, 0, none⟩ = some (.slice a1 l.length c1) := X.out.cell 0 0 rfl rfl
    have d1 : w3.cell? ⟨w.heap.size, 1, none⟩ = some (.slice a2 r.length c2) := X.out.cell 0 1 rfl rfl
    have d2 : w3.cell? ⟨w.heap.size, 2, none⟩ = some (.slice a3 ps.length c3) := X.out.cell 0 2 rfl rfl
    cases z with
    | false =>
      obtain ⟨rfl, rfl⟩ := NO.out (by simp)
      have f20 := X.out.free 2 0 rfl
      have f21 := X.out.free 2 1 rfl
      have f22 := X.out.free 2 2 rfl
      have r0 : w3.cell? ⟨w.heap.size + 1 + 1, 0, none⟩ = some (.int .i64 0) := X.out.cell 2 0 rfl rfl
      have r1 : w3.cell? ⟨w.heap.size + 1 + 1, 1, none⟩ = some (.int .i64 0) := X.out.cell 2 1 rfl rfl
      have r2 : w3.cell? ⟨w.heap.size + 1 + 1, 2, none⟩ = some (.int .i64 0) := X.out.cell 2 2 rfl rfl
      have hne := X.out.apart 1 2 rfl rfl (by omega)
      have hne2 := fun e => hne (Eq.symm e)
      go_upto_region 2 with fail
      go_region
      have Z := (((X.out.set 2 0 rfl (.int .i64 p)).set 2 1 rfl (.int .i64 t)).set 2 2 rfl (.int .i64 ns)).drew
      have z0 := Z.cell 2 0 rfl rfl
      have z1 := Z.cell 2 1 rfl rfl
      have z2 := Z.cell 2 2 rfl rfl
      go_wp2_with fail
      exact bodyPost_ret (v := .tuple #[.int .i64 0, .agg #[.int .i64 p, .int .i64 t, .int .i64 ns]]) (by simp [results, Try.results15, go_sem, z0, z1, z2]) rfl ⟨rfl, Z.below⟩
    | true =>
      by_cases h1 : a < 0
      · have t1 : decide (a < 0) = true := decide_eq_true h1
        obtain ⟨rfl, rfl⟩ := NO.out (by intro h; omega)
        have f20 := X.out.free 2 0 rfl
        have f21 := X.out.free 2 1 rfl
        have f22 := X.out.free 2 2 rfl
        have r0 : w3.cell? ⟨w.heap.size + 1 + 1, 0, none⟩ = some (.int .i64 0) := X.out.cell 2 0 rfl rfl
        have r1 : w3.cell? ⟨w.heap.size + 1 + 1, 1, none⟩ = some (.int .i64 0) := X.out.cell 2 1 rfl rfl
        have r2 : w3.cell? ⟨w.heap.size + 1 + 1, 2, none⟩ = some (.int .i64 0) := X.out.cell 2 2 rfl rfl
        have hne := X.out.apart 1 2 rfl rfl (by omega)
        have hne2 := fun e => hne (Eq.symm e)
        go_upto_region 2 with fail
        go_region
        have Z := (((X.out.set 2 0 rfl (.int .i64 p)).set 2 1 rfl (.int .i64 t)).set 2 2 rfl (.int .i64 ns)).drew
        have z0 := Z.cell 2 0 rfl rfl
        have z1 := Z.cell 2 1 rfl rfl
        have z2 := Z.cell 2 2 rfl rfl
        go_wp2_with fail
        exact bodyPost_ret (v := .tuple #[.int .i64 0, .agg #[.int .i64 p, .int .i64 t, .int .i64 ns]]) (by simp [results, Try.results15, go_sem, z0, z1, z2]) rfl ⟨rfl, Z.below⟩
      have t1 : decide (a < 0) = false := decide_eq_false h1
      by_cases h2 : b ≤ a
      · have t2 : decide (b ≤ a) = true := decide_eq_true h2
        obtain ⟨rfl, rfl⟩ := NO.out (by intro h; omega)
        have f20 := X.out.free 2 0 rfl
        have f21 := X.out.free 2 1 rfl
        have f22 := X.out.free 2 2 rfl
        have r0 : w3.cell? ⟨w.heap.size + 1 + 1, 0, none⟩ = some (.int .i64 0) := X.out.cell 2 0 rfl rfl
        have r1 : w3.cell? ⟨w.heap.size + 1 + 1, 1, none⟩ = some (.int .i64 0) := X.out.cell 2 1 rfl rfl
        have r2 : w3.cell? ⟨w.heap.size + 1 + 1, 2, none⟩ = some (.int .i64 0) := X.out.cell 2 2 rfl rfl
        have hne := X.out.apart 1 2 rfl rfl (by omega)
        have hne2 := fun e => hne (Eq.symm e)
        go_upto_region 2 with fail
        go_region
        have Z := (((X.out.set 2 0 rfl (.int .i64 p)).set 2 1 rfl (.int .i64 t)).set 2 2 rfl (.int .i64 ns)).drew
        have z0 := Z.cell 2 0 rfl rfl
        have z1 := Z.cell 2 1 rfl rfl
        have z2 := Z.cell 2 2 rfl rfl
        go_wp2_with fail
        exact bodyPost_ret (v := .tuple #[.int .i64 0, .agg #[.int .i64 p, .int .i64 t, .int .i64 ns]]) (by simp [results, Try.results15, go_sem, z0, z1, z2]) rfl ⟨rfl, Z.below⟩
      have t2 : decide (b ≤ a) = false := decide_eq_false h2
      by_cases h3 : (l.length : Int) < b
      · have t3 : decide ((l.length : Int) < b) = true := decide_eq_true h3
        obtain ⟨rfl, rfl⟩ := NO.out (by intro h; omega)
        have f20 := X.out.free 2 0 rfl
        have f21 := X.out.free 2 1 rfl
        have f22 := X.out.free 2 2 rfl
        have r0 : w3.cell? ⟨w.heap.size + 1 + 1, 0, none⟩ = some (.int .i64 0) := X.out.cell 2 0 rfl rfl
        have r1 : w3.cell? ⟨w.heap.size + 1 + 1, 1, none⟩ = some (.int .i64 0) := X.out.cell 2 1 rfl rfl
        have r2 : w3.cell? ⟨w.heap.size + 1 + 1, 2, none⟩ = some (.int .i64 0) := X.out.cell 2 2 rfl rfl
        have hne := X.out.apart 1 2 rfl rfl (by omega)
        have hne2 := fun e => hne (Eq.symm e)
        go_upto_region 2 with fail
        go_region
        have Z := (((X.out.set 2 0 rfl (.int .i64 p)).set 2 1 rfl (.int .i64 t)).set 2 2 rfl (.int .i64 ns)).drew
        have z0 := Z.cell 2 0 rfl rfl
        have z1 := Z.cell 2 1 rfl rfl
        have z2 := Z.cell 2 2 rfl rfl
        go_wp2_with fail
        exact bodyPost_ret (v := .tuple #[.int .i64 0, .agg #[.int .i64 p, .int .i64 t, .int .i64 ns]]) (by simp [results, Try.results15, go_sem, z0, z1, z2]) rfl ⟨rfl, Z.below⟩
      have t3 : decide ((l.length : Int) < b) = false := decide_eq_false h3
      obtain ⟨hm, hns⟩ := YES.out (by simp) (by simp) ⟨by omega, by omega, by omega⟩
      have hl64 := HL.out (by simp)
      obtain ⟨g, o, rfl, hg⟩ := V.out.leftAt 0 (by omega)
      obtain ⟨i, rfl⟩ : ∃ i : Nat, a = (i : Int) := ⟨a.toNat, by omega⟩
      obtain ⟨j, rfl⟩ : ∃ j : Nat, b = (j : Int) := ⟨b.toNat, by omega⟩
      have hij : i < j := by omega
      have hjl : j ≤ l.length := by omega
      have hkc : l.length ≤ c1 := HCP.out.1
      clear NO YES HL h1 h2 h3
      have hd : ((j : Int) - (i : Int)) = ((j - i : Nat) : Int) := by omega
      have hcut : cutL l (i : Int) (j : Int) = (l.drop i).take (j - i) := by simp [cutL]
      have hcl : ((l.drop i).take (j - i)).length = j - i := by simp; omega
      have PI := hide (fun (W : World) (h : Below w.heap.size w W) (c' : Nat) => show Ints W B (.slice (some ⟨g, o + i, none⟩) (j - i) c') ((l.drop i).take (j - i)) by
        have := (I1.out.below h hB).part i j (by omega) hjl (some ⟨g, o + i, none⟩) c' (fun _ => by simp [addr_add])
        rwa [hcl] at this)
      by_cases hp : p = 2
      · rw [if_pos hp] at hm hns
        subst hp
        have hnr := nsF_range s
        obtain ⟨n, hn⟩ : ∃ n, n = nsF s := ⟨_, rfl⟩
        rw [← hn] at hm hns hnr
        have HN := hide hn
        subst hns
        clear hn
        obtain ⟨k1, k2⟩ := rnd_ix (n := ns) (L := j - i) hnr (by omega)
        obtain ⟨k, hk⟩ : ∃ k, k = (ns % ((j - i : Nat) : Int)).toNat := ⟨_, rfl⟩
        have hk0 := Int.emod_nonneg ns (show ((j - i : Nat) : Int) ≠ 0 by omega)
        rw [← hk] at k1 k2
        obtain ⟨x, hx⟩ : ∃ x, x = i + k := ⟨_, rfl⟩
        have hm' := hide (show m = l.getD x 0 by rw [hm, hd]; congr 1; omega)
        have hkz : ns % ((j - i : Nat) : Int) = (k : Int) := by rw [hk]; exact (Int.toNat_of_nonneg hk0).symm
        have w5' : wrap64 ((i : Int) + ns % ((j : Int) - (i : Int))) = (x : Int) := by rw [hd, hkz, hx, IntWalk.wrap64_in _ (by omega)]; rfl
        obtain ⟨d, hd'⟩ : ∃ d, d = j - i := ⟨_, rfl⟩
        rw [← hd'] at k1
        have w1' : wrap64 ((j : Int) - (i : Int)) = (d : Int) := by rw [IntWalk.wrap64_in _ (by omega)]; omega
        have w2' : wrap64 ((i : Int) + (k : Int)) = (x : Int) := by rw [IntWalk.wrap64_in _ (by omega)]; omega
        have w3' : ((d : Int) == 0) = false := by simp; omega
        have w4' : ¬ (d : Int) = 0 := by omega
        have hxl : x < l.length := by rw [hx]; exact Nat.lt_of_lt_of_le (Nat.add_lt_of_lt_sub' k2) hjl
        clear hm hk hx hk0 k2 hd hd' hcut hcl PI hkz
        have X := hide (X.out.alloc #[.int .i64 2, .int .i64 t, .int .i64 s] 32)
        obtain ⟨w4, hw4⟩ : ∃ q, q = w3.alloc (.cells #[.int .i64 2, .int .i64 t, .int .i64 s] 32) := ⟨_, rfl⟩
        obtain ⟨b4, hb4⟩ : ∃ q, q = w3.heap.size := ⟨_, rfl⟩
        rw [← hw4, ← hb4] at X
        simp only [List.cons_append, List.nil_append] at X
        have e3 : w4.cell? ⟨w.heap.size + 1, 0, none⟩ = some (.int .i64 2) := X.out.cell 1 0 rfl rfl
        have e4 : w4.cell? ⟨w.heap.size + 1, 2, none⟩ = some (.int .i64 s) := X.out.cell 1 2 rfl rfl
        rw [hw4] at e3 e4
        go_wp2_with fail
        rw [← hw4]
        try rw [← hb4]
        clear hw4 hb4 e0 e1 e2 e3 e4 d0 d1 d2
        go_at_call 21
        refine (sNext_any s _).mono ?_
        rintro e w5 ⟨rfl, rfl⟩
        rw [← HN.out]
        have f3 := X.out.free 3 2 rfl
        have c3q := X.out.cell 3 2 rfl rfl
        go_upto_region 6 with fail
        have X := hide (X.out.putc 3 rfl (.int .i64 ns))
        obtain ⟨w5, hw5⟩ : ∃ q, q = w4.setCell ⟨b4, 2, none⟩ (.int .i64 ns) := ⟨_, rfl⟩
        rw [← hw5] at X
        rw [← hw5]
        simp only [List.set_cons_zero, List.set_cons_succ] at X
        clear hw5 f3 c3q
        have d0 : w5.cell? ⟨w.heap.size, 0, none⟩ = some (.slice (some ⟨g, o, none⟩) l.length c1) := X.out.cell 0 0 rfl rfl
        have d1 : w5.cell? ⟨w.heap.size, 1, none⟩ = some (.slice a2 r.length c2) := X.out.cell 0 1 rfl rfl
        have d2 : w5.cell? ⟨w.heap.size, 2, none⟩ = some (.slice a3 ps.length c3) := X.out.cell 0 2 rfl rfl
        have s0 : w5.cell? ⟨b4, 0, none⟩ = some (.int .i64 2) := X.out.cell 3 0 rfl rfl
        have s1 : w5.cell? ⟨b4, 1, none⟩ = some (.int .i64 t) := X.out.cell 3 1 rfl rfl
        have s2 : w5.cell? ⟨b4, 2, none⟩ = some (.int .i64 ns) := X.out.cell 3 2 rfl rfl
        have r0 : w5.cell? ⟨w.heap.size + 1 + 1, 0, none⟩ = some (.int .i64 0) := X.out.cell 2 0 rfl rfl
        have r1 : w5.cell? ⟨w.heap.size + 1 + 1, 1, none⟩ = some (.int .i64 0) := X.out.cell 2 1 rfl rfl
        have r2 : w5.cell? ⟨w.heap.size + 1 + 1, 2, none⟩ = some (.int .i64 0) := X.out.cell 2 2 rfl rfl
        have f20 := X.out.free 2 0 rfl
        have f21 := X.out.free 2 1 rfl
        have f22 := X.out.free 2 2 rfl
        have hne := X.out.apart 2 3 rfl rfl (by omega)
        have hne2 := fun e => hne (Eq.symm e)
        have hne3 := X.out.apart 0 2 rfl rfl (by omega)
        have hne4 := fun e => hne3 (Eq.symm e)
        have ec := (I1.out.below X.out.below hB).cellAt x hxl
        rw [← hm'.out] at ec
        have hgr : g ≠ w.heap.size + 1 + 1 := by omega
        have hgr2 : w.heap.size + 1 + 1 ≠ g := by omega
        go_region
        have Z := (((X.out.set 2 0 rfl (.int .i64 2)).set 2 1 rfl (.int .i64 t)).set 2 2 rfl (.int .i64 ns)).drew
        have z0 := Z.cell 2 0 rfl rfl
        have z1 := Z.cell 2 1 rfl rfl
        have z2 := Z.cell 2 2 rfl rfl
        go_wp2_with fail
        exact bodyPost_ret (v := .tuple #[.int .i64 m, .agg #[.int .i64 2, .int .i64 t, .int .i64 ns]]) (by simp [results, Try.results15, go_sem, z0, z1, z2]) rfl ⟨rfl, Z.below⟩
      · rw [if_neg hp] at hm hns
        subst hns
        have tp : (p == 2) = false := by simp [hp]
        have hjc : j ≤ c1 := by omega
        have CM := hide (fun (W : World) (h : Below w.heap.size w W) (c' : Nat) => show Calls Try.prog 11 #[.slice (some ⟨g, o + i, none⟩) (j - i) c'] W (RetNB W m) by
          have := sMed_any (some ⟨g, o + i, none⟩) c' ((l.drop i).take (j - i)) W B (by rw [hcl]; exact PI.out W h c') (by simp) (Nat.le_trans hB h.size) (by rw [hcl]; omega)
          rw [hcl] at this
          rw [hm, hcut]
          exact this)
        clear hd hcut hcl PI hm
        have X := hide (X.out.alloc #[.int .i64 p, .int .i64 t, .int .i64 ns] 32)
        obtain ⟨w4, hw4⟩ : ∃ q, q = w3.alloc (.cells #[.int .i64 p, .int .i64 t, .int .i64 ns] 32) := ⟨_, rfl⟩
        obtain ⟨b4, hb4⟩ : ∃ q, q = w3.heap.size := ⟨_, rfl⟩
        rw [← hw4, ← hb4] at X
        simp only [List.cons_append, List.nil_append] at X
        have e3 : w4.cell? ⟨w.heap.size + 1, 0, none⟩ = some (.int .i64 p) := X.out.cell 1 0 rfl rfl
        rw [hw4] at e3
        go_upto_region 7 with fail
        rw [← hw4]
        try rw [← hb4]
        clear hw4 hb4 e0 e1 e2 e3 d0 d1 d2
        have hne := X.out.apart 2 3 rfl rfl (by omega)
        have hne2 := fun e => hne (Eq.symm e)
        have X := hide X.out.drew
        have d0 : w4.drew.cell? ⟨w.heap.size, 0, none⟩ = some (.slice (some ⟨g, o, none⟩) l.length c1) := X.out.cell 0 0 rfl rfl
        have s0 : w4.drew.cell? ⟨b4, 0, none⟩ = some (.int .i64 p) := X.out.cell 3 0 rfl rfl
        have s1 : w4.drew.cell? ⟨b4, 1, none⟩ = some (.int .i64 t) := X.out.cell 3 1 rfl rfl
        have s2 : w4.drew.cell? ⟨b4, 2, none⟩ = some (.int .i64 ns) := X.out.cell 3 2 rfl rfl
        have r0 : w4.drew.cell? ⟨w.heap.size + 1 + 1, 0, none⟩ = some (.int .i64 0) := X.out.cell 2 0 rfl rfl
        have r1 : w4.drew.cell? ⟨w.heap.size + 1 + 1, 1, none⟩ = some (.int .i64 0) := X.out.cell 2 1 rfl rfl
        have r2 : w4.drew.cell? ⟨w.heap.size + 1 + 1, 2, none⟩ = some (.int .i64 0) := X.out.cell 2 2 rfl rfl
        have f20 : w4.drew.frozen? ⟨w.heap.size + 1 + 1, 0, none⟩ = false := X.out.free 2 0 rfl
        have f21 : w4.drew.frozen? ⟨w.heap.size + 1 + 1, 1, none⟩ = false := X.out.free 2 1 rfl
        have f22 : w4.drew.frozen? ⟨w.heap.size + 1 + 1, 2, none⟩ = false := X.out.free 2 2 rfl
        go_region_with (first
          | (go_at_call 11; refine (CM.out _ X.out.below _).mono ?_; rintro e wq ⟨rfl, hb⟩; replace X := hide (X.out.up hb); clear hb d0 s0 s1 s2 r0 r1 r2 f20 f21 f22; have d0 : wq.cell? ⟨w.heap.size, 0, none⟩ = some (.slice (some ⟨g, o, none⟩) l.length c1) := X.out.cell 0 0 rfl rfl; have s0 : wq.cell? ⟨b4, 0, none⟩ = some (.int .i64 p) := X.out.cell 3 0 rfl rfl; have s1 : wq.cell? ⟨b4, 1, none⟩ = some (.int .i64 t) := X.out.cell 3 1 rfl rfl; have s2 : wq.cell? ⟨b4, 2, none⟩ = some (.int .i64 ns) := X.out.cell 3 2 rfl rfl; have r0 : wq.cell? ⟨w.heap.size + 1 + 1, 0, none⟩ = some (.int .i64 0) := X.out.cell 2 0 rfl rfl; have r1 : wq.cell? ⟨w.heap.size + 1 + 1, 1, none⟩ = some (.int .i64 0) := X.out.cell 2 1 rfl rfl; have r2 : wq.cell? ⟨w.heap.size + 1 + 1, 2, none⟩ = some (.int .i64 0) := X.out.cell 2 2 rfl rfl; have f20 : wq.frozen? ⟨w.heap.size + 1 + 1, 0, none⟩ = false := X.out.free 2 0 rfl; have f21 : wq.frozen? ⟨w.heap.size + 1 + 1, 1, none⟩ = false := X.out.free 2 1 rfl; have f22 : wq.frozen? ⟨w.heap.size + 1 + 1, 2, none⟩ = false := X.out.free 2 2 rfl))
        all_goals
          have Z := (((X.out.set 2 0 rfl (.int .i64 p)).set 2 1 rfl (.int .i64 t)).set 2 2 rfl (.int .i64 ns))
          have z0 := Z.cell 2 0 rfl rfl
          have z1 := Z.cell 2 1 rfl rfl
          have z2 := Z.cell 2 2 rfl rfl
          go_wp2_with fail
          exact bodyPost_ret (v := .tuple #[.int .i64 m, .agg #[.int .i64 p, .int .i64 t, .int .i64 ns]]) (by simp [results, Try.results15, go_sem, z0, z1, z2]) rfl ⟨rfl, Z.below⟩

end Go.Proofs.Ytfldnjkojdnjcaa

/- What ChoosePivot returns, of the program (promise 4). Written by gen_cho.py. -/
namespace Go.Proofs.Ytfldnjkojdnjcaa
open Go.RowKit Go.ChangeShapes
set_option linter.unusedSimpArgs false
set_option linter.unusedVariables false
set_option maxRecDepth 100000

set_option maxHeartbeats 8000000 in
theorem iCho_any (u : Value) (l r : List Int) (ps : List Pv) (p t s a b : Int) (w : World) (B : Nat) (hv : Ck w B u l r ps) (hB : B ≤ w.heap.size) :
    Calls Try.prog 14 #[u, .agg #[.int .i64 p, .int .i64 t, .int .i64 s], .int .i64 a, .int .i64 b] w (RetMSt w (chM l r ps p t s a b) p t (chS l r ps p t s a b)) := by
  obtain ⟨a1, c1, a2, c2, a3, c3, rfl, i1, i2, i3⟩ := hv.form
  have hcap := hv.caps
  have V := hide hv
  have I1 := hide i1
  have HCP := hide hcap
  clear hv i1 i2 i3 hcap
  obtain ⟨q, hq⟩ : ∃ q, q = isCk l r ps := ⟨_, rfl⟩
  have HQ := hide hq
  have CK := hide (fun (W : World) (h : Below w.heap.size w W) => show Calls Try.prog 45 #[.agg #[.slice a1 l.length c1, .slice a2 r.length c2, .slice a3 ps.length c3]] W (RetB1 W q) by rw [hq]; exact iIsCk_any _ l r ps W B (V.out.below h hB) (Nat.le_trans hB h.size))
  obtain ⟨z, hz⟩ : ∃ z, z = isSet p t s := ⟨_, rfl⟩
  have HZ := hide hz
  have CS := hide (fun (W : World) => show Calls Try.prog 46 #[.agg #[.int .i64 p, .int .i64 t, .int .i64 s]] W (RetB1 W z) by rw [hz]; exact iIsSet_any p t s W)
  obtain ⟨m, hm⟩ : ∃ m, m = chM l r ps p t s a b := ⟨_, rfl⟩
  obtain ⟨ns, hns⟩ : ∃ m, m = chS l r ps p t s a b := ⟨_, rfl⟩
  have NO := hide (fun (h : ¬(q = true ∧ z = true ∧ 0 ≤ a ∧ a < b ∧ b ≤ l.length)) => show m = 0 ∧ ns = s by
    have hh : ¬ chOk l r ps p t s a b = true := by
      unfold chOk
      simp only [Bool.and_eq_true, decide_eq_true_eq, ← hq, ← hz]
      intro h2
      exact h ⟨h2.1.1, h2.1.2, h2.2⟩
    rw [hm, hns]
    unfold chM chS
    rw [if_neg hh, if_neg hh]
    exact ⟨rfl, rfl⟩)
  have YES := hide (fun (h1 : q = true) (h2 : z = true) (h3 : 0 ≤ a ∧ a < b ∧ b ≤ l.length) => show m = (if p = 2 then l.getD (a + nsF s % (b - a)).toNat 0 else medL (cutL l a b)) ∧ ns = (if p = 2 then nsF s else s) by
    have hh : chOk l r ps p t s a b = true := by
      unfold chOk
      rw [← hq, ← hz, h1, h2, decide_eq_true h3]
      rfl
    rw [hm, hns]
    unfold chM chS
    rw [if_pos hh, if_pos hh]
    exact ⟨rfl, rfl⟩)
  have HL := hide (fun (h : q = true) => areVals_len (isCk_parts (hq.symm.trans h)).1)
  rw [← hm, ← hns]
  clear hq hz hm hns
  have X := hide (Kn.three w #[.slice a1 l.length c1, .slice a2 r.length c2, .slice a3 ps.length c3] #[.int .i64 p, .int .i64 t, .int .i64 s] #[.int .i64 0, .int .i64 0, .int .i64 0] 30 32 32)
  obtain ⟨w1, hw1⟩ : ∃ w1, w1 = ((w.alloc (.cells #[.slice a1 l.length c1, .slice a2 r.length c2, .slice a3 ps.length c3] 30)).alloc (.cells #[.int .i64 p, .int .i64 t, .int .i64 s] 32)).alloc (.cells #[.int .i64 0, .int .i64 0, .int .i64 0] 32) := ⟨_, rfl⟩
  rw [← hw1] at X
  have d0 : w1.cell? ⟨w.heap.size, 0, none⟩ = some (.slice a1 l.length c1) := X.out.cell 0 0 rfl rfl
  have d1 : w1.cell? ⟨w.heap.size, 1, none⟩ = some (.slice a2 r.length c2) := X.out.cell 0 1 rfl rfl
  have d2 : w1.cell? ⟨w.heap.size, 2, none⟩ = some (.slice a3 ps.length c3) := X.out.cell 0 2 rfl rfl
  rw [hw1] at d0 d1 d2
  go_enter Try.func14, Try.ntmps14
  go_wp2_with fail
  rw [← hw1]
  clear hw1 d0 d1 d2
  go_at_call 45
  refine (CK.out _ X.out.below).mono ?_
  rintro e w2 ⟨rfl, hb⟩
  have X := hide (X.out.up hb)
  clear hb
  have e0 : w2.cell? ⟨w.heap.size + 1, 0, none⟩ = some (.int .i64 p) := X.out.cell 1 0 rfl rfl
  have e1 : w2.cell? ⟨w.heap.size + 1, 1, none⟩ = some (.int .i64 t) := X.out.cell 1 1 rfl rfl
  have e2 : w2.cell? ⟨w.heap.size + 1, 2, none⟩ = some (.int .i64 s) := X.out.cell 1 2 rfl rfl
  cases q with
  | false =>
    obtain ⟨rfl, rfl⟩ := NO.out (by simp)
    have f20 := X.out.free 2 0 rfl
    have f21 := X.out.free 2 1 rfl
    have f22 := X.out.free 2 2 rfl
    have r0 : w2.cell? ⟨w.heap.size + 1 + 1, 0, none⟩ = some (.int .i64 0) := X.out.cell 2 0 rfl rfl
    have r1 : w2.cell? ⟨w.heap.size + 1 + 1, 1, none⟩ = some (.int .i64 0) := X.out.cell 2 1 rfl rfl
    have r2 : w2.cell? ⟨w.heap.size + 1 + 1, 2, none⟩ = some (.int .i64 0) := X.out.cell 2 2 rfl rfl
    have hne := X.out.apart 1 2 rfl rfl (by omega)
    have hne2 := fun e => hne (Eq.symm e)
    go_upto_region 2 with fail
    go_region
    have Z := (((X.out.set 2 0 rfl (.int .i64 p)).set 2 1 rfl (.int .i64 t)).set 2 2 rfl (.int .i64 ns)).drew
    have z0 := Z.cell 2 0 rfl rfl
    have z1 := Z.cell 2 1 rfl rfl
    have z2 := Z.cell 2 2 rfl rfl
    go_wp2_with fail
    exact bodyPost_ret (v := .tuple #[.int .i64 0, .agg #[.int .i64 p, .int .i64 t, .int .i64 ns]]) (by simp [results, Try.results14, go_sem, z0, z1, z2]) rfl ⟨rfl, Z.below⟩
  | true =>
    go_wp2_with fail
    go_at_call 46
    refine (CS.out _).mono ?_
    rintro e w3 ⟨rfl, hb⟩
    have X := hide (X.out.up hb)
    clear hb e0 e1 e2
    have e0 : w3.cell? ⟨w.heap.size + 1, 0, none⟩ = some (.int .i64 p) := X.out.cell 1 0 rfl rfl
    have e1 : w3.cell? ⟨w.heap.size + 1, 1, none⟩ = some (.int .i64 t) := X.out.cell 1 1 rfl rfl
    have e2 : w3.cell? ⟨w.heap.size + 1, 2, none⟩ = some (.int .i64 s) := X.out.cell 1 2 rfl rfl
    have d0 : w3.cell? ⟨w.heap.size, 0, none⟩ = some (.slice a1 l.length c1) := X.out.cell 0 0 rfl rfl
    have d1 : w3.cell? ⟨w.heap.size, 1, none⟩ = some (.slice a2 r.length c2) := X.out.cell 0 1 rfl rfl
    have d2 : w3.cell? ⟨w.heap.size, 2, none⟩ = some (.slice a3 ps.length c3) := X.out.cell 0 2 rfl rfl
    cases z with
    | false =>
      obtain ⟨rfl, rfl⟩ := NO.out (by simp)
      have f20 := X.out.free 2 0 rfl
      have f21 := X.out.free 2 1 rfl
      have f22 := X.out.free 2 2 rfl
      have r0 : w3.cell? ⟨w.heap.size + 1 + 1, 0, none⟩ = some (.int .i64 0) := X.out.cell 2 0 rfl rfl
      have r1 : w3.cell? ⟨w.heap.size + 1 + 1, 1, none⟩ = some (.int .i64 0) := X.out.cell 2 1 rfl rfl
      have r2 : w3.cell? ⟨w.heap.size + 1 + 1, 2, none⟩ = some (.int .i64 0) := X.out.cell 2 2 rfl rfl
      have hne := X.out.apart 1 2 rfl rfl (by omega)
      have hne2 := fun e => hne (Eq.symm e)
      go_upto_region 2 with fail
      go_region
      have Z := (((X.out.set 2 0 rfl (.int .i64 p)).set 2 1 rfl (.int .i64 t)).set 2 2 rfl (.int .i64 ns)).drew
      have z0 := Z.cell 2 0 rfl rfl
      have z1 := Z.cell 2 1 rfl rfl
      have z2 := Z.cell 2 2 rfl rfl
      go_wp2_with fail
      exact bodyPost_ret (v := .tuple #[.int .i64 0, .agg #[.int .i64 p, .int .i64 t, .int .i64 ns]]) (by simp [results, Try.results14, go_sem, z0, z1, z2]) rfl ⟨rfl, Z.below⟩
    | true =>
      by_cases h1 : a < 0
      · have t1 : decide (a < 0) = true := decide_eq_true h1
        obtain ⟨rfl, rfl⟩ := NO.out (by intro h; omega)
        have f20 := X.out.free 2 0 rfl
        have f21 := X.out.free 2 1 rfl
        have f22 := X.out.free 2 2 rfl
        have r0 : w3.cell? ⟨w.heap.size + 1 + 1, 0, none⟩ = some (.int .i64 0) := X.out.cell 2 0 rfl rfl
        have r1 : w3.cell? ⟨w.heap.size + 1 + 1, 1, none⟩ = some (.int .i64 0) := X.out.cell 2 1 rfl rfl
        have r2 : w3.cell? ⟨w.heap.size + 1 + 1, 2, none⟩ = some (.int .i64 0) := X.out.cell 2 2 rfl rfl
        have hne := X.out.apart 1 2 rfl rfl (by omega)
        have hne2 := fun e => hne (Eq.symm e)
        go_upto_region 2 with fail
        go_region
        have Z := (((X.out.set 2 0 rfl (.int .i64 p)).set 2 1 rfl (.int .i64 t)).set 2 2 rfl (.int .i64 ns)).drew
        have z0 := Z.cell 2 0 rfl rfl
        have z1 := Z.cell 2 1 rfl rfl
        have z2 := Z.cell 2 2 rfl rfl
        go_wp2_with fail
        exact bodyPost_ret (v := .tuple #[.int .i64 0, .agg #[.int .i64 p, .int .i64 t, .int .i64 ns]]) (by simp [results, Try.results14, go_sem, z0, z1, z2]) rfl ⟨rfl, Z.below⟩
      have t1 : decide (a < 0) = false := decide_eq_false h1
      by_cases h2 : b ≤ a
      · have t2 : decide (b ≤ a) = true := decide_eq_true h2
        obtain ⟨rfl, rfl⟩ := NO.out (by intro h; omega)
        have f20 := X.out.free 2 0 rfl
        have f21 := X.out.free 2 1 rfl
        have f22 := X.out.free 2 2 rfl
        have r0 : w3.cell? ⟨w.heap.size + 1 + 1, 0, none⟩ = some (.int .i64 0) := X.out.cell 2 0 rfl rfl
        have r1 : w3.cell? ⟨w.heap.size + 1 + 1, 1, none⟩ = some (.int .i64 0) := X.out.cell 2 1 rfl rfl
        have r2 : w3.cell? ⟨w.heap.size + 1 + 1, 2, none⟩ = some (.int .i64 0) := X.out.cell 2 2 rfl rfl
        have hne := X.out.apart 1 2 rfl rfl (by omega)
        have hne2 := fun e => hne (Eq.symm e)
        go_upto_region 2 with fail
        go_region
        have Z := (((X.out.set 2 0 rfl (.int .i64 p)).set 2 1 rfl (.int .i64 t)).set 2 2 rfl (.int .i64 ns)).drew
        have z0 := Z.cell 2 0 rfl rfl
        have z1 := Z.cell 2 1 rfl rfl
        have z2 := Z.cell 2 2 rfl rfl
        go_wp2_with fail
        exact bodyPost_ret (v := .tuple #[.int .i64 0, .agg #[.int .i64 p, .int .i64 t, .int .i64 ns]]) (by simp [results, Try.results14, go_sem, z0, z1, z2]) rfl ⟨rfl, Z.below⟩
      have t2 : decide (b ≤ a) = false := decide_eq_false h2
      by_cases h3 : (l.length : Int) < b
      · have t3 : decide ((l.length : Int) < b) = true := decide_eq_true h3
        obtain ⟨rfl, rfl⟩ := NO.out (by intro h; omega)
        have f20 := X.out.free 2 0 rfl
        have f21 := X.out.free 2 1 rfl
        have f22 := X.out.free 2 2 rfl
        have r0 : w3.cell? ⟨w.heap.size + 1 + 1, 0, none⟩ = some (.int .i64 0) := X.out.cell 2 0 rfl rfl
        have r1 : w3.cell? ⟨w.heap.size + 1 + 1, 1, none⟩ = some (.int .i64 0) := X.out.cell 2 1 rfl rfl
        have r2 : w3.cell? ⟨w.heap.size + 1 + 1, 2, none⟩ = some (.int .i64 0) := X.out.cell 2 2 rfl rfl
        have hne := X.out.apart 1 2 rfl rfl (by omega)
        have hne2 := fun e => hne (Eq.symm e)
        go_upto_region 2 with fail
        go_region
        have Z := (((X.out.set 2 0 rfl (.int .i64 p)).set 2 1 rfl (.int .i64 t)).set 2 2 rfl (.int .i64 ns)).drew
        have z0 := Z.cell 2 0 rfl rfl
        have z1 := Z.cell 2 1 rfl rfl
        have z2 := Z.cell 2 2 rfl rfl
        go_wp2_with fail
        exact bodyPost_ret (v := .tuple #[.int .i64 0, .agg #[.int .i64 p, .int .i64 t, .int .i64 ns]]) (by simp [results, Try.results14, go_sem, z0, z1, z2]) rfl ⟨rfl, Z.below⟩
      have t3 : decide ((l.length : Int) < b) = false := decide_eq_false h3
      obtain ⟨hm, hns⟩ := YES.out (by simp) (by simp) ⟨by omega, by omega, by omega⟩
      have hl64 := HL.out (by simp)
      obtain ⟨g, o, rfl, hg⟩ := V.out.leftAt 0 (by omega)
      obtain ⟨i, rfl⟩ : ∃ i : Nat, a = (i : Int) := ⟨a.toNat, by omega⟩
      obtain ⟨j, rfl⟩ : ∃ j : Nat, b = (j : Int) := ⟨b.toNat, by omega⟩
      have hij : i < j := by omega
      have hjl : j ≤ l.length := by omega
      have hkc : l.length ≤ c1 := HCP.out.1
      clear NO YES HL h1 h2 h3
      have hd : ((j : Int) - (i : Int)) = ((j - i : Nat) : Int) := by omega
      have hcut : cutL l (i : Int) (j : Int) = (l.drop i).take (j - i) := by simp [cutL]
      have hcl : ((l.drop i).take (j - i)).length = j - i := by simp; omega
      have PI := hide (fun (W : World) (h : Below w.heap.size w W) (c' : Nat) => show Ints W B (.slice (some ⟨g, o + i, none⟩) (j - i) c') ((l.drop i).take (j - i)) by
        have := (I1.out.below h hB).part i j (by omega) hjl (some ⟨g, o + i, none⟩) c' (fun _ => by simp [addr_add])
        rwa [hcl] at this)
      by_cases hp : p = 2
      · rw [if_pos hp] at hm hns
        subst hp
        have hnr := nsF_range s
        obtain ⟨n, hn⟩ : ∃ n, n = nsF s := ⟨_, rfl⟩
        rw [← hn] at hm hns hnr
        have HN := hide hn
        subst hns
        clear hn
        have hm' : m = ((l.drop i).take (j - i)).getD (ns % (((l.drop i).take (j - i)).length : Int)).toNat 0 := by
          obtain ⟨k1, k2⟩ := rnd_ix (n := ns) (L := j - i) hnr (by omega)
          rw [hm, ← hcut, cut_getD l i j _ (by omega) (by rw [hcut, hcl]; omega), hcut, hcl, hd]
          have hk0 := Int.emod_nonneg ns (show ((j - i : Nat) : Int) ≠ 0 by omega)
          congr 1
          omega
        have CM := hide (fun (W : World) (h : Below w.heap.size w W) (c' : Nat) => show Calls Try.prog 77 #[.slice (some ⟨g, o + i, none⟩) (j - i) c', .int .i64 s] W (RetNN W m ns) by
          have := chRnd_any g (o + i) c' ((l.drop i).take (j - i)) s W B (by rw [hcl]; exact PI.out W h c') (by omega) (by rw [hcl]; omega)
          rw [← HN.out, ← hm', hcl] at this
          exact this)
        have hlook := hide (fun (W : World) (bb : Nat) (h : W.heap[bb]? = some (.map chE 3)) => show (Instr.lookup 72 (.map (some bb)) (.int .i64 2) false).run Try.prog W = .ok (.agg #[.string nmRandom, .func (.func 77) #[] #[]]) W from look_ch h 2 false)
        have hfl := fun W => field1_chf nmRandom 77 W
        clear hm hm' hd hcut hcl PI hnr HN
        go_upto_region 3 with fail
        go_cut [10, 11] (fun x y wx => x = .int .i64 m ∧ y = .int .i64 ns ∧ Hid (Kn w wx [(w.heap.size, #[.slice (some ⟨g, o, none⟩) l.length c1, .slice a2 r.length c2, .slice a3 ps.length c3], 30), (w.heap.size + 1, #[.int .i64 2, .int .i64 t, .int .i64 s], 32), (w.heap.size + 1 + 1, #[.int .i64 0, .int .i64 0, .int .i64 0], 32)]))
        case first =>
          have bb1 : (0 : Int) ≤ (i : Int) := by omega
          have bb2 : (i : Int) ≤ (j : Int) := by omega
          have bb3 : (j : Int) ≤ (c1 : Int) := by omega
          have hjc : j ≤ c1 := by omega
          have hij2 : i ≤ j := by omega
          have X := hide X.out.drew
          have KS := hide (fun (w' : World) (h : Kn w w' [(w.heap.size, #[.slice (some ⟨g, o, none⟩) l.length c1, .slice a2 r.length c2, .slice a3 ps.length c3], 30), (w.heap.size + 1, #[.int .i64 2, .int .i64 t, .int .i64 s], 32), (w.heap.size + 1 + 1, #[.int .i64 0, .int .i64 0, .int .i64 0], 32)]) => show w'.cell? ⟨w.heap.size, 0, none⟩ = some (.slice (some ⟨g, o, none⟩) l.length c1) ∧ w'.cell? ⟨w.heap.size + 1, 0, none⟩ = some (.int .i64 2) ∧ w'.cell? ⟨w.heap.size + 1, 2, none⟩ = some (.int .i64 s) from ⟨h.cell 0 0 rfl rfl, h.cell 1 0 rfl rfl, h.cell 1 2 rfl rfl⟩)
          clear e0 e1 e2 d0 d1 d2
          obtain ⟨d0, e0, e2⟩ := KS.out _ X.out
          go_region_held3 (fun w' => w'.cell? ⟨w.heap.size, 0, none⟩ = some (.slice (some ⟨g, o, none⟩) l.length c1) ∧ w'.cell? ⟨w.heap.size + 1, 0, none⟩ = some (.int .i64 2) ∧ w'.cell? ⟨w.heap.size + 1, 2, none⟩ = some (.int .i64 s)) (first | with_reducible exact KS.out _ X.out | go_keep) (first
            | (go_at_call 47; refine (choosers_any _).mono ?_; rintro e wq ⟨bb, rfl, hbb, hlo, hb⟩; have hlk := hlook.out _ _ hbb; replace X := hide (X.out.up hb); clear d0 e0 e2; obtain ⟨d0, e0, e2⟩ := KS.out _ X.out; clear hb hlo)
            | (go_at_call 77; refine (CM.out _ X.out.below _).mono ?_; rintro e wq2 ⟨rfl, hb⟩; replace X := hide (X.out.up hb); clear d0 e0 e2; obtain ⟨d0, e0, e2⟩ := KS.out _ X.out; clear hb))
          all_goals go_wp2_with fail
          all_goals go_meet
          all_goals exact ⟨rfl, rfl, X⟩
        case rest =>
          obtain ⟨rfl, rfl, X⟩ := hcut
          clear e0 e1 e2 d0 d1 d2
          have fs := X.out.free 1 2 rfl
          have cs := X.out.cell 1 2 rfl rfl
          go_upto_region 5 with fail
          have X := hide (X.out.putc 1 rfl (.int .i64 ns))
          obtain ⟨w5, hw5⟩ : ∃ q, q = wc.setCell ⟨w.heap.size + 1, 2, none⟩ (.int .i64 ns) := ⟨_, rfl⟩
          rw [← hw5] at X
          rw [← hw5]
          simp only [List.set_cons_zero, List.set_cons_succ] at X
          clear hw5 fs cs
          have s0 : w5.cell? ⟨w.heap.size + 1, 0, none⟩ = some (.int .i64 2) := X.out.cell 1 0 rfl rfl
          have s1 : w5.cell? ⟨w.heap.size + 1, 1, none⟩ = some (.int .i64 t) := X.out.cell 1 1 rfl rfl
          have s2 : w5.cell? ⟨w.heap.size + 1, 2, none⟩ = some (.int .i64 ns) := X.out.cell 1 2 rfl rfl
          have r0 : w5.cell? ⟨w.heap.size + 1 + 1, 0, none⟩ = some (.int .i64 0) := X.out.cell 2 0 rfl rfl
          have r1 : w5.cell? ⟨w.heap.size + 1 + 1, 1, none⟩ = some (.int .i64 0) := X.out.cell 2 1 rfl rfl
          have r2 : w5.cell? ⟨w.heap.size + 1 + 1, 2, none⟩ = some (.int .i64 0) := X.out.cell 2 2 rfl rfl
          have f20 := X.out.free 2 0 rfl
          have f21 := X.out.free 2 1 rfl
          have f22 := X.out.free 2 2 rfl
          have hne := X.out.apart 1 2 rfl rfl (by omega)
          have hne2 := fun e => hne (Eq.symm e)
          go_region
          have Z := (((X.out.set 2 0 rfl (.int .i64 2)).set 2 1 rfl (.int .i64 t)).set 2 2 rfl (.int .i64 ns)).drew
          have z0 := Z.cell 2 0 rfl rfl
          have z1 := Z.cell 2 1 rfl rfl
          have z2 := Z.cell 2 2 rfl rfl
          go_wp2_with fail
          exact bodyPost_ret (v := .tuple #[.int .i64 m, .agg #[.int .i64 2, .int .i64 t, .int .i64 ns]]) (by simp [results, Try.results14, go_sem, z0, z1, z2]) rfl ⟨rfl, Z.below⟩
      · rw [if_neg hp] at hm hns
        subst hns
        have hjc : j ≤ c1 := by omega
        have CM := hide (fun (W : World) (h : Below w.heap.size w W) (c' : Nat) => show Calls Try.prog 76 #[.slice (some ⟨g, o + i, none⟩) (j - i) c', .int .i64 ns] W (RetNN W m ns) by
          have := chMed_any (some ⟨g, o + i, none⟩) c' ((l.drop i).take (j - i)) ns W B (by rw [hcl]; exact PI.out W h c') (by simp) (Nat.le_trans hB h.size) (by rw [hcl]; omega)
          rw [hcl] at this
          rw [hm, hcut]
          exact this)
        have hset := isSet_true HZ.out.symm
        obtain ⟨nm, hnm⟩ : ∃ nm, chV p = .agg #[.string nm, .func (.func 76) #[] #[]] := by
          have h3 : p = 0 ∨ p = 1 := by omega
          rcases h3 with rfl | rfl
          · exact ⟨_, rfl⟩
          · exact ⟨_, rfl⟩
        have hlook := hide (fun (W : World) (bb : Nat) (h : W.heap[bb]? = some (.map chE 3)) => show (Instr.lookup 72 (.map (some bb)) (.int .i64 p) false).run Try.prog W = .ok (.agg #[.string nm, .func (.func 76) #[] #[]]) W by
          have := look_ch h p false
          rw [hnm] at this
          exact this)
        have hfl := fun W => field1_chf nm 76 W
        clear hm hd hcut hcl PI hset hnm
        go_upto_region 3 with fail
        go_cut [10, 11] (fun x y wx => x = .int .i64 m ∧ y = .int .i64 ns ∧ Hid (Kn w wx [(w.heap.size, #[.slice (some ⟨g, o, none⟩) l.length c1, .slice a2 r.length c2, .slice a3 ps.length c3], 30), (w.heap.size + 1, #[.int .i64 p, .int .i64 t, .int .i64 ns], 32), (w.heap.size + 1 + 1, #[.int .i64 0, .int .i64 0, .int .i64 0], 32)]))
        case first =>
          have bb1 : (0 : Int) ≤ (i : Int) := by omega
          have bb2 : (i : Int) ≤ (j : Int) := by omega
          have bb3 : (j : Int) ≤ (c1 : Int) := by omega
          have hjc : j ≤ c1 := by omega
          have hij2 : i ≤ j := by omega
          have X := hide X.out.drew
          have KS := hide (fun (w' : World) (h : Kn w w' [(w.heap.size, #[.slice (some ⟨g, o, none⟩) l.length c1, .slice a2 r.length c2, .slice a3 ps.length c3], 30), (w.heap.size + 1, #[.int .i64 p, .int .i64 t, .int .i64 ns], 32), (w.heap.size + 1 + 1, #[.int .i64 0, .int .i64 0, .int .i64 0], 32)]) => show w'.cell? ⟨w.heap.size, 0, none⟩ = some (.slice (some ⟨g, o, none⟩) l.length c1) ∧ w'.cell? ⟨w.heap.size + 1, 0, none⟩ = some (.int .i64 p) ∧ w'.cell? ⟨w.heap.size + 1, 2, none⟩ = some (.int .i64 ns) from ⟨h.cell 0 0 rfl rfl, h.cell 1 0 rfl rfl, h.cell 1 2 rfl rfl⟩)
          clear e0 e1 e2 d0 d1 d2
          obtain ⟨d0, e0, e2⟩ := KS.out _ X.out
          go_region_held3 (fun w' => w'.cell? ⟨w.heap.size, 0, none⟩ = some (.slice (some ⟨g, o, none⟩) l.length c1) ∧ w'.cell? ⟨w.heap.size + 1, 0, none⟩ = some (.int .i64 p) ∧ w'.cell? ⟨w.heap.size + 1, 2, none⟩ = some (.int .i64 ns)) (first | with_reducible exact KS.out _ X.out | go_keep) (first
            | (go_at_call 47; refine (choosers_any _).mono ?_; rintro e wq ⟨bb, rfl, hbb, hlo, hb⟩; have hlk := hlook.out _ _ hbb; replace X := hide (X.out.up hb); clear d0 e0 e2; obtain ⟨d0, e0, e2⟩ := KS.out _ X.out; clear hb hlo)
            | (go_at_call 76; refine (CM.out _ X.out.below _).mono ?_; rintro e wq2 ⟨rfl, hb⟩; replace X := hide (X.out.up hb); clear d0 e0 e2; obtain ⟨d0, e0, e2⟩ := KS.out _ X.out; clear hb))
          all_goals go_wp2_with fail
          all_goals go_meet
          all_goals exact ⟨rfl, rfl, X⟩
        case rest =>
          obtain ⟨rfl, rfl, X⟩ := hcut
          clear e0 e1 e2 d0 d1 d2
          have fs := X.out.free 1 2 rfl
          have cs := X.out.cell 1 2 rfl rfl
          go_upto_region 5 with fail
          have X := hide (X.out.putc 1 rfl (.int .i64 ns))
          obtain ⟨w5, hw5⟩ : ∃ q, q = wc.setCell ⟨w.heap.size + 1, 2, none⟩ (.int .i64 ns) := ⟨_, rfl⟩
          rw [← hw5] at X
          rw [← hw5]
          simp only [List.set_cons_zero, List.set_cons_succ] at X
          clear hw5 fs cs
          have s0 : w5.cell? ⟨w.heap.size + 1, 0, none⟩ = some (.int .i64 p) := X.out.cell 1 0 rfl rfl
          have s1 : w5.cell? ⟨w.heap.size + 1, 1, none⟩ = some (.int .i64 t) := X.out.cell 1 1 rfl rfl
          have s2 : w5.cell? ⟨w.heap.size + 1, 2, none⟩ = some (.int .i64 ns) := X.out.cell 1 2 rfl rfl
          have r0 : w5.cell? ⟨w.heap.size + 1 + 1, 0, none⟩ = some (.int .i64 0) := X.out.cell 2 0 rfl rfl
          have r1 : w5.cell? ⟨w.heap.size + 1 + 1, 1, none⟩ = some (.int .i64 0) := X.out.cell 2 1 rfl rfl
          have r2 : w5.cell? ⟨w.heap.size + 1 + 1, 2, none⟩ = some (.int .i64 0) := X.out.cell 2 2 rfl rfl
          have f20 := X.out.free 2 0 rfl
          have f21 := X.out.free 2 1 rfl
          have f22 := X.out.free 2 2 rfl
          have hne := X.out.apart 1 2 rfl rfl (by omega)
          have hne2 := fun e => hne (Eq.symm e)
          go_region
          have Z := (((X.out.set 2 0 rfl (.int .i64 p)).set 2 1 rfl (.int .i64 t)).set 2 2 rfl (.int .i64 ns)).drew
          have z0 := Z.cell 2 0 rfl rfl
          have z1 := Z.cell 2 1 rfl rfl
          have z2 := Z.cell 2 2 rfl rfl
          go_wp2_with fail
          exact bodyPost_ret (v := .tuple #[.int .i64 m, .agg #[.int .i64 p, .int .i64 t, .int .i64 ns]]) (by simp [results, Try.results14, go_sem, z0, z1, z2]) rfl ⟨rfl, Z.below⟩

end Go.Proofs.Ytfldnjkojdnjcaa

/- The laws' helpers over columns: pairsOf, sameInts, btoi (promises 3 and 4). -/
namespace Go.Proofs.Ytfldnjkojdnjcaa
open Go.RowKit Go.ChangeShapes
set_option linter.unusedSimpArgs false
set_option linter.unusedVariables false
set_option maxRecDepth 100000

/-- append(s, i): i lies in a block of its own, in a region that draws its order. -/
theorem appI_wp (W : World) {o : Oper} {a : Act} {K : Act → World → Prop} {Q : Exit → Act → World → Prop} (s x : Operand)
    (ho : o.op = .call { callee := .builtin .append, args := #[s, x], argTypes := #[24, 24] })
    (base : Nat) (v : Value) (l : List Int) (hown : Is W base 3 v l) (hs : a.eval s = v) (i : Int) (c g : Nat)
    (hx : a.eval x = .slice (some ⟨g, 0, none⟩) 1 c) (hg : W.heap[g]? = some (.cells #[.int .i64 i] 3 (0, 0))) (hlen : l.length < 1099511627776) (hbase : base ≤ W.heap.size)
    (h : ∀ v' w', Is w' base 3 v' (l ++ [i]) → Below base W w' → K (a.put o.dst v') w') : o.wp Try.prog a W K Q := by
  obtain ⟨i0, hi0, hi1, hi2, hi3⟩ := info_parts infoI
  obtain ⟨v', w', hr, hown', hgrow, -, -⟩ := run_append_own_at (P := Try.prog) (w := W) base 24 o.type 3 i0 _ 1 8 Try.underlying24 hi0 hi1 hi2 hi3 rfl (by decide) v l.length (intVs l) hown ⟨g, 0, none⟩ 1 c [.int .i64 i] rfl
    (by intro k u hk
        rw [addr_add, cell_of_row W g (0 + k) _ _ (0, 0) hg, Nat.zero_add]
        simpa using hk)
    (by intro u hu; simp at hu; subst hu; rfl) (by unfold maxLen; omega) (by omega) hbase
  unfold Oper.wp execOp
  simp only [ho, resolve, invoke, builtin, Sem.run_bind, Sem.run_pure, Result.andThen_ok, List.map_toArray, List.map_cons, List.map_nil, hs, hx, hr]
  refine h v' w' ?_ ((Below.refl base W).grown hgrow hbase (fun k hk => (World.ownsRow.lt hown k hk).1))
  unfold Is
  rw [show intVs (l ++ [i]) = intVs l ++ [.int .i64 i] by simp [intVs], List.length_append]
  exact hown'

theorem appI_step {W : World} {ops : Array Oper} {o : Oper} {a : Act} {K : Act → World → Prop} {Q : Exit → Act → World → Prop} {E : Prop} (hgd : o.guard = none) (s x : Operand)
    (ho : o.op = .call { callee := .builtin .append, args := #[s, x], argTypes := #[24, 24] })
    (base : Nat) (v : Value) (l : List Int) (hown : Is W base 3 v l) (hs : a.eval s = v) (i : Int) (c g : Nat)
    (hx : a.eval x = .slice (some ⟨g, 0, none⟩) 1 c) (hg : W.heap[g]? = some (.cells #[.int .i64 i] 3 (0, 0))) (hlen : l.length < 1099511627776) (hbase : base ≤ W.heap.size)
    (h : ∀ v' w', Is w' base 3 v' (l ++ [i]) → Below base W w' → K (a.put o.dst v') w') :
    if Region.wanted o (yielded ops a.tmps) = true then Oper.wp Try.prog o a W K Q else E := by
  have hw : Region.wanted o (yielded ops a.tmps) = true := by simp [Region.wanted, hgd]
  rw [if_pos hw]
  exact appI_wp W s x ho base v l hown hs i c g hx hg hlen hbase h

/-- The pairs of values and rows, as numbers. -/
def prs (l r : List Int) : List Int := (l.zip r).map fun p => wrap64 (wrap64 (p.1 * 1000) + p.2)

theorem prs_perm {l r l' r' : List Int} (h : (l'.zip r').Perm (l.zip r)) : sortL (prs l' r') = sortL (prs l r) := sortL_of_perm (h.map _)

theorem wrap_i64 (x : Int) : I64 (wrap64 x) := by
  unfold I64 wrap64
  omega

theorem prs_wf (l r : List Int) : ∀ x ∈ prs l r, I64 x := by
  intro x hx
  obtain ⟨p, _, rfl⟩ := List.mem_map.1 hx
  exact wrap_i64 _

theorem prs_len (l r : List Int) : (prs l r).length = min l.length r.length := by simp [prs]

theorem prs_get (l r : List Int) (k : Nat) (h1 : k < l.length) (h2 : k < r.length) : (prs l r)[k]'(by rw [prs_len]; omega) = wrap64 (wrap64 (l[k] * 1000) + r[k]) := by simp [prs]

theorem Ints.at' {w : World} {B : Nat} {a : Option Addr} {n c : Nat} {l : List Int} (h : Ints w B (.slice a n c) l) (j : Nat) (hj : j < l.length) :
    ∃ b o, a = some ⟨b, o, none⟩ ∧ w.cell? ⟨b, o + j, none⟩ = some (.int .i64 (l.getD j 0)) := by
  obtain ⟨a', c', e1, -, -, h1⟩ := h
  injection e1 with e1 e2 e3
  subst e1
  obtain ⟨b, o, rfl, -, hc⟩ := h1 j hj
  exact ⟨b, o, rfl, by rw [hc]; simp [List.getD_eq_getElem?_getD, List.getElem?_eq_getElem hj]⟩

theorem btoi_any (b : Bool) (w : World) : Calls Try.prog 12 #[.bool b] w fun e w' => e = .returned (.int .i64 (if b = true then 1 else 0)) ∧ w = w' := by
  cases b
  · go_enter Try.func12, Try.ntmps12
    go_wp2
    go_ret
    exact ⟨rfl, rfl⟩
  · go_enter Try.func12, Try.ntmps12
    go_wp2
    go_ret
    exact ⟨rfl, rfl⟩

theorem same_any (v u : Value) (l : List Int) (w : World) (B : Nat) (hv : Ints w B v l) (hu : Ints w B u l) : Calls Try.prog 22 #[v, u] w (RetB1 w true) := by
  obtain ⟨a, c, rfl, hlen, -, hc⟩ := hv
  obtain ⟨a', c', rfl, -, -, hc'⟩ := hu
  have HC := hide hc
  have HC' := hide hc'
  clear hc hc'
  have h1 : (((l.length : Nat) : Int) != ((l.length : Nat) : Int)) = false := by simp
  go_enter Try.func22, Try.ntmps22
  go_wp2_with fail
  go_loopw [5] (fun i wr => ∃ (k q : Nat), k ≤ l.length ∧ i = .int .i64 k ∧ wr = w.drewN q) (fun i _ => l.length - (intOf i).toNat)
  case atStart => exact ⟨0, 0, by omega, rfl, rfl⟩
  case round =>
    obtain ⟨k, q, hk, rfl, rfl⟩ := hrel
    by_cases hlt : k < l.length
    · obtain ⟨b, o, rfl, -, h2⟩ := HC.out k hlt
      obtain ⟨b', o', rfl, -, h3⟩ := HC'.out k hlt
      obtain ⟨x, hx⟩ : ∃ x, x = l[k] := ⟨_, rfl⟩
      rw [← hx] at h2 h3
      have h4 : (x != x) = false := by simp
      clear hx
      go_wp2_with fail
      go_quiet (fail)
      go_wp2_with fail
      go_roundw
      case rel => exact ⟨k + 1, q + nq, by omega, by go_num, rfl⟩
      case measure => simp [intOf]; omega
    · have hke : k = l.length := by omega
      subst hke
      go_wp2_with fail
      go_ret
      exact ⟨rfl, below_drewN (Below.refl _ _) _⟩

end Go.Proofs.Ytfldnjkojdnjcaa

/- FnMedians: at most half of the elements are less than the median, at most half are greater (promise 5). Written by gen_md.py. -/
namespace Go.Proofs.Ytfldnjkojdnjcaa
open Go.RowKit Go.ChangeShapes
set_option linter.unusedSimpArgs false
set_option linter.unusedVariables false
set_option maxRecDepth 100000

set_option maxHeartbeats 20000000 in
theorem medians_walk (w : World) (v0 : Value) (w0 : CodeV w v0) :
    Calls Try.prog 3 #[v0] w fun e w' => e = .returned (.bool true) ∧ Below w.heap.size w w' := by
  obtain ⟨a, len, cap, rfl, hcode⟩ := w0
  by_cases hlen : ¬(len ≤ 1048576)
  · have CB := hide (fun (W : World) => bigY a len cap W (by omega))
    go_enter Try.func3, Try.ntmps3
    go_wp2_with fail
    go_at_call 8
    refine (CB.out _).mono ?_
    rintro e wq ⟨rfl, rfl⟩
    go_wp2_with fail
    go_ret
    exact ⟨rfl, Below.refl _ _⟩
  have hlen : len ≤ 1048576 := by omega
  have HCO := hide (fun (W : World) (h : Below w.heap.size w W) => hcode.below h (Nat.le_refl _))
  have CB := hide (fun (W : World) => bigN a len cap W hlen)
  have CM := hide (fun (W : World) (h : Below w.heap.size w W) => drMd_any a len cap W (HCO.out W h) hlen)
  have CC := hide (fun (W : World) (h : Below w.heap.size w W) => drCh_any a len cap W (HCO.out W h) hlen)
  have CL := hide (fun (W : World) (h : Below w.heap.size w W) => drLev_any a len cap W (HCO.out W h) hlen)
  have CS := hide (fun (W : World) (h : Below w.heap.size w W) => drSd_any a len cap W (HCO.out W h) hlen)
  clear hcode
  have X := hide (Kn.start w)
  go_enter Try.func3, Try.ntmps3
  go_wp2_with fail
  go_at_call 8
  refine (CB.out _).mono ?_
  rintro e wq ⟨rfl, rfl⟩
  go_wp2_with fail
  go_at_call 9
  refine (CM.out _ X.out.below).mono ?_
  rintro e w1 ⟨v, l, rfl, HI, ⟨av, cv, rfl, hnil⟩, hl, hb⟩
  have X := hide (X.out.up hb)
  have HI := hide (fun (W : World) (h : Below w1.heap.size w1 W) => show IU W (.slice av l.length cv) l from (show Ints w1 w1.heap.size _ l from HI).below h (Nat.le_refl _) |>.mono h.size)
  clear hb CM CB
  have MI := hide (fun (W : World) (h : Below w1.heap.size w1 W) => show Calls Try.prog 10 #[.slice av l.length cv] W (RetNB W (medL l)) from iMed_any av cv l W W.heap.size (HI.out W h) hnil (Nat.le_refl _) (by omega))
  have MS := hide (fun (W : World) (h : Below w1.heap.size w1 W) => show Calls Try.prog 11 #[.slice av l.length cv] W (RetNB W (medL l)) from sMed_any av cv l W W.heap.size (HI.out W h) hnil (Nat.le_refl _) (by omega))
  have SI := hide (fun (W : World) (h : Below w1.heap.size w1 W) => show Calls Try.prog 23 #[.slice av l.length cv] W (RetIs 3 W (sortL l)) from iSort_any av cv l W W.heap.size (HI.out W h) hnil (Nat.le_refl _) (by omega))
  have SS := hide (fun (W : World) (h : Below w1.heap.size w1 W) => show Calls Try.prog 24 #[.slice av l.length cv] W (RetOw W (sortL l)) from sSort_any av cv l W W.heap.size (HI.out W h) hnil (Nat.le_refl _) (by omega))
  have HWL := hide (show ∀ x ∈ sortL l, I64 x from fun x hx => by
    obtain ⟨_, _, _, _, hwl, _⟩ := HI.out w1 (Below.refl _ _)
    exact hwl x (sortL_mem.1 hx))
  have HSL := hide (show (sortL l).length ≤ 10 by rw [sortL_length]; exact hl)
  obtain ⟨sl, hsl⟩ : ∃ q, q = sortL l := ⟨_, rfl⟩
  rw [← hsl] at SI SS HWL HSL
  have hmed := med_half (l := l) (by omega)
  obtain ⟨m, hm⟩ : ∃ q, q = medL l := ⟨_, rfl⟩
  rw [← hm] at MI MS hmed
  have HMED := hide hmed
  have HA := hide (fun (W : World) (h : Below w1.heap.size w1 W) (k : Nat) (hk : k < l.length) => (show Ints W W.heap.size _ l from HI.out W h).at' k hk)
  have HLS := hide (fun (k : Nat) (hk : k < l.length) => lsK_succ (l := l) (m := m) hk)
  have HGS := hide (fun (k : Nat) (hk : k < l.length) => grK_succ (l := l) (m := m) hk)
  have HLB := hide (fun (k : Nat) => lsK_le l m k)
  have HGB := hide (fun (k : Nat) => grK_le l m k)
  obtain ⟨L, hL⟩ : ∃ q, q = l.length := ⟨_, rfl⟩
  rw [← hL] at MI MS SI SS HMED HA hl HLB HGB HI
  rw [← hL]
  have HL := hide hL
  clear hsl hm hmed hnil hL
  have hmm : (m != m) = false := by simp
  have B1 := hide (Below.refl w1.heap.size w1)
  go_wp2_with fail
  go_at_call 10
  refine (MI.out _ B1.out).mono ?_
  rintro e w2 ⟨rfl, hb⟩
  have X := hide (X.out.up hb)
  have B1 := hide (B1.out.trans (hb.mono B1.out.size))
  clear hb MI
  go_wp2_with fail
  go_at_call 11
  refine (MS.out _ B1.out).mono ?_
  rintro e w3 ⟨rfl, hb⟩
  have X := hide (X.out.up hb)
  have B1 := hide (B1.out.trans (hb.mono B1.out.size))
  clear hb MS
  go_wp2_with fail
  go_loopg [5, 6, 7] L (fun gg x y z wr => ∃ k : Nat, k ≤ L ∧ gg = L - k ∧ x = .int .i64 ((lsK l m k : Nat) : Int) ∧ y = .int .i64 ((grK l m k : Nat) : Int) ∧ z = .int .i64 (k : Int) ∧ Hid (Kn w wr []) ∧ Hid (Below w1.heap.size w1 wr))
  case atStart => exact ⟨0, by omega, by omega, by simp [lsK], by simp [grK], rfl, X.out, B1.out⟩
  case round =>
    obtain ⟨k, hk, hgk, rfl, rfl, rfl, X, B1⟩ := hrel
    have hgk := hide hgk
    by_cases hlt : k < L
    · have hkl : k < l.length := by rw [← HL.out]; exact hlt
      obtain ⟨g, o, e0, ec0⟩ := HA.out wr B1.out k hlt
      subst e0
      have hls := HLS.out k hkl
      have hgs := HGS.out k hkl
      have hb1 := HLB.out k
      have hb2 := HGB.out k
      obtain ⟨y, hy⟩ : ∃ q, q = l[k] := ⟨_, rfl⟩
      have ec : wr.cell? ⟨g, o + k, none⟩ = some (.int .i64 y) := by rw [ec0, hy]; simp [List.getD_eq_getElem?_getD, List.getElem?_eq_getElem hkl]
      rw [← hy] at hls hgs
      clear ec0 hy hkl
      obtain ⟨n1, hn1⟩ : ∃ q, q = lsK l m k := ⟨_, rfl⟩
      obtain ⟨n2, hn2⟩ : ∃ q, q = grK l m k := ⟨_, rfl⟩
      rw [← hn1] at hls hb1
      rw [← hn2] at hgs hb2
      rw [← hn1, ← hn2]
      obtain ⟨d1, hd1⟩ : ∃ q, q = decide (y < m) := ⟨_, rfl⟩
      obtain ⟨d2, hd2⟩ : ∃ q, q = decide (m < y) := ⟨_, rfl⟩
      rw [← hd1] at hls
      rw [← hd2] at hgs
      have t1 := hd1.symm
      have t2 := hd2.symm
      have CB1 := hide (fun (W : World) => btoi_any d1 W)
      have CB2 := hide (fun (W : World) => btoi_any d2 W)
      have hls := hide hls
      have hgs := hide hgs
      clear hn1 hn2 hd1 hd2
      cases d1 <;> cases d2
      all_goals
        go_wp2_with fail
        go_at_call 12
        refine (CB1.out _).mono ?_
        rintro e wq ⟨rfl, rfl⟩
        go_wp2_with fail
        go_at_call 12
        refine (CB2.out _).mono ?_
        rintro e wq ⟨rfl, rfl⟩
        go_wp2_with fail
        go_roundg (L - (k + 1))
        case measure => have := hgk.out; omega
        case rel => exact ⟨k + 1, by omega, rfl, by rw [hls.out]; simp, by rw [hgs.out]; simp, by go_num, X.out, B1.out⟩
    · have hke : k = L := by omega
      subst hke
      have hmd := HMED.out
      obtain ⟨n1, hn1⟩ : ∃ q, q = lsK l m k := ⟨_, rfl⟩
      obtain ⟨n2, hn2⟩ : ∃ q, q = grK l m k := ⟨_, rfl⟩
      rw [← hn1, ← hn2] at hmd
      rw [← hn1, ← hn2]
      have h1 : decide ((n1 : Int) ≤ (k : Int).tdiv 2) = true := decide_eq_true (by rw [Int.tdiv_eq_ediv_of_nonneg (by omega)]; omega)
      have h2 : decide ((n2 : Int) ≤ (k : Int).tdiv 2) = true := decide_eq_true (by rw [Int.tdiv_eq_ediv_of_nonneg (by omega)]; omega)
      have h3 : decide ((n1 : Int) ≤ (k : Int) / 2) = true := decide_eq_true (by omega)
      have h4 : decide ((n2 : Int) ≤ (k : Int) / 2) = true := decide_eq_true (by omega)
      have h5 : (n1 : Int) ≤ (k : Int) / 2 := by omega
      have h6 : (n2 : Int) ≤ (k : Int) / 2 := by omega
      clear hn1 hn2 hmd HMED HA HLS HGS HLB HGB HL hgk hlt
      go_wp2_with fail
      go_at_call 13
      refine (CC.out _ X.out.below).mono ?_
      rintro e w4 ⟨a1, a2, a3, c1, c2, c3, cl, cr, cp, p, t, s, x, y, rfl, hcu, hwf, hx, hy, hb⟩
      have X := hide (((X.out.up hb).alloc #[.slice a1 cl.length c1, .slice a2 cr.length c2, .slice a3 cp.length c3] 30).alloc #[.int .i64 p, .int .i64 t, .int .i64 s] 32)
      have bl := (below1 w4 (.cells #[.slice a1 cl.length c1, .slice a2 cr.length c2, .slice a3 cp.length c3] 30)).trans ((below1 _ (.cells #[.int .i64 p, .int .i64 t, .int .i64 s] 32)).mono (by simp))
      have VC := hide (hcu.below bl)
      have B1 := hide (B1.out.trans ((hb.trans (bl.mono hb.size)).mono B1.out.size))
      obtain ⟨w5, hw5⟩ : ∃ q, q = (w4.alloc (.cells #[.slice a1 cl.length c1, .slice a2 cr.length c2, .slice a3 cp.length c3] 30)).alloc (.cells #[.int .i64 p, .int .i64 t, .int .i64 s] 32) := ⟨_, rfl⟩
      obtain ⟨b1, hb1⟩ : ∃ q, q = w4.heap.size := ⟨_, rfl⟩
      rw [← hw5] at X VC B1
      simp only [List.cons_append, List.nil_append, World.size_alloc] at X
      rw [← hb1] at X
      clear hb bl hcu CC
      have CI := hide (fun (W : World) (h : CU W (.agg #[.slice a1 cl.length c1, .slice a2 cr.length c2, .slice a3 cp.length c3]) cl cr cp) => iCho_any _ cl cr cp p t s x y W W.heap.size h (Nat.le_refl _))
      have CJ := hide (fun (W : World) (h : CU W (.agg #[.slice a1 cl.length c1, .slice a2 cr.length c2, .slice a3 cp.length c3]) cl cr cp) => sCho_any _ cl cr cp p t s x y W W.heap.size h (Nat.le_refl _))
      obtain ⟨pm, hpm⟩ : ∃ q, q = chM cl cr cp p t s x y := ⟨_, rfl⟩
      obtain ⟨s2, hs2⟩ : ∃ q, q = chS cl cr cp p t s x y := ⟨_, rfl⟩
      rw [← hpm, ← hs2] at CI CJ
      clear hpm hs2 hwf hx hy
      have u0 : w5.cell? ⟨b1, 0, none⟩ = some (.slice a1 cl.length c1) := X.out.cell 0 0 rfl rfl
      have u1 : w5.cell? ⟨b1, 1, none⟩ = some (.slice a2 cr.length c2) := X.out.cell 0 1 rfl rfl
      have u2 : w5.cell? ⟨b1, 2, none⟩ = some (.slice a3 cp.length c3) := X.out.cell 0 2 rfl rfl
      have v0 : w5.cell? ⟨b1 + 1, 0, none⟩ = some (.int .i64 p) := X.out.cell 1 0 rfl rfl
      have v1 : w5.cell? ⟨b1 + 1, 1, none⟩ = some (.int .i64 t) := X.out.cell 1 1 rfl rfl
      have v2 : w5.cell? ⟨b1 + 1, 2, none⟩ = some (.int .i64 s) := X.out.cell 1 2 rfl rfl
      rw [hw5] at u0 u1 u2 v0 v1 v2
      go_wp2_with fail
      rw [← hw5]
      try rw [← hb1]
      clear hw5 hb1 u0 u1 u2 v0 v1 v2
      go_at_call 14
      refine (CI.out _ VC.out).mono ?_
      rintro e w6 ⟨rfl, hb⟩
      have bl := below1 w6 (.cells #[.int .i64 p, .int .i64 t, .int .i64 s2] 32)
      have X := hide ((X.out.up hb).alloc #[.int .i64 p, .int .i64 t, .int .i64 s2] 32)
      have VC := hide ((VC.out.below hb).below bl)
      have B1 := hide (B1.out.trans ((hb.trans (bl.mono hb.size)).mono B1.out.size))
      obtain ⟨w7, hw7⟩ : ∃ q, q = w6.alloc (.cells #[.int .i64 p, .int .i64 t, .int .i64 s2] 32) := ⟨_, rfl⟩
      obtain ⟨b3, hb3⟩ : ∃ q, q = w6.heap.size := ⟨_, rfl⟩
      rw [← hw7] at X VC B1
      rw [← hb3] at X
      simp only [List.cons_append, List.nil_append] at X
      clear hb bl CI
      have u0 : w7.cell? ⟨b1, 0, none⟩ = some (.slice a1 cl.length c1) := X.out.cell 0 0 rfl rfl
      have u1 : w7.cell? ⟨b1, 1, none⟩ = some (.slice a2 cr.length c2) := X.out.cell 0 1 rfl rfl
      have u2 : w7.cell? ⟨b1, 2, none⟩ = some (.slice a3 cp.length c3) := X.out.cell 0 2 rfl rfl
      have v0 : w7.cell? ⟨b1 + 1, 0, none⟩ = some (.int .i64 p) := X.out.cell 1 0 rfl rfl
      have v1 : w7.cell? ⟨b1 + 1, 1, none⟩ = some (.int .i64 t) := X.out.cell 1 1 rfl rfl
      have v2 : w7.cell? ⟨b1 + 1, 2, none⟩ = some (.int .i64 s) := X.out.cell 1 2 rfl rfl
      rw [hw7] at u0 u1 u2 v0 v1 v2
      go_wp2_with fail
      rw [← hw7]
      try rw [← hb3]
      clear hw7 hb3 u0 u1 u2 v0 v1 v2
      go_at_call 15
      refine (CJ.out _ VC.out).mono ?_
      rintro e w8 ⟨rfl, hb⟩
      have bl := below1 w8 (.cells #[.int .i64 p, .int .i64 t, .int .i64 s2] 32)
      have X := hide ((X.out.up hb).alloc #[.int .i64 p, .int .i64 t, .int .i64 s2] 32)
      have B1 := hide (B1.out.trans ((hb.trans (bl.mono hb.size)).mono B1.out.size))
      obtain ⟨w9, hw9⟩ : ∃ q, q = w8.alloc (.cells #[.int .i64 p, .int .i64 t, .int .i64 s2] 32) := ⟨_, rfl⟩
      obtain ⟨b4, hb4⟩ : ∃ q, q = w8.heap.size := ⟨_, rfl⟩
      rw [← hw9] at X B1
      rw [← hb4] at X
      simp only [List.cons_append, List.nil_append] at X
      clear hb bl CJ VC
      go_wp2_with fail
      rw [← hw9]
      try rw [← hb4]
      clear hw9 hb4
      go_at_call 16
      refine (CL.out _ X.out.below).mono ?_
      rintro e w10 ⟨lx, ly, rfl, hlx, hly, hb⟩
      have X := hide (X.out.up hb)
      have B1 := hide (B1.out.trans (hb.mono B1.out.size))
      have VI := hide (fun (W : World) => iLev_any lx ly W hlx hly)
      have VS := hide (fun (W : World) => sLev_any lx ly W hlx hly)
      obtain ⟨lv, hlv⟩ : ∃ q, q = lvF lx ly := ⟨_, rfl⟩
      rw [← hlv] at VI VS
      clear hb CL hlx hly hlv
      go_wp2_with fail
      go_at_call 17
      refine (CS.out _ X.out.below).mono ?_
      rintro e w11 ⟨sd, rfl, hsd, hb⟩
      have X := hide (X.out.up hb)
      have B1 := hide (B1.out.trans (hb.mono B1.out.size))
      have NI := hide (fun (W : World) => iNext_any sd W)
      have NS := hide (fun (W : World) => sNext_any sd W)
      have hnr := nsF_range sd
      obtain ⟨nx, hnx⟩ : ∃ q, q = nsF sd := ⟨_, rfl⟩
      rw [← hnx] at NI NS hnr
      clear hb CS hsd hnx
      have hn1 : decide (0 ≤ nx) = true := decide_eq_true hnr.1
      have hn2 : decide (nx ≤ 10006) = true := decide_eq_true hnr.2
      clear hnr
      go_wp2_with fail
      go_at_call 18
      refine (NI.out _).mono ?_
      rintro e wq ⟨rfl, rfl⟩
      have q0 := X.out.cell 2 0 rfl rfl
      have q1 := X.out.cell 2 1 rfl rfl
      have q2 := X.out.cell 2 2 rfl rfl
      have q3 := X.out.cell 3 0 rfl rfl
      have q4 := X.out.cell 3 1 rfl rfl
      have q5 := X.out.cell 3 2 rfl rfl
      go_wp2_with fail
      go_at_call 19
      refine (VI.out _).mono ?_
      rintro e wq ⟨rfl, rfl⟩
      go_wp2_with fail
      go_at_call 20
      refine (VS.out _).mono ?_
      rintro e wq ⟨rfl, rfl⟩
      go_wp2_with fail
      go_at_call 21
      refine (NS.out _).mono ?_
      rintro e wq ⟨rfl, rfl⟩
      go_wp2_with fail
      clear q0 q1 q2 q3 q4 q5
      go_at_call 23
      refine (SI.out _ B1.out).mono ?_
      rintro e w12 ⟨vi, rfl, hi, hb⟩
      have X := hide (X.out.up hb)
      have B1 := hide (B1.out.trans (hb.mono B1.out.size))
      have I1 := hide (show IU w12 vi sl from hi.ints (Nat.le_refl _) (by have := HSL.out; omega) HWL.out)
      clear hb hi SI
      go_wp2_with fail
      go_at_call 24
      refine (SS.out _ B1.out).mono ?_
      rintro e w13 ⟨vs, hi2, rfl, O, hb⟩
      have X := hide (X.out.up hb)
      have I1 := hide (show IU w13 vi sl from ((show Ints w12 w12.heap.size vi sl from I1.out).below hb (Nat.le_refl _)).mono hb.size)
      have I2 := hide (show IU w13 vs sl from O.ints HWL.out)
      clear hb O SS
      go_wp2_with fail
      go_at_call 22
      refine (same_any vi vs sl _ _ I1.out I2.out).mono ?_
      rintro e w14 ⟨rfl, hb⟩
      have X := hide (X.out.up hb)
      clear hb
      go_wp2_with fail
      go_ret
      exact ⟨rfl, X.out.below⟩

end Go.Proofs.Ytfldnjkojdnjcaa
