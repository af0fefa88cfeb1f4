/- The choosers: a map of functions, made anew at each call; what is found in it (promise 4). -/
import Derived.Test.YtkhhlifnbelckaaRng
import Derived.Test.YtkhhlifnbelckaaKn
import Derived.Maps.Own
namespace Go.Proofs.Ytkhhlifnbelckaa
open Go.RowKit Go.ChangeShapes
open Go.ChangeMaps (setBlock)
set_option linter.unusedSimpArgs false
set_option linter.unusedVariables false
set_option maxRecDepth 100000

theorem run_insert_new {P : Program} {w : World} {t kt et : TypeId} {q : IntKind} {b clock : Nat} {es : Array MapEntry} {a : Int} {v : Value} (ht : P.underlying t = some (.map kt et)) (hk : P.underlying kt = some (.int q))
    (hb : w.heap[b]? = some (.map es clock)) (hn : Instr.findNow (.int q) (.int q a) es.toList 0 = some none) :
    (Instr.mapUpdate t (.map (some b)) (.int q a) v).run P w = .ok () (setBlock w b (.map (es.push { key := .int q a, val := v, born := clock }) (clock + 1))) := by
  unfold Instr.mapUpdate
  simp only [Sem.run_bind, run_underlying ht, Result.andThen, MapKept.run_getObj_map hb, MapKept.run_checkKey hk (show MapKept.IsKey (.int q) (.int q a) from rfl), MapKept.run_findKey hk hn, MapKept.run_setObj_map _ hb]
  rfl

theorem run_look_int {P : Program} {w : World} {t kt et : TypeId} {q : IntKind} {b clock : Nat} {es : Array MapEntry} {a : Int} {z : Value} {r : Option (Nat × Value)} (c : Bool) (ht : P.underlying t = some (.map kt et)) (hk : P.underlying kt = some (.int q))
    (hz : (zeroValue et).run P w = .ok z w) (hb : w.heap[b]? = some (.map es clock)) (hn : Instr.findNow (.int q) (.int q a) es.toList 0 = some r) :
    (Instr.lookup t (.map (some b)) (.int q a) c).run P w = .ok (if c = true then .tuple #[(r.map (·.2)).getD z, .bool r.isSome] else (r.map (·.2)).getD z) w := by
  unfold Instr.lookup
  simp only [Sem.run_bind, run_underlying ht, Result.andThen, MapKept.run_getObj_map hb, Sem.run_pure, MapKept.run_checkKey hk (show MapKept.IsKey (.int q) (.int q a) from rfl), MapKept.run_findKey hk hn]
  cases r with
  | none => simp only [Sem.run_bind, hz, Result.andThen, Sem.run_pure]; rfl
  | some r => rfl

/-- The names. -/
def nmPlain : ByteArray := ⟨#[112, 108, 97, 105, 110]⟩
def nmCenter : ByteArray := ⟨#[99, 101, 110, 116, 101, 114]⟩
def nmRandom : ByteArray := ⟨#[114, 97, 110, 100, 111, 109]⟩

/-- The entries. -/
def chE : Array MapEntry := #[⟨.int .i64 0, .agg #[.string nmPlain, .func (.func 108) #[] #[]], 0⟩, ⟨.int .i64 1, .agg #[.string nmCenter, .func (.func 108) #[] #[]], 1⟩, ⟨.int .i64 2, .agg #[.string nmRandom, .func (.func 109) #[] #[]], 2⟩]

/-- The choosers are returned. -/
def RetCh (w : World) (e : Ending) (w' : World) : Prop := ∃ b, e = .returned (.map (some b)) ∧ w'.heap[b]? = some (.map chE 3) ∧ w.heap.size ≤ b ∧ Below w.heap.size w w'

theorem setBlock_get {w : World} {b : Nat} {o : Obj} (h : b < w.heap.size) : (setBlock w b o).heap[b]? = some o := by simp [setBlock, h]
theorem setBlock_size {w : World} {b : Nat} {o : Obj} : (setBlock w b o).heap.size = w.heap.size := by simp [setBlock]
theorem setBlock_below {w w' : World} {n b : Nat} {o : Obj} (h : Below n w w') (hb : n ≤ b) : Below n w (setBlock w' b o) :=
  ⟨h.os, h.tape, h.output, by rw [setBlock_size]; exact h.size, fun k hk => by rw [← h.block k hk]; simp [setBlock]; rw [Array.getElem?_setIfInBounds_ne (by omega)]⟩

set_option maxHeartbeats 2000000 in
theorem choosers_any (w : World) : Calls Try.prog 82 #[] w (RetCh w) := by
  have hmm := @run_makeMap Try.prog
  obtain ⟨b, hb⟩ : ∃ b, b = w.heap.size := ⟨_, rfl⟩
  obtain ⟨w1, hw1⟩ : ∃ q, q = w.alloc (.map #[] 0) := ⟨_, rfl⟩
  have g1 : w1.heap[b]? = some (.map #[] 0) := by rw [hw1, hb]; exact heap_alloc_new _ _
  have s1 : w1.heap.size = b + 1 := by rw [hw1, hb]; simp
  have e1 := run_insert_new (P := Try.prog) (v := .agg #[.string nmPlain, .func (.func 108) #[] #[]]) Try.underlying102 Try.underlying3 g1 (a := 0) rfl
  obtain ⟨w2, hw2⟩ : ∃ q, q = setBlock w1 b (.map (#[].push ⟨.int .i64 0, .agg #[.string nmPlain, .func (.func 108) #[] #[]], 0⟩) (0 + 1)) := ⟨_, rfl⟩
  rw [← hw2] at e1
  have g2 : w2.heap[b]? = some (.map (#[].push ⟨.int .i64 0, .agg #[.string nmPlain, .func (.func 108) #[] #[]], 0⟩) (0 + 1)) := by rw [hw2]; exact setBlock_get (by omega)
  have s2 : w2.heap.size = b + 1 := by rw [hw2, setBlock_size, s1]
  have e2 := run_insert_new (P := Try.prog) (v := .agg #[.string nmCenter, .func (.func 108) #[] #[]]) Try.underlying102 Try.underlying3 g2 (a := 1) rfl
  obtain ⟨w3, hw3⟩ : ∃ q, q = setBlock w2 b (.map ((#[].push ⟨.int .i64 0, .agg #[.string nmPlain, .func (.func 108) #[] #[]], 0⟩).push ⟨.int .i64 1, .agg #[.string nmCenter, .func (.func 108) #[] #[]], 0 + 1⟩) (0 + 1 + 1)) := ⟨_, rfl⟩
  rw [← hw3] at e2
  have g3 : w3.heap[b]? = some (.map ((#[].push ⟨.int .i64 0, .agg #[.string nmPlain, .func (.func 108) #[] #[]], 0⟩).push ⟨.int .i64 1, .agg #[.string nmCenter, .func (.func 108) #[] #[]], 0 + 1⟩) (0 + 1 + 1)) := by rw [hw3]; exact setBlock_get (by omega)
  have s3 : w3.heap.size = b + 1 := by rw [hw3, setBlock_size, s2]
  have e3 := run_insert_new (P := Try.prog) (v := .agg #[.string nmRandom, .func (.func 109) #[] #[]]) Try.underlying102 Try.underlying3 g3 (a := 2) rfl
  obtain ⟨w4, hw4⟩ : ∃ q, q = setBlock w3 b (.map (((#[].push ⟨.int .i64 0, .agg #[.string nmPlain, .func (.func 108) #[] #[]], 0⟩).push ⟨.int .i64 1, .agg #[.string nmCenter, .func (.func 108) #[] #[]], 0 + 1⟩).push ⟨.int .i64 2, .agg #[.string nmRandom, .func (.func 109) #[] #[]], 0 + 1 + 1⟩) (0 + 1 + 1 + 1)) := ⟨_, rfl⟩
  rw [← hw4] at e3
  have g4 : w4.heap[b]? = some (.map chE 3) := by rw [hw4]; exact setBlock_get (by omega)
  have hbel : Below w.heap.size w w4 := by
    rw [hw4, hw3, hw2, hw1]
    exact setBlock_below (setBlock_below (setBlock_below (below1 w _) (by omega)) (by omega)) (by omega)
  unfold nmPlain at e1
  unfold nmCenter at e2
  unfold nmRandom at e3
  rw [hw1, hb] at e1
  rw [hb] at e2 e3
  clear g1 g2 g3 s1 s2 s3 hw1 hw2 hw3 hw4
  go_enter Try.func82, Try.ntmps82
  go_wp2_with fail
  go_ret
  subst hb
  exact ⟨_, rfl, g4, Nat.le_refl _, hbel⟩

/-- What is found at a policy: 'v, ok := choosers()[p]'. -/
def chV (p : Int) : Value := if p = 0 then .agg #[.string nmPlain, .func (.func 108) #[] #[]] else if p = 1 then .agg #[.string nmCenter, .func (.func 108) #[] #[]] else if p = 2 then .agg #[.string nmRandom, .func (.func 109) #[] #[]] else .agg #[.string .empty, .nilFunc]
def chK (p : Int) : Bool := decide (0 ≤ p ∧ p ≤ 2)

theorem zeroCh (w : World) : (zeroValue 100).run Try.prog w = .ok (.agg #[.string .empty, .nilFunc]) w := by kernel_rfl

theorem find_ch (p : Int) : Instr.findNow (.int .i64) (.int .i64 p) chE.toList 0 = some (if p = 0 then some (0, chV 0) else if p = 1 then some (1, chV 1) else if p = 2 then some (2, chV 2) else none) := by
  unfold chE
  simp only [Instr.findNow, Instr.sameNow, if_true]
  by_cases h0 : p = 0
  · subst h0; rfl
  by_cases h1 : p = 1
  · subst h1; rfl
  by_cases h2 : p = 2
  · subst h2; rfl
  rw [if_neg h0, if_neg h1, if_neg h2, show (p == 0) = false by simp [h0], show (p == 1) = false by simp [h1], show (p == 2) = false by simp [h2]]

theorem look_ch {w : World} {b : Nat} (h : w.heap[b]? = some (.map chE 3)) (p : Int) (c : Bool) :
    (Instr.lookup 102 (.map (some b)) (.int .i64 p) c).run Try.prog w = .ok (if c = true then .tuple #[chV p, .bool (chK p)] else chV p) w := by
  rw [run_look_int c Try.underlying102 Try.underlying3 (zeroCh w) h (find_ch p)]
  unfold chK
  by_cases h0 : p = 0
  · subst h0; rfl
  by_cases h1 : p = 1
  · subst h1; rfl
  by_cases h2 : p = 2
  · subst h2; rfl
  rw [if_neg h0, if_neg h1, if_neg h2, show decide (0 ≤ p ∧ p ≤ 2) = false from decide_eq_false (by omega)]
  unfold chV
  rw [if_neg h0, if_neg h1, if_neg h2]
  rfl

end Go.Proofs.Ytkhhlifnbelckaa
