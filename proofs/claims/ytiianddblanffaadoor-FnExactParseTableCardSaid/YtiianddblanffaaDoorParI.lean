/- What ParseTable of the program returns (promise 2). -/
import Derived.Test.YtiianddblanffaaDoorLines
namespace Go.Proofs.YtiianddblanffaaDoor
open Go.RowKit Go.ChangeShapes
set_option linter.unusedSimpArgs false
set_option linter.unusedVariables false
set_option maxRecDepth 100000
attribute [local go_sem] Oper.semAt_some

theorem row_cells {w : World} {base : Nat} {e : TypeId} {z n : Nat} {v : Value} {xs : List Value} (h : w.ownsRow base e z v n xs) : ∀ g, v.ownBlock = some g → ∃ o, w.heap[g]? = some o ∧ o.isCells = true := by
  intro g hg
  rcases h.2 with ⟨rfl, _⟩ | ⟨g', cap, cur, rfl, _, hh, _⟩
  · simp [Value.ownBlock] at hg
  · simp [Value.ownBlock] at hg
    subst hg
    exact ⟨_, hh, rfl⟩

theorem colsE_cells {w : World} {v : Value} {cs : List Col} {F : List Nat} (h : colsE w v cs F) : ∀ b ∈ F, ∃ o, w.heap[b]? = some o ∧ o.isCells = true := by
  rcases h with ⟨_, _, rfl⟩ | ⟨g, cap, xs, F', rfl, h2, h3, rfl, h5⟩
  · intro b hb; simp at hb
  · intro b hb
    rcases List.mem_cons.1 hb with rfl | hb
    · exact row_cells h2 _ rfl
    · clear h2 h5
      have key : ∀ (ds : List Col) (c : List Value) (F : List Nat), rowE colE w ds c F → ∀ b ∈ F, ∃ o, w.heap[b]? = some o ∧ o.isCells = true := by
        intro ds
        induction ds with
        | nil => rintro c F ⟨_, rfl⟩ b hb; simp at hb
        | cons d ds ih =>
          rintro c F ⟨c1, c2, F1, F2, rfl, rfl, ⟨u, _, hoi⟩, hr⟩ b hb
          rcases List.mem_append.1 hb with hb | hb
          · rw [hoi.2] at hb
            exact row_cells hoi.1 b (by simpa using hb)
          · exact ih _ _ hr b hb
      exact key _ _ _ h3 b hb

theorem rowsP_append : ∀ (a b : List (List UInt8)) (cs : List Col), rowsP cs (a ++ b) = (rowsP cs a).bind fun ds => rowsP ds b := by
  intro a
  induction a with
  | nil => intro b cs; simp [rowsP]
  | cons l a ih =>
    intro b cs
    simp only [List.cons_append, rowsP]
    split
    · split
      · exact ih b _
      · rfl
    · rfl

theorem rowsP_len : ∀ (ls : List (List UInt8)) (cs ds : List Col), isT cs = true → rowsP cs ls = some ds → ds.length = cs.length := by
  intro ls
  induction ls with
  | nil => intro cs ds _ h; simp only [rowsP, Option.some.injEq] at h; rw [h]
  | cons l ls ih =>
    intro cs ds ht h
    simp only [rowsP] at h
    split at h
    · rename_i es he
      split at h
      · rename_i hi
        obtain ⟨vs, hl, rfl, _⟩ := addRow_sound ht he
        rw [ih _ _ hi h, zapp_length cs vs hl]
      · cases h
    · cases h

/-- A parsed table of the call's own is returned, or none; nothing that was there has turned. -/
def RetPar (w : World) (r : Option (List Col)) (e : Ending) (w' : World) : Prop := Below w.heap.size w w' ∧ match r with
  | some cs => ∃ a cap F, e = .returned (.tuple #[.agg #[.slice a cs.length cap], .bool true]) ∧ colsE w' (.slice a cs.length cap) cs F ∧ ∀ b ∈ F, w.heap.size ≤ b
  | none => e = .returned (.tuple #[.agg #[.slice none 0 0], .bool false])

/-- The result's two variables, as they were made; nothing old has turned. -/
structure RB (w W : World) : Prop where
  below : Below w.heap.size w W
  b0 : W.heap[w.heap.size]? = some (.cells #[.slice none 0 0] 29 (0, 0))
  b1 : W.heap[w.heap.size + 1]? = some (.cells #[.bool false] 4 (0, 0))

theorem RB.new (w : World) : RB w ((w.alloc (.cells #[.slice none 0 0] 29)).alloc (.cells #[.bool false] 4)) := by
  have e := alloc_size w (.cells #[.slice none 0 0] 29)
  refine ⟨((Below.refl _ _).alloc (Nat.le_refl _) _).alloc (by omega) _, ?_, ?_⟩
  · rw [Below.heap_alloc _ _ _ (by omega)]
    exact heap_alloc_new w _
  · rw [← e]
    exact heap_alloc_new _ _

theorem RB.lt {w W : World} (h : RB w W) : w.heap.size + 1 < W.heap.size := (Array.getElem?_eq_some_iff.1 h.b1).1

theorem RB.up {w W W' : World} (h : RB w W) (hb : Below W.heap.size W W') : RB w W' :=
  ⟨h.below.trans (hb.mono h.below.size), by rw [hb.block _ (by have := h.lt; omega)]; exact h.b0, by rw [hb.block _ h.lt]; exact h.b1⟩

theorem RB.cells {w W : World} (h : RB w W) : W.cell? ⟨w.heap.size, 0, none⟩ = some (.slice none 0 0) ∧ W.frozen? ⟨w.heap.size, 0, none⟩ = false ∧ W.cell? ⟨w.heap.size + 1, 0, none⟩ = some (.bool false) ∧ W.frozen? ⟨w.heap.size + 1, 0, none⟩ = false :=
  ⟨(cell_blk h.b0).1, (cell_blk h.b0).2, (cell_blk h.b1).1, (cell_blk h.b1).2⟩

theorem set2 {W : World} {p q : Nat} {u z v x : Value} {T T' : TypeId} (h0 : W.heap[p]? = some (.cells #[u] T (0, 0))) (h1 : W.heap[q]? = some (.cells #[z] T' (0, 0))) (hne : p ≠ q) :
    ((W.setCell ⟨p, 0, none⟩ v).setCell ⟨q, 0, none⟩ x).cell? ⟨p, 0, none⟩ = some v ∧ ((W.setCell ⟨p, 0, none⟩ v).setCell ⟨q, 0, none⟩ x).cell? ⟨q, 0, none⟩ = some x := by
  have a0 := blk_set (y := v) h0
  have a1 : (W.setCell ⟨p, 0, none⟩ v).heap[q]? = some (.cells #[z] T' (0, 0)) := (Below.heap_setCell _ _ _ _ (fun e => hne e.symm)).trans h1
  have c1 := blk_set (y := x) a1
  have c0 : ((W.setCell ⟨p, 0, none⟩ v).setCell ⟨q, 0, none⟩ x).heap[p]? = some (.cells #[v] T (0, 0)) := (Below.heap_setCell _ _ _ _ hne).trans a0
  exact ⟨(cell_blk c0).1, (cell_blk c1).1⟩

theorem keepBlk {B Bs : Nat} {W W' : World} (h : ∀ k, k < W.heap.size → k ≠ Bs → W'.heap[k]? = W.heap[k]? ∨ (B ≤ k ∧ ∃ o, W.heap[k]? = some o ∧ o.isCells = false)) {k : Nat} {o : Obj} (hk : W.heap[k]? = some o) (ho : o.isCells = true) (hne : k ≠ Bs) : W'.heap[k]? = W.heap[k]? := by
  rcases h k (Array.getElem?_eq_some_iff.1 hk).1 hne with h | ⟨_, o', ho', hc⟩
  · exact h
  · rw [hk] at ho'
    cases ho'
    rw [ho] at hc
    cases hc

theorem RB.lets {w W W' : World} {B Bs : Nat} (h : RB w W) (hs : W.heap.size ≤ W'.heap.size) (ho : W'.os = W.os) (hu : W'.output = W.output) (ht : W'.tape = W.tape) (hB : w.heap.size ≤ B) (hBs : w.heap.size + 1 < Bs)
    (hk : ∀ k, k < W.heap.size → k ≠ Bs → W'.heap[k]? = W.heap[k]? ∨ (B ≤ k ∧ ∃ o, W.heap[k]? = some o ∧ o.isCells = false)) : RB w W' := by
  refine ⟨h.below.trans ⟨ho, ht, hu, hs, fun k hkw => ?_⟩, ?_, ?_⟩
  · rcases hk k (Nat.lt_of_lt_of_le hkw h.below.size) (by omega) with e | ⟨hb, _⟩
    · exact e
    · omega
  · rw [keepBlk hk h.b0 rfl (by omega)]; exact h.b0
  · rw [keepBlk hk h.b1 rfl (by omega)]; exact h.b1

theorem RB.only {w W W' : World} {F : List Nat} (h : RB w W) (hb : Only F W W') (hF : ∀ b ∈ F, w.heap.size + 1 < b) : RB w W' := by
  have hl := h.lt
  refine ⟨h.below.trans (hb.toBelow (fun b hf => by have := hF b hf; omega) (by omega)), ?_, ?_⟩
  · rw [hb.block _ (by omega) (fun hf => by have := hF _ hf; omega)]; exact h.b0
  · rw [hb.block _ hl (fun hf => by have := hF _ hf; omega)]; exact h.b1

theorem RB.stored {w W : World} (h : RB w W) : RB w ((W.setCell ⟨w.heap.size, 0, none⟩ (.slice none 0 0)).setCell ⟨w.heap.size + 1, 0, none⟩ (.bool false)) := by
  refine ⟨(h.below.setCell (p := ⟨w.heap.size, 0, none⟩) (Nat.le_refl _) _).setCell (p := ⟨w.heap.size + 1, 0, none⟩) (Nat.le_succ _) _, ?_, ?_⟩
  · exact (Below.heap_setCell _ _ _ _ (show w.heap.size ≠ w.heap.size + 1 by omega)).trans (blk_set h.b0)
  · exact blk_set ((Below.heap_setCell _ _ _ _ (show w.heap.size + 1 ≠ w.heap.size by omega)).trans h.b1)

theorem KeepsOthers.of_only {W W' : World} {F : List Nat} (h : Only F W W') (hF : ∀ b ∈ F, ∃ o, W.heap[b]? = some o ∧ o.isCells = true) : KeepsOthers W W' :=
  ⟨h.below.size, fun k o hk ho => by
    rw [h.block k (Array.getElem?_eq_some_iff.1 hk).1 (fun hf => by
      obtain ⟨o', h1, h2⟩ := hF k hf
      rw [hk] at h1
      cases h1
      rw [ho] at h2
      cases h2)]
    exact hk⟩

theorem KeepsOthers.of_below {W W' : World} (h : Below W.heap.size W W') : KeepsOthers W W' :=
  ⟨h.size, fun k o hk _ => by rw [h.block k (Array.getElem?_eq_some_iff.1 hk).1]; exact hk⟩

theorem mem_len {x : List UInt8} : ∀ {ls : List (List UInt8)}, x ∈ ls → x.length ≤ ls.flatten.length := by
  intro ls
  induction ls with
  | nil => intro h; simp at h
  | cons l ls ih =>
    intro h
    rw [List.flatten_cons, List.length_append]
    rcases List.mem_cons.1 h with rfl | h
    · omega
    · have := ih h; omega

theorem addP_from : ∀ (cs : List Col) (ws : List (List UInt8)) (ds : List Col), addP cs ws = some ds → ∀ c ∈ ds, ∃ c0 ∈ cs, ∃ w, c = (c0.1, c0.2 ++ [(ParI w).1]) := by
  intro cs
  induction cs with
  | nil =>
    intro ws ds h
    cases ws with
    | nil => simp [addP] at h; subst h; intro c hc; simp at hc
    | cons w ws => simp [addP] at h
  | cons c cs ih =>
    intro ws ds h
    cases ws with
    | nil => simp [addP] at h
    | cons w ws =>
      simp only [addP] at h
      split at h
      · rw [Option.map_eq_some_iff] at h
        obtain ⟨es, he, rfl⟩ := h
        intro d hd
        rcases List.mem_cons.1 hd with rfl | hd
        · exact ⟨c, by simp, w, rfl⟩
        · obtain ⟨c0, h0, w0, e0⟩ := ih ws es he d hd
          exact ⟨c0, by simp [h0], w0, e0⟩
      · cases h

theorem par_i64 (w : List UInt8) : I64 (ParI w).1 := by
  have := numS_le w
  unfold ParI I64
  split
  · simp only; omega
  · simp

theorem addRow_bounds {cs ds : List Col} {line : List UInt8} (h : isT cs = true) (ha : addRowP cs line = some ds) : ∀ c ∈ ds, c.1.size ≤ 9223372036854775807 ∧ ∀ x ∈ c.2, I64 x := by
  have ht := isT_ok h
  unfold addRowP at ha
  split at ha
  · intro c hc
    obtain ⟨c0, h0, w, rfl⟩ := addP_from _ _ _ ha c hc
    obtain ⟨j, hj, rfl⟩ := List.getElem_of_mem h0
    obtain ⟨h1, h2, -, -⟩ := ht.2 j hj
    constructor
    · simp [isNm] at h1
      simp only
      omega
    · intro x hx
      rcases List.mem_append.1 hx with hx | hx
      · simp [areVals] at h2
        have := h2.2 x hx
        unfold I64
        omega
      · simp at hx
        subst hx
        exact par_i64 w
  · cases ha

/-- What holds between two lines. -/
def BetweenL (w : World) (a : Option Addr) (n cap bt Bs : Nat) (cs0 : List Col) (xs : List ByteArray) (pre : List ByteArray) (W : World) : Prop :=
  ∃ cs F, pre <+: xs ∧ rowsP cs0 (pre.map (·.data.toList)) = some cs ∧ isT cs = true ∧ cs.length = n ∧ colsE W (.slice a n cap) cs F ∧ (∀ b ∈ F, w.heap.size + 1 < b ∧ b ≠ bt ∧ b ≠ Bs) ∧ W.heap[bt]? = some (.cells #[.slice a n cap] 29 (0, 0)) ∧ RB w W

theorem between_lets (w : World) (a : Option Addr) (n cap bt Bs B : Nat) (cs0 : List Col) (xs : List ByteArray) (hB : w.heap.size ≤ B) (hBs : w.heap.size + 1 < Bs) (hne : bt ≠ Bs) : LetsC B Bs (BetweenL w a n cap bt Bs cs0 xs) := by
  rintro pre W W' ⟨cs, F, h1, h2, h3, h4, h5, h6, h7, h8⟩ hs ho hu ht hk
  refine ⟨cs, F, h1, h2, h3, h4, ?_, h6, ?_, h8.lets hs ho hu ht hB hBs hk⟩
  · exact slE.kept colE_good h5 fun b hb => by
      obtain ⟨o, h9, h10⟩ := colsE_cells h5 b hb
      exact keepBlk hk h9 h10 (h6 b hb).2.2
  · rw [keepBlk hk h7 rfl hne]; exact h7

theorem lines_make (s : ByteArray) (w : World) : Calls Tryd.prog 30 #[.string s] w fun e w' => e = .returned (.func (.func 50) #[] #[.pointer (some ⟨w.heap.size, 0, none⟩)]) ∧ w' = w.alloc (.cells #[.string s] 9) := by
  go_enter Tryd.func30, Tryd.ntmps30
  go_wp2
  go_ret
  exact ⟨rfl, rfl⟩

set_option maxHeartbeats 4000000 in
theorem iParse_any (s : ByteArray) (w : World) (hs : s.size ≤ 1048576) (hT : Tab w) (hM : ML w) :
    Calls Tryd.prog 11 #[.string s] w (RetPar w (implP s.data.toList)) := by
  have h0 := fun (x y : World) (hb : Below w.heap.size w x) => hb
  obtain ⟨r, hr⟩ : ∃ r, r = implP s.data.toList := ⟨_, rfl⟩
  rw [← hr]
  obtain ⟨⟨hd, bd, en⟩, hcut⟩ : ∃ p, p = Lib.cut s.data.toList [10] := ⟨_, rfl⟩
  unfold implP at hr
  rw [← hcut] at hr
  simp only at hr
  have HCUT := hide (show ∀ W : World, ML W → Calls Tryd.prog 28 #[.string s, .string ⟨#[10]⟩] W fun e w' => e = .returned (.tuple #[.string ⟨hd.toArray⟩, .string ⟨bd.toArray⟩, .bool en]) ∧ Below W.heap.size W w' from fun W ⟨m, hm⟩ => by
    have := Tryd.strings_Cut s ⟨#[10]⟩ m W (by omega) hm
    rw [show (ByteArray.mk #[10]).data.toList = [10] from rfl, ← hcut] at this
    exact this.mono fun _ _ ⟨p, n, q⟩ => ⟨p, by rw [q]; exact below_drewN (Below.refl _ _) _⟩)
  have hlen : hd.length ≤ 1048576 ∧ bd.length ≤ 1048576 := by
    have hl : s.data.toList.length ≤ 1048576 := by simpa using hs
    by_cases hm : (10 : UInt8) ∈ s.data.toList
    · obtain ⟨a, b, e, ha⟩ := first_at 10 _ hm
      rw [e, cut_hit 10 a b ha] at hcut
      rw [e] at hl
      simp at hcut hl
      obtain ⟨rfl, rfl, _⟩ := hcut
      omega
    · rw [cut_miss 10 _ hm] at hcut
      simp at hcut
      obtain ⟨rfl, rfl, _⟩ := hcut
      simp
      simpa using hs
  obtain ⟨hl1, hl2⟩ := hlen
  have HTN := hide (show ∀ W : World, ML W → Calls Tryd.prog 29 #[.string ⟨hd.toArray⟩] W (RetOT W (nameC (partsP hd 5))) from fun W hW => by
    have := tabN_any ⟨hd.toArray⟩ W hW (by simpa [ByteArray.size] using hl1)
    rw [show (ByteArray.mk hd.toArray).data.toList = hd from by simp] at this
    exact this)
  obtain ⟨cs0, hcs0⟩ : ∃ cs0, cs0 = nameC (partsP hd 5) := ⟨_, rfl⟩
  have hsz0 : ∀ c ∈ cs0, c.1.size ≤ 9223372036854775807 ∧ ∀ x ∈ c.2, I64 x := by
    intro c hc
    rw [hcs0] at hc
    obtain ⟨wd, hw, rfl⟩ := List.mem_map.1 hc
    refine ⟨?_, by simp⟩
    have hj : Lib.join (partsP hd 5) [32] = hd := (splitK_join 32 _ _).2
    have key : ∀ (ws : List (List UInt8)), ∀ x ∈ ws, x.length ≤ (Lib.join ws [32]).length := by
      intro ws
      induction ws with
      | nil => simp
      | cons v vs ih =>
        intro x hx
        cases vs with
        | nil => rw [Lib.join_one]; simp at hx; subst hx; exact Nat.le_refl _
        | cons u us =>
          have e : Lib.join (v :: u :: us) [32] = v ++ 32 :: Lib.join (u :: us) [32] := by
            rw [Lib.join_cons, Lib.join_cons]
            simp [Lib.joinTail]
          rw [e, List.length_append, List.length_cons]
          rcases List.mem_cons.1 hx with rfl | hx
          · omega
          · have := ih x hx; omega
    have := key _ wd hw
    rw [hj] at this
    simp [ByteArray.size]
    omega
  rw [← hcs0] at hr HTN
  have HSZ := hide hsz0
  have HR := hide hr
  have HT := hide hT
  have HM := hide hM
  clear hr hcut hcs0 hsz0 hT hM h0 hl1
  have R2 := hide (RB.new w)
  have M2 := hide (HM.out.up R2.out.below)
  refine (callsIn_wide (n := 8)).1 ?_
  refine callsIn_of_wp_marks Tryd.func11 rfl trivial ?_ rfl
  simp only [Tryd.ntmps11, List.size_toArray, List.length_cons, List.length_nil, Nat.reduceAdd, Nat.reduceSub, Array.replicate_succ, Array.replicate_zero, List.push_toArray, List.append_toArray, List.nil_append, List.cons_append]
  gi_wp2_with fail
  obtain ⟨w2, hw2⟩ : ∃ w2, w2 = (w.alloc (.cells #[.slice none 0 0] 29)).alloc (.cells #[.bool false] 4) := ⟨_, rfl⟩
  rw [← hw2] at R2 M2 ⊢
  clear hw2
  refine ⟨trivial, ?_⟩
  gi_at_call 28
  refine (callsIn_wide.2 (HCUT.out _ M2.out)).mono ?_
  rintro e w3 ⟨rfl, hb3⟩
  have R3 := hide (R2.out.up hb3)
  have M3 := hide (M2.out.up hb3)
  clear hb3
  gi_wp2_with fail
  refine ⟨trivial, ?_⟩
  gi_at_call 29
  refine (callsIn_wide.2 (HTN.out _ M3.out)).mono ?_
  rintro e w4 ⟨a, cap, F0, rfl, ho4, hlo4, hb4⟩
  have R4 := hide (R3.out.up hb4)
  have O4 := hide ho4
  have F4lo := hide (show ∀ b ∈ F0, w.heap.size + 1 < b from fun b hb => Nat.lt_of_lt_of_le R3.out.lt (hlo4 b hb))
  have F4hi := hide (slE.lt colE_good ho4)
  clear ho4 hlo4 hb4
  have R5 := hide (R4.out.up ((Below.refl w4.heap.size w4).alloc (Nat.le_refl _) (.cells #[.slice a cs0.length cap] 29)))
  obtain ⟨rc0, rf0, rc1, rf1⟩ := R5.out.cells
  cases en
  · have hrn := hide (show r = none by rw [HR.out, if_neg (by simp)])
    gi_wp2_with fail
    refine ⟨trivial, ?_⟩
    gi_wp2_with fail
    obtain ⟨e0, e1⟩ := set2 (v := .slice none 0 0) (x := .bool false) R5.out.b0 R5.out.b1 (by omega)
    refine ⟨.tuple #[.agg #[.slice none 0 0], .bool false], by simp [results, Tryd.results11, go_sem, e0, e1], ?_⟩
    rw [hrn.out]
    exact ⟨(R5.out.below.setCell (p := ⟨w.heap.size, 0, none⟩) (Nat.le_refl _) _).setCell (p := ⟨w.heap.size + 1, 0, none⟩) (Nat.le_succ _) _, rfl⟩
  · have HB5 := hide ((Below.refl w4.heap.size w4).alloc (Nat.le_refl _) (.cells #[.slice a cs0.length cap] 29))
    have O5 := hide (slE.below colE_good O4.out HB5.out)
    have X5 := hide (show (w4.alloc (.cells #[.slice a cs0.length cap] 29)).heap[w4.heap.size]? = some (.cells #[.slice a cs0.length cap] 29 (0, 0)) from heap_alloc_new w4 _)
    have T5 := hide (show Tbl (w4.alloc (.cells #[.slice a cs0.length cap] 29)) (w4.alloc (.cells #[.slice a cs0.length cap] 29)).heap.size (.agg #[.slice a cs0.length cap]) cs0 from ⟨_, rfl, colsE_cols O5.out (Nat.le_refl _) HSZ.out⟩)
    obtain ⟨t0, ht0⟩ : ∃ t0, t0 = isT cs0 := ⟨_, rfl⟩
    have HT0 := hide ht0
    have HITA := hide (iTable_any _ cs0 _ _ T5.out (Nat.le_refl _))
    rw [← ht0] at HITA
    clear ht0
    obtain ⟨bt, hbt⟩ : ∃ bt, bt = w4.heap.size := ⟨_, rfl⟩
    have BT := hide (show w.heap.size + 1 < bt ∧ ∀ b ∈ F0, b ≠ bt from ⟨by rw [hbt]; exact R4.out.lt, fun b hb e => by have := F4hi.out b hb; omega⟩)
    gi_wp2_with fail
    rw [← hbt] at X5
    try rw [← hbt]
    obtain ⟨w5, hw5⟩ : ∃ w5, w5 = w4.alloc (.cells #[.slice a cs0.length cap] 29) := ⟨_, rfl⟩
    rw [← hw5] at R5 O5 X5 T5 HITA rc0 rf0 rc1 rf1
    try rw [← hw5]
    clear hw5 hbt HB5
    refine ⟨trivial, ?_⟩
    gi_at_call 19
    refine (callsIn_wide.2 HITA.out).mono ?_
    rintro e w6 ⟨rfl, hb6⟩
    clear rc0 rf0 rc1 rf1
    have R6 := hide (R5.out.up hb6)
    obtain ⟨rc0, rf0, rc1, rf1⟩ := R6.out.cells
    have O6 := hide (slE.below colE_good O5.out hb6)
    have X6 := hide (show w6.heap[bt]? = some (.cells #[.slice a cs0.length cap] 29 (0, 0)) by rw [hb6.block bt (Array.getElem?_eq_some_iff.1 X5.out).1]; exact X5.out)
    clear hb6
    cases t0
    · have hrn := hide (show r = none by rw [HR.out, if_neg (by rw [← HT0.out]; simp)])
      gi_wp2_with fail
      obtain ⟨e0, e1⟩ := set2 (v := .slice none 0 0) (x := .bool false) R6.out.b0 R6.out.b1 (by omega)
      refine ⟨.tuple #[.agg #[.slice none 0 0], .bool false], by simp [results, Tryd.results11, go_sem, e0, e1], ?_⟩
      rw [hrn.out]
      exact ⟨(R6.out.below.setCell (p := ⟨w.heap.size, 0, none⟩) (Nat.le_refl _) _).setCell (p := ⟨w.heap.size + 1, 0, none⟩) (Nat.le_succ _) _, rfl⟩
    · have HR2 := hide (show r = rowsP cs0 (linesL bd) by rw [HR.out, if_pos ⟨trivial, HT0.out.symm⟩])
      gi_wp2_with fail
      refine ⟨trivial, ?_⟩
      gi_at_call 30
      refine (callsIn_wide.2 (lines_make ⟨bd.toArray⟩ w6)).mono ?_
      rintro e wL ⟨he, hwL⟩
      subst he
      have RL := hide (show RB w wL by rw [hwL]; exact R6.out.up ((Below.refl _ _).alloc (Nat.le_refl _) _))
      have OL := hide (show colsE wL (.slice a cs0.length cap) cs0 F0 by rw [hwL]; exact slE.below colE_good O6.out ((Below.refl _ _).alloc (Nat.le_refl _) _))
      obtain ⟨Bs, hBs⟩ : ∃ Bs, Bs = w6.heap.size := ⟨_, rfl⟩
      have XL := hide (show wL.heap[bt]? = some (.cells #[.slice a cs0.length cap] 29 (0, 0)) by
        rw [hwL, Below.heap_alloc _ _ _ (Array.getElem?_eq_some_iff.1 X6.out).1]; exact X6.out)
      have SL := hide (show wL.heap[Bs]? = some (.cells #[.string ⟨bd.toArray⟩] 9 (0, 0)) by rw [hwL, hBs]; exact heap_alloc_new w6 _)
      have ZL := hide (show bt < Bs ∧ wL.heap.size = Bs + 1 ∧ (∀ b ∈ F0, b < Bs) by
        refine ⟨by rw [hBs]; exact (Array.getElem?_eq_some_iff.1 X6.out).1, by rw [hwL, hBs]; exact alloc_size _ _, fun b hb => by rw [hBs]; exact slE.lt colE_good O6.out b hb⟩)
      rw [← hBs]
      clear hwL hBs rc0 rf0 rc1 rf1
      gi_wp2_with fail
      obtain ⟨xs, hxs⟩ : ∃ xs, xs = wB (linesL bd) := ⟨_, rfl⟩
      have hseq := lines_seq 7 (by omega) Bs bd wL SL.out hl2
      rw [← hxs] at hseq
      have HXS := hide hxs
      have hbig : w.heap.size ≤ wL.heap.size ∧ w.heap.size + 1 < Bs ∧ bt ≠ Bs ∧ Bs < wL.heap.size := by have := BT.out.1; have := ZL.out; omega
      obtain ⟨hg1, hg2, hg3, hg4⟩ := hbig
      clear hxs
      refine rangeFunc_w rfl (by omega) (gf := 50) (lb := #[.pointer (some ⟨Bs, 0, none⟩)]) rfl trivial (enters_of Tryd.func50 (by kernel_rfl) rfl) hg4 hseq (fun _ => rfl)
        (BetweenL w a cs0.length cap bt Bs cs0 xs) (fun _ _ W => RB w W ∧ r = none)
        (between_lets w a _ cap bt Bs _ cs0 xs hg1 hg2 hg3) (fun _ => fun s W W' h h1 h2 h3 h4 h5 => ⟨h.1.lets h1 h2 h3 h4 hg1 hg2 h5, h.2⟩)
        ⟨cs0, F0, List.nil_prefix, rfl, HT0.out.symm, rfl, OL.out, fun b hb => ⟨F4lo.out b hb, BT.out.2 b hb, by have := ZL.out.2.2 b hb; omega⟩, XL.out, RL.out⟩
        (fun x => { tmps := #[.string s, undef, .pointer (some ⟨w.heap.size, 0, none⟩), .pointer (some ⟨w.heap.size + 1, 0, none⟩), .string ⟨hd.toArray⟩, .string ⟨bd.toArray⟩, .bool true, .pointer (some ⟨bt, 0, none⟩), .string x, .tuple #[.string ⟨hd.toArray⟩, .string ⟨bd.toArray⟩, .bool true], .string s, .tuple #[.string ⟨hd.toArray⟩, .string ⟨bd.toArray⟩, .bool true], .string ⟨hd.toArray⟩, .string ⟨bd.toArray⟩, .bool true, .string ⟨hd.toArray⟩, .agg #[.slice a cs0.length cap], .bool true, .bool false, .bool false, .agg #[.slice a cs0.length cap], .bool true, .bool false, .bool false, undef, .string ⟨bd.toArray⟩, .func (.func 50) #[] #[.pointer (some ⟨Bs, 0, none⟩)], .string x, undef, undef, undef, undef, undef, undef, undef, undef, undef, undef, undef], defers := [] })
        ?assign ?body ?done ?stop
      case assign =>
        intro l x W K hK
        gi_wp2
        exact hK
      case body =>
        rintro l pre x W ⟨cs, F, h1, h2, h3, h4, h5, h6, h7, h8⟩ hx hBW hlW
        have hxm : x ∈ xs := List.mem_of_getElem? hx
        have hpx : (pre ++ [x]) <+: xs := by
          obtain ⟨rest, hrest⟩ := h1
          rw [← hrest, List.getElem?_append_right (Nat.le_refl _), Nat.sub_self] at hx
          cases rest with
          | nil => simp at hx
          | cons y ys =>
            simp at hx
            subst hx
            exact ⟨ys, by rw [← hrest]; simp⟩
        have hxl : x.size ≤ 1048576 := by
          rw [HXS.out] at hxm
          obtain ⟨y, hy, rfl⟩ := List.mem_map.1 hxm
          have := mem_len hy
          rw [linesL_flat] at this
          simp [ByteArray.size]
          omega
        have hbelow := h8.below
        have hF0 : ∀ b ∈ F, w.heap.size ≤ b := fun b hb => by have := (h6 b hb).1; omega
        have hadd := addRow_any a cap cs F x W (by rw [h4]; exact h5) h3 w HT.out HM.out hbelow hF0 hxl
        rw [h4] at hadd
        have hcellF := colsE_cells h5
        obtain ⟨q, hq⟩ : ∃ q, q = addRowP cs x.data.toList := ⟨_, rfl⟩
        rw [← hq] at hadd
        have ctb := (cell_blk h7).1
        have HADD := hide hadd
        have HPX := hide hpx
        have HQ := hide hq
        have H2 := hide h2
        have H4 := hide h4
        have H5 := hide h5
        have H6 := hide h6
        have H7 := hide h7
        have H8 := hide h8
        have HCF := hide hcellF
        have hdead : Hid (∀ c : Option (List Col), (match q with | some ds => if isT ds = true then some ds else none | none => none) = none → r = none) := by
          intro _ hm
          rw [HR2.out]
          obtain ⟨rest, hrest⟩ := HPX.out
          have e : linesL bd = (pre.map (·.data.toList) ++ [x.data.toList]) ++ rest.map (·.data.toList) := by
            have : (wB (linesL bd)).map (·.data.toList) = linesL bd := wB_data _
            rw [← this, ← HXS.out, ← hrest]
            simp
          rw [e, rowsP_append, rowsP_append, H2.out]
          simp only [Option.bind_some, rowsP]
          rw [← HQ.out]
          cases q with
          | none => rfl
          | some ds =>
            simp only at hm ⊢
            by_cases hi : isT ds = true
            · rw [if_pos hi] at hm; cases hm
            · rw [if_neg hi]; rfl
        clear h1 h2 h4 h5 h6 h8 hx hxm hpx hbelow hF0 hadd hcellF hq
        cases q with
        | none =>
          have hrn := hide (hdead.out none rfl)
          gi_wp2_with fail
          refine ⟨trivial, ?_⟩
          gi_at_call 31
          refine (CallsIn.inRound l (callsIn_wide.2 HADD.out)).mono ?_
          rintro e W2 ⟨ho2, rfl⟩
          have hk2 := hide (KeepsOthers.of_only ho2 HCF.out)
          have hR2 := hide (H8.out.only ho2 (fun b hb => (H6.out b hb).1))
          obtain ⟨rc0, rf0, rc1, rf1⟩ := hR2.out.cells
          clear ho2
          gi_wp2_with fail
          refine ⟨trivial, ?_⟩
          gi_wp2_with fail
          exact ⟨(hk2.out.trans (KeepsOthers.setCell _ _ _)).trans (KeepsOthers.setCell _ _ _), hR2.out.stored, hrn.out⟩
        | some ds =>
          have hbnd := hide (addRow_bounds h3 HQ.out.symm)
          obtain ⟨t1, ht1⟩ : ∃ t, t = isT ds := ⟨_, rfl⟩
          have HT1 := hide ht1
          clear ht1
          gi_wp2_with fail
          refine ⟨trivial, ?_⟩
          gi_at_call 31
          refine (CallsIn.inRound l (callsIn_wide.2 HADD.out)).mono ?_
          rintro e W2 ⟨ho2, rfl, F', hds, hF'⟩
          have hk2 := hide (KeepsOthers.of_only ho2 HCF.out)
          have hR2 := hide (H8.out.only ho2 (fun b hb => (H6.out b hb).1))
          have hX2 := hide (show W2.heap[bt]? = some (.cells #[.slice a cs0.length cap] 29 (0, 0)) by
            rw [ho2.block bt (Array.getElem?_eq_some_iff.1 H7.out).1 (fun hf => (H6.out bt hf).2.1 rfl)]; exact H7.out)
          have hB2 := hide (ho2.block Bs hBW (fun hf => (H6.out Bs hf).2.2 rfl))
          have hlen : ds.length = cs0.length := by
            obtain ⟨_, _, hv, _⟩ := hds.form
            simp only [Value.slice.injEq] at hv
            exact hv.2.1.symm
          have HF' := hide (show ∀ b ∈ F', w.heap.size + 1 < b ∧ b ≠ bt ∧ b ≠ Bs from fun b hb => by
            rcases hF' b hb with h | h
            · exact H6.out b h
            · have h1 := (Array.getElem?_eq_some_iff.1 H7.out).1
              have h2 := H8.out.lt
              exact ⟨by omega, by omega, by omega⟩)
          have hT2 : Tbl W2 W2.heap.size (.agg #[.slice a cs0.length cap]) ds := ⟨_, rfl, colsE_cols hds (Nat.le_refl _) hbnd.out⟩
          have HIT2 := hide (iTable_any _ ds W2 _ hT2 (Nat.le_refl _))
          rw [← HT1.out] at HIT2
          have HDS := hide hds
          have HLEN := hide hlen
          have ctb2 := (cell_blk hX2.out).1
          clear ho2 hds hF' hlen hT2 ctb
          gi_wp2_with fail
          refine ⟨trivial, ?_⟩
          gi_at_call 19
          refine (CallsIn.inRound l (callsIn_wide.2 HIT2.out)).mono ?_
          rintro e W3 ⟨rfl, hb3⟩
          have hk3 := hide (hk2.out.trans (KeepsOthers.of_below hb3))
          have hR3 := hide (hR2.out.up hb3)
          have hX3 := hide (show W3.heap[bt]? = some (.cells #[.slice a cs0.length cap] 29 (0, 0)) by
            rw [hb3.block bt (Array.getElem?_eq_some_iff.1 hX2.out).1]; exact hX2.out)
          have hB3 := hide (show W3.heap[Bs]? = W.heap[Bs]? by
            rw [hb3.block Bs (Nat.lt_of_lt_of_le hBW hk2.out.size)]; exact hB2.out)
          have hD3 := hide (slE.below colE_good HDS.out hb3)
          obtain ⟨rc0, rf0, rc1, rf1⟩ := hR3.out.cells
          clear hb3 ctb2
          cases t1
          · have hrn := hide (hdead.out none (by rw [← HT1.out]; rfl))
            gi_wp2_with fail
            exact ⟨(hk3.out.trans (KeepsOthers.setCell _ _ _)).trans (KeepsOthers.setCell _ _ _), hR3.out.stored, hrn.out⟩
          · gi_wp2_with fail
            refine ⟨hk3.out, hB3.out, ds, F', HPX.out, ?_, HT1.out.symm, HLEN.out, hD3.out, HF'.out, hX3.out, hR3.out⟩
            rw [List.map_append, rowsP_append, H2.out]
            simp only [Option.bind_some, List.map_cons, List.map_nil, rowsP]
            rw [← HQ.out]
            simp only
            rw [if_pos HT1.out.symm]
      case done =>
        rintro D W hD ⟨cs, F, h1, h2, h3, h4, h5, h6, h7, h8⟩ hK
        have hrs : r = some cs := by
          rw [HR2.out, ← h2, HXS.out, wB_data]
        have ctb := (cell_blk h7).1
        obtain ⟨rc0, rf0, rc1, rf1⟩ := h8.cells
        have H1 := hide h1
        have H4 := hide h4
        have H5 := hide h5
        have H6 := hide h6
        have H8 := hide h8
        have HK := hide hK
        have HRS := hide hrs
        clear h1 h2 h4 h5 h6 h7 h8 hK hrs
        gi_wp2_with fail
        obtain ⟨e0, e1⟩ := set2 (v := .slice a cs0.length cap) (x := .bool true) H8.out.b0 H8.out.b1 (by omega)
        have hlt := H8.out.lt
        have hDlt := (Array.getElem?_eq_some_iff.1 HK.out).1
        have hD1 : w.heap.size + 1 < D := by omega
        refine ⟨by simp, .inl ⟨D, _, rfl, run_takeDeferred ((Below.heap_setCell _ _ _ _ (by simp only; omega)).trans ((Below.heap_setCell _ _ _ _ (by simp only; omega)).trans HK.out)), ?_⟩⟩
        obtain ⟨W1, hW1⟩ : ∃ W1, W1 = (W.setCell ⟨w.heap.size, 0, none⟩ (.slice a cs0.length cap)).setCell ⟨w.heap.size + 1, 0, none⟩ (.bool true) := ⟨_, rfl⟩
        have hb1 : Below w.heap.size w W1 := by
          rw [hW1]
          exact (H8.out.below.setCell (p := ⟨w.heap.size, 0, none⟩) (Nat.le_refl _) _).setCell (p := ⟨w.heap.size + 1, 0, none⟩) (Nat.le_succ _) _
        have hc1 : colsE W1 (.slice a cs0.length cap) cs F := by
          refine slE.kept colE_good H5.out fun b hb => ?_
          have := (H6.out b hb).1
          rw [hW1]
          exact (Below.heap_setCell _ _ _ _ (by simp only; omega)).trans (Below.heap_setCell _ _ _ _ (by simp only; omega))
        have hcl1 := colsE_cells hc1
        have hD2 : W1.heap[D]? = some (.deferred (some [])) := by
          rw [hW1]
          exact (Below.heap_setCell _ _ _ _ (by simp only; omega)).trans ((Below.heap_setCell _ _ _ _ (by simp only; omega)).trans HK.out)
        rw [← hW1] at e0 e1 ⊢
        obtain ⟨W2, hW2⟩ : ∃ W2, W2 = W1.putObj D (.deferred none) := ⟨_, rfl⟩
        have hoth : ∀ k, k ≠ D → W2.heap[k]? = W1.heap[k]? := fun k hk => by rw [hW2]; exact World.putObj_heap_other hk
        have g0 : W2.cell? ⟨w.heap.size, 0, none⟩ = some (.slice a cs0.length cap) := (World.cell?_of_block (hoth _ (by simp only; omega))).trans e0
        have g1 : W2.cell? ⟨w.heap.size + 1, 0, none⟩ = some (.bool true) := (World.cell?_of_block (hoth _ (by simp only; omega))).trans e1
        have hb2 : Below w.heap.size w W2 := by
          refine ⟨by rw [hW2]; exact hb1.os, by rw [hW2]; exact hb1.tape, by rw [hW2]; exact hb1.output, by rw [hW2, World.putObj_size]; exact hb1.size, fun k hk => ?_⟩
          rw [hoth k (by omega)]
          exact hb1.block k hk
        have hc2 : colsE W2 (.slice a cs0.length cap) cs F := by
          refine slE.kept colE_good hc1 fun b hb => hoth b ?_
          rintro rfl
          obtain ⟨o, h9, h10⟩ := hcl1 b hb
          rw [hD2] at h9
          cases h9
          cases h10
        rw [← hW2]
        refine ⟨.tuple #[.agg #[.slice a cs0.length cap], .bool true], by simp [results, Tryd.results11, go_sem, g0, g1], ?_⟩
        rw [HRS.out]
        refine ⟨hb2, a, cap, F, by rw [H4.out], by rw [H4.out]; exact hc2, fun b hb => by have := (H6.out b hb).1; omega⟩
      case stop =>
        rintro D c pre W hD ⟨hrb, hrn⟩ rfl hK
        obtain ⟨e0, -, e1, -⟩ := hrb.cells
        have hDlt := (Array.getElem?_eq_some_iff.1 hK).1
        have hlt := hrb.lt
        have hb1 := hrb.below
        gi_wp2_with fail
        refine ⟨by simp, .inl ⟨D, _, rfl, run_takeDeferred hK, ?_⟩⟩
        obtain ⟨W1, hW1⟩ : ∃ W1, W1 = W := ⟨_, rfl⟩
        rw [← hW1] at e0 e1 hb1 hlt hDlt ⊢
        obtain ⟨W2, hW2⟩ : ∃ W2, W2 = W1.putObj D (.deferred none) := ⟨_, rfl⟩
        have hoth : ∀ k, k ≠ D → W2.heap[k]? = W1.heap[k]? := fun k hk => by rw [hW2]; exact World.putObj_heap_other hk
        have g0 : W2.cell? ⟨w.heap.size, 0, none⟩ = some (.slice none 0 0) := (World.cell?_of_block (hoth _ (by simp only; omega))).trans e0
        have g1 : W2.cell? ⟨w.heap.size + 1, 0, none⟩ = some (.bool false) := (World.cell?_of_block (hoth _ (by simp only; omega))).trans e1
        have hb2 : Below w.heap.size w W2 := by
          refine ⟨by rw [hW2]; exact hb1.os, by rw [hW2]; exact hb1.tape, by rw [hW2]; exact hb1.output, by rw [hW2, World.putObj_size]; exact hb1.size, fun k hk => ?_⟩
          rw [hoth k (by omega)]
          exact hb1.block k hk
        rw [← hW2]
        refine ⟨.tuple #[.agg #[.slice none 0 0], .bool false], by simp [results, Tryd.results11, go_sem, g0, g1], ?_⟩
        rw [hrn]
        exact ⟨hb2, rfl⟩

end Go.Proofs.YtiianddblanffaaDoor
