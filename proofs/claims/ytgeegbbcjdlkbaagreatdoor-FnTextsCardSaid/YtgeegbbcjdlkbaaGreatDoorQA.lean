/- Several texts in one: Draw2, Kd, DrawR, DrawT, DrawT2. -/
import Derived.Test.YtgeegbbcjdlkbaaGreatDoorDraw
import Derived.Test.YtgeegbbcjdlkbaaGreatDoorOwn
import Derived.Test.YtgeegbbcjdlkbaaGreatDoorScan
import Derived.Deep.AppendLies
import Derived.Test.YtgeegbbcjdlkbaaGreatDoorOwnCol
import Derived.Deep.RegionHeld3
import Derived.Deep.RegionLaw
import Derived.Deep.DrawnRows
/- Drawn numbers, lists and ranges, by what may turn: the reader's block alone. -/
namespace Go.Proofs.YtgeegbbcjdlkbaaGreatDoor
open Go.RowKit Go.ChangeShapes
set_option linter.unusedSimpArgs false
set_option linter.unusedVariables false
set_option maxRecDepth 100000

theorem grown_only {w w' : World} {g : Nat} (h : w.grownBy w' (some g)) : Only [g] w w' :=
  ⟨⟨h.os, h.tape, h.output, h.size, fun k hk => absurd hk (Nat.not_lt_zero k)⟩, fun k hk hn => h.block k hk (fun e => hn (by simp [Option.some.inj e]))⟩

theorem Only.then' {F : List Nat} {w a c : World} (h : Only F w a) (hb : Below w.heap.size a c) : Only F w c :=
  ⟨h.below.trans (hb.mono (Nat.zero_le _)), fun b hlt hn => (hb.block b hlt).trans (h.block b hlt hn)⟩

theorem Only.low {F : List Nat} {w w' : World} (h : Only F w w') {B : Nat} (hF : ∀ b ∈ F, B ≤ b) (hB : B ≤ w.heap.size) : Below B w w' := h.toBelow hF hB

theorem Rd.only {B : Nat} {a : Option Addr} {len cap g : Nat} {w w' : World} {F : List Nat} (h : Rd B a len cap w g) (ho : Only F w w') (hF : ∀ b ∈ F, g < b) : Rd B a len cap w' g := by
  have hlt := h.lt
  have hh := h.high
  exact h.step (ho.toBelow (fun b hb => by have := hF b hb; omega) (by omega)) (ho.block g hlt (fun hb => by have := hF g hb; omega))

theorem Is.only {w w' : World} {base : Nat} {e : TypeId} {v : Value} {l : List Int} {F : List Nat} (h : Is w base e v l) (ho : Only F w w') (hF : ∀ b ∈ F, b < base) : Is w' base e v l := by
  refine ⟨h.1, ?_⟩
  rcases h.2 with h2 | ⟨g, cap, cur, hv, hb, hg, r⟩
  · exact .inl h2
  · exact .inr ⟨g, cap, cur, hv, hb, by rw [ho.block g (Array.getElem?_eq_some_iff.1 hg).1 (fun hf => by have := hF g hf; omega)]; exact hg, r⟩

/-- A drawn number with P is returned, the reader stands, of what was there only its block may have turned. -/
def RetD (B : Nat) (a : Option Addr) (len cap g : Nat) (w : World) (P : Int → Prop) (e : Ending) (w' : World) : Prop := ∃ x : Int, P x ∧ e = .returned (.int .i64 x) ∧ Rd B a len cap w' g ∧ Only [g] w w'

theorem below_d (B : Nat) (a : Option Addr) (len cap g : Nat) (w : World) (h : Rd B a len cap w g) (n : Int) (hn : 1 ≤ n) (hn2 : n ≤ 4294967296) :
    Calls Tryz.prog 48 #[.pointer (some ⟨g, 0, none⟩), .int .i64 n] w (RetD B a len cap g w (fun x => 0 ≤ x ∧ x < n)) :=
  (below_rd B a len cap g w h n hn hn2).mono fun e w' ⟨x, h1, h2, h3, h4, h5⟩ => ⟨x, ⟨h1, by omega⟩, h3, h4, grown_only h5⟩

set_option maxHeartbeats 2000000 in
theorem pickI_d (B : Nat) (a : Option Addr) (len cap g : Nat) (w : World) (h : Rd B a len cap w g) (L : List Int) (b n c : Nat) (hn : n = L.length) (hn1 : 1 ≤ n) (hn2 : n ≤ 1000) (hbg : b ≠ g) (hb : b < w.heap.size)
    (hc : ∀ j (hj : j < L.length), w.cell? ⟨b, j, none⟩ = some (.int .i64 L[j])) :
    Calls Tryz.prog 52 #[.pointer (some ⟨g, 0, none⟩), .slice (some ⟨b, 0, none⟩) n c] w (RetD B a len cap g w (· ∈ L)) := by
  have H := hide h
  have HC := hide hc
  have HN := hide hn
  clear h hc hn
  go_enter Tryz.func52, Tryz.ntmps52
  go_wp2_with fail
  refine (below_d B a len cap g _ H.out (n : Int) (by omega) (by omega)).mono ?_
  rintro e wa ⟨x, ⟨hx0, hx1⟩, rfl, hr, hg⟩
  obtain ⟨j, rfl⟩ := Int.eq_ofNat_of_zero_le hx0
  have hjL : j < L.length := by have := HN.out; omega
  obtain ⟨v, hvv⟩ : ∃ v, v = L[j] := ⟨_, rfl⟩
  have hv := HC.out j hjL
  rw [← hvv] at hv
  have hv2 : wa.cell? ⟨b, j, none⟩ = some (.int .i64 v) := by rw [World.cell?_of_block (w := w) (hg.block b hb (by simp; exact hbg))]; exact hv
  have hj : (j : Int) < (n : Int) := by omega
  have HR := hide hr
  have HG := hide hg
  have HV := hide (show v ∈ L by rw [hvv]; exact List.getElem_mem _)
  clear hr hg hv hx1 hvv
  go_wp2_with fail
  go_ret
  exact ⟨v, HV.out, rfl, HR.out, HG.out⟩

/-- A drawn text of L is returned. -/
def RetDS (B : Nat) (a : Option Addr) (len cap g : Nat) (w : World) (L : List ByteArray) (e : Ending) (w' : World) : Prop := ∃ x ∈ L, e = .returned (.string x) ∧ Rd B a len cap w' g ∧ Only [g] w w'

set_option maxHeartbeats 2000000 in
theorem pickS_d (B : Nat) (a : Option Addr) (len cap g : Nat) (w : World) (h : Rd B a len cap w g) (L : List ByteArray) (b n c : Nat) (hn : n = L.length) (hn1 : 1 ≤ n) (hn2 : n ≤ 1000) (hbg : b ≠ g) (hb : b < w.heap.size)
    (hc : ∀ j (hj : j < L.length), w.cell? ⟨b, j, none⟩ = some (.string L[j])) :
    Calls Tryz.prog 49 #[.pointer (some ⟨g, 0, none⟩), .slice (some ⟨b, 0, none⟩) n c] w (RetDS B a len cap g w L) := by
  have H := hide h
  have HC := hide hc
  have HN := hide hn
  clear h hc hn
  go_enter Tryz.func49, Tryz.ntmps49
  go_wp2_with fail
  refine (below_d B a len cap g _ H.out (n : Int) (by omega) (by omega)).mono ?_
  rintro e wa ⟨x, ⟨hx0, hx1⟩, rfl, hr, hg⟩
  obtain ⟨j, rfl⟩ := Int.eq_ofNat_of_zero_le hx0
  have hjL : j < L.length := by have := HN.out; omega
  obtain ⟨v, hvv⟩ : ∃ v, v = L[j] := ⟨_, rfl⟩
  have hv := HC.out j hjL
  rw [← hvv] at hv
  have hv2 : wa.cell? ⟨b, j, none⟩ = some (.string v) := by rw [World.cell?_of_block (w := w) (hg.block b hb (by simp; exact hbg))]; exact hv
  have hj : (j : Int) < (n : Int) := by omega
  have HR := hide hr
  have HG := hide hg
  have HV := hide (show v ∈ L by rw [hvv]; exact List.getElem_mem _)
  clear hr hg hv hx1 hvv
  go_wp2_with fail
  go_ret
  exact ⟨v, HV.out, rfl, HR.out, HG.out⟩

/-- The cells of a list of literals, just made. -/
theorem litsI (w : World) (L : List Int) (t : TypeId) : ∀ j (hj : j < L.length), (w.alloc (.cells (L.map (Value.int .i64)).toArray t)).cell? ⟨w.heap.size, j, none⟩ = some (.int .i64 L[j]) := by
  intro j hj
  rw [World.cell?_alloc_mark]
  simp [hj]
theorem litsS (w : World) (L : List ByteArray) (t : TypeId) : ∀ j (hj : j < L.length), (w.alloc (.cells (L.map Value.string).toArray t)).cell? ⟨w.heap.size, j, none⟩ = some (.string L[j]) := by
  intro j hj
  rw [World.cell?_alloc_mark]
  simp [hj]

theorem wide_pos {x : Int} (h : x ∈ [3, 10, 30, 1000]) : x = 3 ∨ x = 10 ∨ x = 30 ∨ x = 1000 := by simpa using h

/-- Drawn small numbers in a row of the call's own. -/
def RetVs (B : Nat) (a : Option Addr) (len cap g : Nat) (w : World) (most : Nat) (e : Ending) (w' : World) : Prop :=
  ∃ gl capl l, e = .returned (.slice (some ⟨gl, 0, none⟩) l.length capl) ∧ Is w' w.heap.size 3 (.slice (some ⟨gl, 0, none⟩) l.length capl) l ∧ l.length ≤ most ∧ (∀ x ∈ l, -1000 ≤ x ∧ x ≤ 1000) ∧ Rd B a len cap w' g ∧ Only [g] w w'

set_option maxHeartbeats 4000000 in
theorem vals_d (B : Nat) (a : Option Addr) (len cap g : Nat) (w : World) (h : Rd B a len cap w g) (most : Nat) (hm : most ≤ 1000) :
    Calls Tryz.prog 67 #[.pointer (some ⟨g, 0, none⟩), .int .i64 most] w (RetVs B a len cap g w most) := by
  have hlt := h.lt
  have h1 := h.alloc (.cells #[] 3)
  have HO := hide (Is.made w w.heap.size 3 (Nat.le_refl _))
  have HW := hide (Only.of_below (F := [g]) ((Below.refl w.heap.size w).alloc (Nat.le_refl _) (.cells #[] 3)))
  have H1 := hide (h1.alloc (.cells #[.int .i64 3, .int .i64 10, .int .i64 30, .int .i64 1000] 3))
  have HO := hide (HO.out.below ((Below.refl _ _).alloc (Nat.le_refl _) (.cells #[.int .i64 3, .int .i64 10, .int .i64 30, .int .i64 1000] 3)))
  have HW := hide (HW.out.trans (Only.of_below ((Below.refl _ _).alloc (Nat.le_refl _) (.cells #[.int .i64 3, .int .i64 10, .int .i64 30, .int .i64 1000] 3))))
  have hlits := hide (litsI (w.alloc (.cells #[] 3)) [3, 10, 30, 1000] 3)
  have hz : (w.alloc (.cells #[] 3)).heap.size = w.heap.size + 1 := by simp
  rw [hz] at hlits
  clear h h1 hz
  go_enter Tryz.func67, Tryz.ntmps67
  go_wp2_with fail
  refine (pickI_d B a len cap g _ H1.out [3, 10, 30, 1000] (w.heap.size + 1) 4 4 rfl (by omega) (by omega) (by omega) (by simp) hlits.out).mono ?_
  rintro e wa ⟨wd, hwd, rfl, hr, ho⟩
  have hwd2 := wide_pos hwd
  have hw1 : 1 ≤ wd ∧ wd ≤ 1000 := by omega
  have HR := hide hr
  have HO := hide (HO.out.only ho (by simp; exact hlt))
  have HW := hide (HW.out.trans ho)
  clear hr ho hwd hwd2
  obtain ⟨hw1, hw2⟩ := hw1
  go_wp2_with fail
  refine (below_d B a len cap g _ HR.out ((most : Int) + 1) (by omega) (by omega)).mono ?_
  rintro e wb ⟨n, ⟨n0, n1⟩, rfl, hr, ho⟩
  have HR := hide hr
  have HO := hide (HO.out.only ho (by simp; exact hlt))
  have HW := hide (HW.out.trans ho)
  clear hr ho
  obtain ⟨N, rfl⟩ := Int.eq_ofNat_of_zero_le n0
  have hN : N ≤ most := by omega
  clear n0 n1
  go_wp2_with fail
  go_loopw [5, 7, 8] (fun v nn _ wr => ∃ (k : Nat) (l : List Int) (gl capl : Nat), v = .slice (some ⟨gl, 0, none⟩) l.length capl ∧ k ≤ N ∧ nn = .int .i64 k ∧ l.length + k = N ∧ Hid (∀ x ∈ l, -1000 ≤ x ∧ x ≤ 1000) ∧ Hid (Is wr w.heap.size 3 v l) ∧ Hid (Rd B a len cap wr g) ∧ Hid (Only [g] w wr)) (fun _ nn _ _ => (intOf nn).toNat)
  case atStart => exact ⟨N, [], _, _, rfl, by omega, rfl, by simp, by simp [Hid], HO.out, HR.out, HW.out⟩
  case round =>
    clear HO HR HW H1 hlits
    obtain ⟨k, l, gl, capl, rfl, hk, rfl, hlk, hl, O, R, W⟩ := hrel
    by_cases hk0 : k = 0
    · subst hk0
      have HLK := hide hlk
      clear hlk
      go_wp2_with fail
      go_ret
      exact ⟨_, _, l, rfl, O.out, by have := HLK.out; omega, hl.out, R.out, W.out⟩
    · have HLK := hide hlk
      have hll : l.length ≤ 1000 := by omega
      clear hlk
      go_wp2_with fail
      refine (below_d B a len cap g _ R.out wd (by omega) (by omega)).mono ?_
      rintro e wc ⟨x, ⟨x0, x1⟩, rfl, hr, ho⟩
      have R := hide hr
      have O := hide (O.out.only ho (by simp; exact hlt))
      have W := hide (W.out.trans ho)
      have hsz := hide W.out.below.size
      clear hr ho
      go_wp2_with (first | (at_builtin; refine is_append1 wc rfl _ _ 47 rfl w.heap.size 3 Tryz.underlying47 infoI _ l O.out rfl _ _ rfl (by omega) hsz.out ?_; intro v2 w2 hown2 hb2) | fail)
      have R := hide (R.out.step (hb2.mono (by have := R.out.high; omega)) (hb2.block g hlt))
      have W := hide (W.out.then' hb2)
      obtain ⟨g2, c2, rfl, -, -⟩ := World.ownsRow.form hown2 (by simp)
      have O := hide hown2
      clear hown2 hb2
      go_roundw
      case rel => exact ⟨k - 1, l ++ [x - wd / 3], _, _, rfl, by omega, by go_num, by have := HLK.out; simp; omega, by
        intro y hy
        rcases List.mem_append.1 hy with hy | hy
        · exact hl.out y hy
        · simp at hy; subst hy; omega, O.out, R.out, W.out⟩
      case measure => simp [intOf]; omega

end Go.Proofs.YtgeegbbcjdlkbaaGreatDoor

/- Blocks of the call's own whose contents are known, while a reader's block (G) may turn; any program. -/
namespace Go.Proofs.YtgeegbbcjdlkbaaGreatDoor
open Go.RowKit
set_option linter.unusedSimpArgs false
set_option linter.unusedVariables false

/-- Since the call began (world w) nothing old has turned; each block of L, made since, holds what L says. -/
structure Kd (G : List Nat) (w W : World) (L : List (Nat × Array Value × TypeId)) : Prop where
  only : Only G w W
  hold : ∀ e ∈ L, W.heap[e.1]? = some (.cells e.2.1 e.2.2 (0, 0))
  high : ∀ e ∈ L, w.heap.size ≤ e.1
  nodup : (L.map (·.1)).Nodup

theorem Kd.start (G : List Nat) (w : World) : Kd G w w [] := ⟨Only.refl _ _, fun e h => by simp at h, fun e h => by simp at h, by simp⟩

theorem Kd.alloc {G : List Nat} {w W : World} {L : List (Nat × Array Value × TypeId)} (h : Kd G w W L) (c : Array Value) (t : TypeId) : Kd G w (W.alloc (.cells c t)) (L ++ [(W.heap.size, c, t)]) := by
  have lt : ∀ e ∈ L, e.1 < W.heap.size := fun e he => (Array.getElem?_eq_some_iff.1 (h.hold e he)).1
  refine ⟨h.only.trans (Only.of_below ((Below.refl _ _).alloc (Nat.le_refl _) _)), fun e he => ?_, fun e he => ?_, ?_⟩
  · rcases List.mem_append.1 he with he | he
    · rw [Below.heap_alloc _ _ _ (lt e he)]; exact h.hold e he
    · obtain rfl : e = (W.heap.size, c, t) := by simpa using he
      exact heap_alloc_new W _
  · rcases List.mem_append.1 he with he | he
    · exact h.high e he
    · obtain rfl : e = (W.heap.size, c, t) := by simpa using he
      exact h.only.below.size
  · rw [List.map_append, List.nodup_append]
    refine ⟨h.nodup, by simp, fun a ha b hb => ?_⟩
    obtain ⟨e, he, rfl⟩ := List.mem_map.1 ha
    obtain rfl : b = W.heap.size := by simpa using hb
    exact Nat.ne_of_lt (lt e he)

theorem Kd.up {G : List Nat} {w W W' : World} {L : List (Nat × Array Value × TypeId)} (h : Kd G w W L) (hb : Below W.heap.size W W') : Kd G w W' L :=
  ⟨h.only.trans (Only.of_below hb), fun e he => by rw [hb.block _ (Array.getElem?_eq_some_iff.1 (h.hold e he)).1]; exact h.hold e he, h.high, h.nodup⟩

/-- A callee's call right behind the making of a block. -/
theorem Kd.upA {G : List Nat} {w W W' : World} {L : List (Nat × Array Value × TypeId)} {c : Array Value} {t : TypeId} (h : Kd G w W L) (hb : Below (W.alloc (.cells c t)).heap.size (W.alloc (.cells c t)) W') : Kd G w W' (L ++ [(W.heap.size, c, t)]) := (h.alloc c t).up hb

theorem Kd.drew {G : List Nat} {w W : World} {L : List (Nat × Array Value × TypeId)} (h : Kd G w W L) : Kd G w W.drew L := ⟨h.only.drew, h.hold, h.high, h.nodup⟩
theorem Kd.drewN {G : List Nat} {w W : World} {L : List (Nat × Array Value × TypeId)} (h : Kd G w W L) (n : Nat) : Kd G w (W.drewN n) L := ⟨h.only.trans (Only.of_below (below_drewN (Below.refl _ _) n)), h.hold, h.high, h.nodup⟩

/-- The same, where the making came right behind a draw. -/
theorem Kd.upD {G : List Nat} {w W W' : World} {L : List (Nat × Array Value × TypeId)} {c : Array Value} {t : TypeId} (h : Kd G w W L) (hb : Below (W.alloc (.cells c t)).drew.heap.size (W.alloc (.cells c t)).drew W') : Kd G w W' (L ++ [(W.heap.size, c, t)]) := (h.alloc c t).drew.up hb

theorem Kd.mem {G : List Nat} {w W : World} {L : List (Nat × Array Value × TypeId)} (h : Kd G w W L) (i : Nat) {g : Nat} {c : Array Value} {t : TypeId} (ho : L[i]? = some (g, c, t)) : W.heap[g]? = some (.cells c t (0, 0)) := h.hold _ (List.mem_of_getElem? ho)

theorem Kd.cell {G : List Nat} {w W : World} {L : List (Nat × Array Value × TypeId)} (h : Kd G w W L) (i j : Nat) {g : Nat} {c : Array Value} {t : TypeId} {x : Value} (ho : L[i]? = some (g, c, t)) (hx : c[j]? = some x) : W.cell? ⟨g, j, none⟩ = some x := by
  rw [cell_of_row W g j c t (0, 0) (h.mem i ho)]; exact hx

theorem Kd.free {G : List Nat} {w W : World} {L : List (Nat × Array Value × TypeId)} (h : Kd G w W L) (i j : Nat) {g : Nat} {c : Array Value} {t : TypeId} (ho : L[i]? = some (g, c, t)) : W.frozen? ⟨g, j, none⟩ = false := frozen_of_row W g j c t (h.mem i ho)

theorem Kd.lt {G : List Nat} {w W : World} {L : List (Nat × Array Value × TypeId)} (h : Kd G w W L) (i : Nat) {g : Nat} {c : Array Value} {t : TypeId} (ho : L[i]? = some (g, c, t)) : g < W.heap.size := (Array.getElem?_eq_some_iff.1 (h.mem i ho)).1

theorem Kd.low {G : List Nat} {w W : World} {L : List (Nat × Array Value × TypeId)} (h : Kd G w W L) (i : Nat) {g : Nat} {c : Array Value} {t : TypeId} (ho : L[i]? = some (g, c, t)) : w.heap.size ≤ g := h.high _ (List.mem_of_getElem? ho)

/-- A store into one of them. -/
theorem Kd.set {G : List Nat} {w W : World} {L : List (Nat × Array Value × TypeId)} (h : Kd G w W L) (i j : Nat) {g : Nat} {c : Array Value} {t : TypeId} (ho : L[i]? = some (g, c, t)) (u : Value) : Kd G w (W.setCell ⟨g, j, none⟩ u) (L.set i (g, c.setIfInBounds j u, t)) := by
  have hi : i < L.length := (List.getElem?_eq_some_iff.1 ho).1
  have hg := (List.getElem?_eq_some_iff.1 ho).2
  have hmap : (L.set i (g, c.setIfInBounds j u, t)).map (·.1) = L.map (·.1) := by
    apply List.ext_getElem
    · simp
    · intro k h1 h2
      by_cases hk : k = i
      · subst hk; simp [hg]
      · simp [List.getElem_set, Ne.symm hk]
  have other : ∀ k (hk : k < L.length), k ≠ i → L[k].1 ≠ g := by
    intro k hk hki e
    have h2 := List.pairwise_iff_getElem.1 h.nodup
    have hL : (L.map (·.1)).length = L.length := List.length_map _
    rcases Nat.lt_or_gt_of_ne hki with hlt | hlt
    · have := h2 k i (by omega) (by omega) hlt
      simp [e, hg] at this
    · have := h2 i k (by omega) (by omega) hlt
      simp [e, hg] at this
  refine ⟨h.only.then' ((Below.refl _ _).setCell (h.low i ho) u), fun e he => ?_, fun e he => ?_, by rw [hmap]; exact h.nodup⟩
  · obtain ⟨k, hk, rfl⟩ := List.getElem_of_mem he
    rw [List.length_set] at hk
    by_cases hki : k = i
    · subst hki
      simp only [List.getElem_set_self]
      exact heap_setCell_same W g j c t u (h.mem k ho)
    · rw [List.getElem_set_ne (Ne.symm hki)]
      rw [heap_setCell_other W ⟨g, j, none⟩ _ u (other k hk hki)]
      exact h.hold _ (List.getElem_mem hk)
  · obtain ⟨k, hk, rfl⟩ := List.getElem_of_mem he
    rw [List.length_set] at hk
    by_cases hki : k = i
    · subst hki
      simp only [List.getElem_set_self]
      exact h.low k ho
    · rw [List.getElem_set_ne (Ne.symm hki)]
      exact h.high _ (List.getElem_mem hk)

/-- All that is known of some of them is forgotten. -/
theorem Kd.sub {G : List Nat} {w W : World} {L M : List (Nat × Array Value × TypeId)} (h : Kd G w W L) (hs : M.Sublist L) : Kd G w W M :=
  ⟨h.only, fun e he => h.hold e (hs.subset he), fun e he => h.high e (hs.subset he), h.nodup.sublist (hs.map _)⟩


/-- A draw: the reader's block turns. -/
theorem Kd.drawn {G : List Nat} {w W W' : World} {L : List (Nat × Array Value × TypeId)} (h : Kd G w W L) (ho : Only G W W') (hG : ∀ b ∈ G, b < w.heap.size) : Kd G w W' L :=
  ⟨h.only.trans ho, fun e he => by rw [ho.block _ (Array.getElem?_eq_some_iff.1 (h.hold e he)).1 (fun hb => by have := hG _ hb; have := h.high e he; omega)]; exact h.hold e he, h.high, h.nodup⟩

/-- Blocks above them turn. -/
theorem Kd.far {G : List Nat} {w W W' : World} {L : List (Nat × Array Value × TypeId)} {B : Nat} (h : Kd G w W L) (hb : Below B W W') (hB : w.heap.size ≤ B) (hL : ∀ e ∈ L, e.1 < B) : Kd G w W' L :=
  ⟨h.only.then' (hb.mono hB), fun e he => by rw [hb.block _ (hL e he)]; exact h.hold e he, h.high, h.nodup⟩

/-- Blocks turn that are none of them. -/
theorem Kd.others {G F : List Nat} {w W W' : World} {L : List (Nat × Array Value × TypeId)} (h : Kd G w W L) (ho : Only F W W') (hF : ∀ b ∈ F, b ∈ G ∨ w.heap.size ≤ b) (hL : ∀ e ∈ L, e.1 ∉ F) : Kd G w W' L :=
  ⟨⟨h.only.below.trans ho.below, fun b hb hn => (ho.block b (Nat.lt_of_lt_of_le hb h.only.below.size) (fun hf => (hF b hf).elim hn (fun h1 => by omega))).trans (h.only.block b hb hn)⟩,
    fun e he => by rw [ho.block _ (Array.getElem?_eq_some_iff.1 (h.hold e he)).1 (hL e he)]; exact h.hold e he, h.high, h.nodup⟩

theorem Kd.one (G : List Nat) (w : World) (c : Array Value) (t : TypeId) : Kd G w (w.alloc (.cells c t)) [(w.heap.size, c, t)] := (Kd.start G w).alloc c t

end Go.Proofs.YtgeegbbcjdlkbaaGreatDoor

/- Drawn ranges: they return, with bounds that are small, and write into the reader's block alone. -/
namespace Go.Proofs.YtgeegbbcjdlkbaaGreatDoor
open Go.RowKit Go.ChangeShapes
set_option linter.unusedSimpArgs false
set_option linter.unusedVariables false
set_option maxRecDepth 100000

/-- A drawn range is returned. -/
def RetDR (B : Nat) (a : Option Addr) (len cap g : Nat) (w : World) (e : Ending) (w' : World) : Prop :=
  ∃ f t : Int, (-3000 ≤ f ∧ f ≤ 3000 ∧ -3000 ≤ t ∧ t ≤ 3000) ∧ e = .returned (.agg #[.int .i64 f, .int .i64 t]) ∧ Rd B a len cap w' g ∧ Only [g] w w'

theorem pick4 {B : Nat} {a : Option Addr} {len cap g : Nat} {w : World} (R : Rd B a len cap w g) (p q r s : Int) (b : Nat) (hb : b = w.heap.size) :
    Calls Tryz.prog 52 #[.pointer (some ⟨g, 0, none⟩), .slice (some ⟨b, 0, none⟩) 4 4] (w.alloc (.cells #[.int .i64 p, .int .i64 q, .int .i64 r, .int .i64 s] 3)) (RetD B a len cap g w (fun x => x = p ∨ x = q ∨ x = r ∨ x = s)) := by
  subst hb
  refine (pickI_d B a len cap g _ (R.alloc _) [p, q, r, s] w.heap.size 4 4 rfl (by omega) (by omega) (by have := R.lt; omega) (by simp) (litsI w [p, q, r, s] 3)).mono ?_
  rintro e w' ⟨x, hx, he, hr, ho⟩
  exact ⟨x, by simpa using hx, he, hr, (Only.of_below ((Below.refl _ _).alloc (Nat.le_refl _) _)).trans ho⟩

set_option maxHeartbeats 1000000 in
theorem range_d (B : Nat) (a : Option Addr) (len cap g : Nat) (w : World) (h : Rd B a len cap w g) :
    Calls Tryz.prog 63 #[.pointer (some ⟨g, 0, none⟩)] w (RetDR B a len cap g w) := by
  have hlt := h.lt
  have R := hide (h.alloc (.cells #[.int .i64 0, .int .i64 0] 32))
  have X := hide (Kd.one [g] w #[.int .i64 0, .int .i64 0] 32)
  obtain ⟨w1, hw1⟩ : ∃ w1, w1 = w.alloc (.cells #[.int .i64 0, .int .i64 0] 32) := ⟨_, rfl⟩
  rw [← hw1] at R X
  have P4 := hide (pick4 R.out 3 10 30 1000 (w.heap.size + 1) (by rw [hw1]; simp))
  clear h
  go_enter Tryz.func63, Tryz.ntmps63
  go_wp2_with fail
  rw [← hw1]
  clear hw1
  go_wp2_with fail
  refine P4.out.mono ?_
  rintro e wa ⟨wd, hwd, rfl, hr, ho⟩
  have hw1 : 1 ≤ wd ∧ wd ≤ 1000 := by omega
  have R := hide hr
  have X := hide (X.out.drawn ho (by simp; exact hlt))
  clear hr ho hwd P4
  obtain ⟨hw1, hw2⟩ := hw1
  go_wp2_with fail
  refine (below_d B a len cap g _ R.out wd (by omega) (by omega)).mono ?_
  rintro e wb ⟨x, ⟨x0, x1⟩, rfl, hr, ho⟩
  have R := hide hr
  have X := hide (X.out.drawn ho (by simp; exact hlt))
  clear hr ho
  go_wp2_with fail
  refine (below_d B a len cap g _ R.out wd (by omega) (by omega)).mono ?_
  rintro e wc ⟨y, ⟨y0, y1⟩, rfl, hr, ho⟩
  have R := hide hr
  have X := hide (X.out.drawn ho (by simp; exact hlt))
  have c0 := X.out.cell 0 0 rfl rfl
  have c1 := X.out.cell 0 1 rfl rfl
  have f0 := X.out.free 0 0 rfl
  have f1 := X.out.free 0 1 rfl
  have z0 := X.out.lt 0 rfl
  clear hr ho
  obtain ⟨t, ht⟩ : ∃ t, t = x - wd / 3 + y := ⟨_, rfl⟩
  by_cases hc : 1000 ≤ x - wd / 3 + y
  · go_wp2_with fail
    have X := (X.out.set 0 0 rfl (.int .i64 (x - wd / 3))).set 0 1 rfl (.int .i64 1000)
    have q0 := X.cell 0 0 rfl rfl
    have q1 := X.cell 0 1 rfl rfl
    exact bodyPost_ret (v := .agg #[.int .i64 (x - wd / 3), .int .i64 1000]) (by simp [results, Tryz.results63, go_sem, q0, q1]) rfl ⟨_, _, by omega, rfl, (R.out.only (Only.setCell (F := [w.heap.size]) (Only.refl _ _) (by simp) _) (by simp; exact hlt)).only (Only.setCell (F := [w.heap.size]) (Only.refl _ _) (by simp) _) (by simp; exact hlt), X.only⟩
  · go_wp2_with fail
    have X := (X.out.set 0 0 rfl (.int .i64 (x - wd / 3))).set 0 1 rfl (.int .i64 (x - wd / 3 + y))
    have q0 := X.cell 0 0 rfl rfl
    have q1 := X.cell 0 1 rfl rfl
    exact bodyPost_ret (v := .agg #[.int .i64 (x - wd / 3), .int .i64 (x - wd / 3 + y)]) (by simp [results, Tryz.results63, go_sem, q0, q1]) rfl ⟨_, _, by omega, rfl, (R.out.only (Only.setCell (F := [w.heap.size]) (Only.refl _ _) (by simp) _) (by simp; exact hlt)).only (Only.setCell (F := [w.heap.size]) (Only.refl _ _) (by simp) _) (by simp; exact hlt), X.only⟩

set_option maxHeartbeats 4000000 in
theorem any_d (B : Nat) (a : Option Addr) (len cap g : Nat) (w : World) (h : Rd B a len cap w g) :
    Calls Tryz.prog 39 #[.pointer (some ⟨g, 0, none⟩)] w (RetDR B a len cap g w) := by
  have hlt := h.lt
  have R := hide (h.alloc (.cells #[.int .i64 0, .int .i64 0] 32))
  have X := hide (Kd.one [g] w #[.int .i64 0, .int .i64 0] 32)
  obtain ⟨w1, hw1⟩ : ∃ w1, w1 = w.alloc (.cells #[.int .i64 0, .int .i64 0] 32) := ⟨_, rfl⟩
  rw [← hw1] at R X
  clear h
  go_enter Tryz.func39, Tryz.ntmps39
  go_wp2_with fail
  rw [← hw1]
  clear hw1
  go_wp2_with fail
  refine (range_d B a len cap g _ R.out).mono ?_
  rintro e wa ⟨f, t, ⟨k1, k2, k3, k4⟩, rfl, hr, ho⟩
  have R := hide (hr.alloc (.cells #[.int .i64 f, .int .i64 t] 32))
  have X := hide (X.out.drawn ho (by simp; exact hlt))
  have zb : w.heap.size < wa.heap.size := X.out.lt 0 rfl
  obtain ⟨b, hb⟩ : ∃ b, b = wa.heap.size := ⟨_, rfl⟩
  have X := hide (show Kd [g] w _ [(w.heap.size, #[.int .i64 0, .int .i64 0], 32), (wa.heap.size, #[.int .i64 f, .int .i64 t], 32)] from X.out.alloc #[.int .i64 f, .int .i64 t] 32)
  clear hr ho
  go_wp2_with fail
  rw [← hb] at X zb ⊢
  clear hb
  have zn : ¬ b = w.heap.size := by omega
  have zm : ¬ w.heap.size = b := by omega
  refine (below_d B a len cap g _ R.out 10 (by omega) (by omega)).mono ?_
  rintro e wb ⟨k, ⟨n0, n1⟩, rfl, hr, ho⟩
  have R := hide hr
  have X := hide (X.out.drawn ho (by simp; exact hlt))
  have c0 := X.out.cell 0 0 rfl rfl
  have c1 := X.out.cell 0 1 rfl rfl
  have f0 := X.out.free 0 0 rfl
  have f1 := X.out.free 0 1 rfl
  have e0 := X.out.cell 1 0 rfl rfl
  have e1 := X.out.cell 1 1 rfl rfl
  have g0 := X.out.free 1 0 rfl
  have g1 := X.out.free 1 1 rfl
  have z0 := X.out.lt 0 rfl
  have z1 := X.out.lt 1 rfl
  clear hr ho n1
  by_cases h0 : k = 0
  · subst h0
    have P4 := hide (pick4 R.out (-1001) (-1000) 1000 1001 wb.heap.size rfl)
    go_wp2_with fail
    refine P4.out.mono ?_
    rintro e wc ⟨x, hx, rfl, hr, ho⟩
    have hx1 : -1001 ≤ x ∧ x ≤ 1001 := by omega
    have R := hide hr
    have X := hide (X.out.drawn ho (by simp; exact hlt))
    have c0 := X.out.cell 0 0 rfl rfl
    have c1 := X.out.cell 0 1 rfl rfl
    have f0 := X.out.free 0 0 rfl
    have f1 := X.out.free 0 1 rfl
    have e0 := X.out.cell 1 0 rfl rfl
    have e1 := X.out.cell 1 1 rfl rfl
    have g0 := X.out.free 1 0 rfl
    have g1 := X.out.free 1 1 rfl
    have z0 := X.out.lt 0 rfl
    have z1 := X.out.lt 1 rfl
    clear hr ho hx P4
    go_wp2_with fail
    have hlt2 := hide (show g < b by have := X.out.low 1 rfl; omega)
    have R := hide (R.out.only (Only.setCell (F := [b]) (Only.refl _ _) (p := ⟨b, 0, none⟩) (by simp) (.int .i64 x)) (by simp; exact hlt2.out))
    have X := hide (X.out.set 1 0 rfl (.int .i64 x))
    have Y := (X.out.set 0 0 rfl (.int .i64 x)).set 0 1 rfl (.int .i64 t)
    have q0 := Y.cell 0 0 rfl rfl
    have q1 := Y.cell 0 1 rfl rfl
    exact bodyPost_ret (v := .agg #[.int .i64 x, .int .i64 t]) (by simp [results, Tryz.results39, go_sem, q0, q1]) rfl ⟨_, _, by omega, rfl, (R.out.only (Only.setCell (F := [w.heap.size]) (Only.refl _ _) (by simp) _) (by simp; exact hlt)).only (Only.setCell (F := [w.heap.size]) (Only.refl _ _) (by simp) _) (by simp; exact hlt), Y.only⟩
  · by_cases h1 : k = 1
    · subst h1
      have P4 := hide (pick4 R.out (-1001) (-1000) 1000 1001 wb.heap.size rfl)
      go_wp2_with fail
      refine P4.out.mono ?_
      rintro e wc ⟨x, hx, rfl, hr, ho⟩
      have hx1 : -1001 ≤ x ∧ x ≤ 1001 := by omega
      have R := hide hr
      have X := hide (X.out.drawn ho (by simp; exact hlt))
      have c0 := X.out.cell 0 0 rfl rfl
      have c1 := X.out.cell 0 1 rfl rfl
      have f0 := X.out.free 0 0 rfl
      have f1 := X.out.free 0 1 rfl
      have e0 := X.out.cell 1 0 rfl rfl
      have e1 := X.out.cell 1 1 rfl rfl
      have g0 := X.out.free 1 0 rfl
      have g1 := X.out.free 1 1 rfl
      have z0 := X.out.lt 0 rfl
      have z1 := X.out.lt 1 rfl
      clear hr ho hx P4
      go_wp2_with fail
      have hlt2 := hide (show g < b by have := X.out.low 1 rfl; omega)
      have R := hide (R.out.only (Only.setCell (F := [b]) (Only.refl _ _) (p := ⟨b, 1, none⟩) (by simp) (.int .i64 x)) (by simp; exact hlt2.out))
      have X := hide (X.out.set 1 1 rfl (.int .i64 x))
      have Y := (X.out.set 0 0 rfl (.int .i64 f)).set 0 1 rfl (.int .i64 x)
      have q0 := Y.cell 0 0 rfl rfl
      have q1 := Y.cell 0 1 rfl rfl
      exact bodyPost_ret (v := .agg #[.int .i64 f, .int .i64 x]) (by simp [results, Tryz.results39, go_sem, q0, q1]) rfl ⟨_, _, by omega, rfl, (R.out.only (Only.setCell (F := [w.heap.size]) (Only.refl _ _) (by simp) _) (by simp; exact hlt)).only (Only.setCell (F := [w.heap.size]) (Only.refl _ _) (by simp) _) (by simp; exact hlt), Y.only⟩
    · go_wp2_with fail
      have Y := (X.out.set 0 0 rfl (.int .i64 f)).set 0 1 rfl (.int .i64 t)
      have q0 := Y.cell 0 0 rfl rfl
      have q1 := Y.cell 0 1 rfl rfl
      exact bodyPost_ret (v := .agg #[.int .i64 f, .int .i64 t]) (by simp [results, Tryz.results39, go_sem, q0, q1]) rfl ⟨_, _, by omega, rfl, (R.out.only (Only.setCell (F := [w.heap.size]) (Only.refl _ _) (by simp) _) (by simp; exact hlt)).only (Only.setCell (F := [w.heap.size]) (Only.refl _ _) (by simp) _) (by simp; exact hlt), Y.only⟩

end Go.Proofs.YtgeegbbcjdlkbaaGreatDoor

/- Drawn tables: what appends a drawn column; they return, small, and write into the reader's block alone. -/
namespace Go.Proofs.YtgeegbbcjdlkbaaGreatDoor
open Go.RowKit Go.ChangeShapes
set_option linter.unusedSimpArgs false
set_option linter.unusedVariables false
set_option maxRecDepth 100000

theorem slE.row {w : World} {v : Value} {cs : List Col} {F : List Nat} (h : colsE w v cs F) : ∃ xs F', w.ownsRow 0 58 2 v cs.length xs ∧ rowE colE w cs xs F' ∧ F = v.ownBlock.toList ++ F' ∧ F.Nodup := by
  rcases h with ⟨rfl, rfl, rfl⟩ | ⟨g, cap, xs, F', rfl, h2, h3, rfl, h5⟩
  · exact ⟨[], [], ⟨by simp, .inl ⟨rfl, rfl⟩⟩, ⟨rfl, rfl⟩, rfl, by simp⟩
  · exact ⟨xs, F', h2, h3, rfl, h5⟩

theorem Rd.drew {B : Nat} {a : Option Addr} {len cap g : Nat} {w : World} (h : Rd B a len cap w g) : Rd B a len cap w.drew g := h.step (Below.refl _ _).drew rfl

theorem pickS4 {B : Nat} {a : Option Addr} {len cap g : Nat} {w : World} (R : Rd B a len cap w g) (p q r s : ByteArray) :
    Calls Tryz.prog 49 #[.pointer (some ⟨g, 0, none⟩), .slice (some ⟨w.heap.size, 0, none⟩) 4 4] (w.alloc (.cells #[.string p, .string q, .string r, .string s] 9)).drew (RetDS B a len cap g w [p, q, r, s]) := by
  refine (pickS_d B a len cap g _ (R.alloc _).drew [p, q, r, s] w.heap.size 4 4 rfl (by omega) (by omega) (by have := R.lt; omega) (by simp) (fun j hj => litsS w [p, q, r, s] 9 j hj)).mono ?_
  rintro e w' ⟨x, hx, he, hr, ho⟩
  exact ⟨x, hx, he, hr, (Only.of_below (((Below.refl _ _).alloc (Nat.le_refl _) _).drew)).trans ho⟩

theorem Is.capOf {w : World} {base : Nat} {e : TypeId} {g n cap : Nat} {l : List Int} (h : Is w base e (.slice (some ⟨g, 0, none⟩) n cap) l) : n = l.length ∧ n ≤ cap ∧ cap ≤ 9223372036854775807 := by
  rcases h.2 with ⟨h', _⟩ | ⟨g', cap', cur, h', hb, hg, hnc, hcm, _⟩
  · simp at h'
  · simp only [Value.slice.injEq, Option.some.injEq, Addr.mk.injEq, and_true, true_and] at h'
    obtain ⟨rfl, rfl, rfl⟩ := h'
    unfold maxLen at hcm
    exact ⟨rfl, hnc, hcm⟩

/-- l[:n] of owned integers. -/
theorem Is.prefixOf {w : World} {base : Nat} {e : TypeId} {g n cap : Nat} {l : List Int} (h : Is w base e (.slice (some ⟨g, 0, none⟩) n cap) l) (k : Nat) (hk : k ≤ n) : Is w base e (.slice (some ⟨g, 0, none⟩) k cap) (l.take k) := by
  rcases h.2 with ⟨h', _⟩ | ⟨g', cap', cur, h', hb, hg, hnc, hcm, hcs, htake⟩
  · simp at h'
  · simp only [Value.slice.injEq, Option.some.injEq, Addr.mk.injEq, and_true, true_and] at h'
    obtain ⟨rfl, rfl, rfl⟩ := h'
    have hkl : (l.take k).length = k := by simp; omega
    have e1 : intVs (l.take k) = (intVs l).take k := by simp [intVs, List.map_take]
    refine ⟨by rw [e1, hkl]; simp [intVs]; omega, .inr ⟨g, cap, cur, by rw [hkl], hb, hg, by rw [hkl]; omega, hcm, hcs, ?_⟩⟩
    rw [hkl, e1, ← htake, List.take_take]
    congr 1
    omega

/-- append(t.Columns, Column{b, u}) at a step of a region that draws its order: the column's values are the call's own. -/
theorem step_colsV {ops : Array Oper} {o : Oper} {a : Act} {K : Act → World → Prop} {Q : Exit → Act → World → Prop} {E : Prop} (W : World) (hgd : o.guard = none) (s x : Operand)
    (ho : o.op = .call { callee := .builtin .append, args := #[s, x], argTypes := #[24, 24] })
    (v : Value) (cs : List Col) (F : List Nat) (hs : a.eval s = v) (hown : colsE W v cs F) (b : ByteArray) (u : Value) (l : List Int) (Fl : List Nat) (hu : OI W 3 u l Fl) (hdis : ∀ y ∈ Fl, y ∉ F) (H c : Nat)
    (hx : a.eval x = .slice (some ⟨H, 0, none⟩) 1 c) (hH : W.heap[H]? = some (.cells #[.string b, u] 58 (0, 0))) (hlen : cs.length < 1099511627776)
    (h : ∀ g cap F' w', colsE w' (.slice (some ⟨g, 0, none⟩) (cs.length + 1) cap) (cs ++ [(b, l)]) F' → (∀ y ∈ F', y ∈ F ∨ y ∈ Fl ∨ W.heap.size ≤ y) → Only F W w' → K (a.put o.dst (.slice (some ⟨g, 0, none⟩) (cs.length + 1) cap)) w') :
    if Region.wanted o (yielded ops a.tmps) = true then Oper.wp Tryz.prog o a W K Q else E := by
  obtain ⟨i0, hi, hz0, hz1, hz2⟩ := info_parts infoC
  have hrow := slE.row hown
  obtain ⟨xs, F0, h2, h3, hF, h5⟩ := hrow
  obtain ⟨au, cu, rfl, -⟩ := hu.form
  refine step_append_lies W hgd s x 24 ho 0 58 i0 _ 2 40 Tryz.underlying24 hi hz0 hz1 hz2 rfl (by decide) v cs.length xs hs h2 ⟨H, 0, none⟩ 1 c [.string b, .slice au l.length cu] hx rfl
    (World.news_of_block (cs := #[.string b, .slice au l.length cu]) hH) (by simp [Value.oneCell']) (by omega) (by unfold maxLen; omega) (by omega) (Nat.zero_le _) W.heap.size rfl ?_
  intro g cap w' hown' hgrow hat hlt
  have hsub : ∀ y ∈ F0, y ∈ F := fun y hy => by rw [hF]; simp [hy]
  have hkeep : ∀ y ∈ F0, w'.heap[y]? = W.heap[y]? := fun y hy => hgrow.block y (rowE_lt colE_good _ _ _ h3 y hy) (fun e => by
    rw [hF, ← e] at h5
    simp at h5
    exact h5.1 hy)
  have hkeep2 : ∀ y ∈ Fl, w'.heap[y]? = W.heap[y]? := fun y hy => hgrow.block y (hu.lt y hy) (fun e => by
    apply hdis y hy
    rw [hF, ← e]; simp)
  have hgl : g ∉ Fl := by
    intro hg
    rcases hat with hat | rfl
    · exact hdis g hg (by rw [hF, hat]; simp)
    · have := hu.lt _ hg; omega
  have hFl : Fl.Nodup := by rw [hu.2]; cases (Value.slice au l.length cu).ownBlock <;> simp
  have hg0 : g ∉ F0 := by
    rcases hat with hat | rfl
    · rw [hF, hat] at h5
      simp at h5
      exact h5.1
    · intro hh
      have := rowE_lt colE_good _ _ _ h3 _ hh
      omega
  have hF0 : F0.Nodup := by rw [hF] at h5; exact (List.nodup_append.1 h5).2.1
  refine h g cap (g :: (F0 ++ Fl)) w' (.inr ⟨g, cap, xs ++ [.string b, .slice au l.length cu], F0 ++ Fl, by simp, by simpa using hown', ?_, rfl, ?_⟩) ?_ ?_
  · exact (rowE_append _ _ _ _).2 ⟨xs, [.string b, .slice au l.length cu], F0, Fl, rfl, rfl, rowE_kept colE_good _ _ _ h3 hkeep, [.string b, .slice au l.length cu], [], Fl, [], by simp, by simp, ⟨_, rfl, hu.eq hkeep2⟩, rfl, rfl⟩
  · rw [List.nodup_cons, List.nodup_append]
    refine ⟨fun hh => ?_, hF0, hFl, fun y hy z hz e => ?_⟩
    · rcases List.mem_append.1 hh with hh | hh
      · exact hg0 hh
      · exact hgl hh
    · subst e
      exact hdis y hz (hsub y hy)
  · intro y hy
    rcases List.mem_cons.1 hy with rfl | hy
    · rcases hat with hat | rfl
      · left; rw [hF, hat]; simp
      · right; right; exact Nat.le_refl _
    · rcases List.mem_append.1 hy with hy | hy
      · exact .inl (hsub y hy)
      · exact .inr (.inl hy)
  · exact ⟨⟨hgrow.os, hgrow.tape, hgrow.output, hgrow.size, fun k hk => absurd hk (Nat.not_lt_zero k)⟩, fun k hk hn => hgrow.block k hk (fun ek => hn (by rw [hF, ← ek]; simp))⟩

end Go.Proofs.YtgeegbbcjdlkbaaGreatDoor

/- Drawn tables: l2Table returns a small one and writes into the reader's block alone. -/
namespace Go.Proofs.YtgeegbbcjdlkbaaGreatDoor
open Go.RowKit Go.ChangeShapes
set_option linter.unusedSimpArgs false
set_option linter.unusedVariables false
set_option maxRecDepth 100000

/-- A small column. -/
def SmC (c : Col) : Prop := c.1.size ≤ 16 ∧ c.2.length ≤ 40 ∧ ∀ x ∈ c.2, -1000 ≤ x ∧ x ≤ 1000

/-- A drawn table is returned. -/
def RetDT (B : Nat) (a : Option Addr) (len cap g : Nat) (w : World) (m : Nat) (e : Ending) (w' : World) : Prop :=
  ∃ (a1 : Option Addr) (cap1 : Nat) (cs : List Col) (F : List Nat), e = .returned (.agg #[.slice a1 cs.length cap1]) ∧ colsE w' (.slice a1 cs.length cap1) cs F ∧ (∀ b ∈ F, w.heap.size ≤ b) ∧ (∀ c ∈ cs, SmC c) ∧ m ≤ cs.length ∧ cs.length ≤ 3 ∧ Rd B a len cap w' g ∧ Only [g] w w'

def lenOf : Value → Nat | .slice _ n _ => n | _ => 0

theorem names_small {x : ByteArray} (h : x ∈ [(⟨#[97]⟩ : ByteArray), ⟨#[98]⟩, ⟨#[99]⟩, ⟨#[112, 114, 105, 99, 101]⟩]) : x.size ≤ 16 := by
  simp only [List.mem_cons, List.not_mem_nil, or_false] at h
  rcases h with rfl | rfl | rfl | rfl <;> decide

set_option maxHeartbeats 8000000 in
theorem table_d (B : Nat) (a : Option Addr) (len cap g : Nat) (w : World) (h : Rd B a len cap w g) :
    Calls Tryz.prog 51 #[.pointer (some ⟨g, 0, none⟩)] w (RetDT B a len cap g w 1) := by
  have hlt := h.lt
  have hG : ∀ b ∈ [g], b < w.heap.size := by simp; exact hlt
  have R := hide ((h.alloc (.cells #[.slice none 0 0] 26)).alloc (.cells #[.slice none 0 0] 26))
  have X := hide (show Kd [g] w _ [(w.heap.size, #[.slice none 0 0], 26), (w.heap.size + 1, #[.slice none 0 0], 26)] from by
    have := (Kd.one [g] w #[.slice none 0 0] 26).alloc #[.slice none 0 0] 26
    simpa using this)
  obtain ⟨w1, hw1⟩ : ∃ w1, w1 = (w.alloc (.cells #[.slice none 0 0] 26)).alloc (.cells #[.slice none 0 0] 26) := ⟨_, rfl⟩
  have hs1 := hide (show w1.heap.size = w.heap.size + 2 by rw [hw1]; simp)
  rw [← hw1] at R X
  clear h
  have HG := hide hG
  clear hG
  go_enter Tryz.func51, Tryz.ntmps51
  go_wp2_with fail
  rw [← hw1]
  clear hw1
  refine (below_d B a len cap g _ R.out 12 (by omega) (by omega)).mono ?_
  rintro e wa ⟨n, ⟨n0, n1⟩, rfl, hr, ho⟩
  have R := hide hr
  have X := hide (X.out.drawn ho HG.out)
  have hsa := hide (show w.heap.size + 2 ≤ wa.heap.size by have := hs1.out; have := ho.below.size; omega)
  clear hr ho
  obtain ⟨N, rfl⟩ := Int.eq_ofNat_of_zero_le n0
  have hN : N ≤ 11 := by omega
  clear n0 n1
  go_wp2_with fail
  go_loopw [5] (fun i wr => ∃ (k : Nat) (av : Option Addr) (capv : Nat) (cs : List Col) (F : List Nat), k ≤ 3 ∧ i = .int .i64 k ∧ Hid (cs.length = k) ∧ Hid (Kd [g] w wr [(w.heap.size, #[.slice none 0 0], 26), (w.heap.size + 1, #[.slice av k capv], 26)]) ∧ Hid (colsE wr (.slice av k capv) cs F) ∧ Hid (∀ b ∈ F, w.heap.size + 2 ≤ b) ∧ Hid (∀ c ∈ cs, SmC c) ∧ Hid (Rd B a len cap wr g)) (fun i _ => 3 - (intOf i).toNat)
  case atStart => exact ⟨0, none, 0, [], [], by omega, rfl, rfl, X.out, .inl ⟨rfl, rfl, rfl⟩, by simp [Hid], by simp [Hid], R.out⟩
  case round =>
    clear X R hsa
    obtain ⟨k, av, capv, cs, F, hk, rfl, hkl, X, C, hF, hS, R⟩ := hrel
    go_wp2_with fail
    refine (below_d B a len cap g _ R.out 3 (by omega) (by omega)).mono ?_
    rintro e wb ⟨x, ⟨x0, x1⟩, rfl, hr, ho⟩
    have R := hide hr
    have X := hide (X.out.drawn ho HG.out)
    have C := hide (slE.only colE_good C.out ho (fun b hb hbg => by have := hF.out b hb; simp at hbg; omega))
    clear hr ho
    by_cases hkx : (k : Int) ≤ x
    · go_wp2_with fail
      have FL := hide (slE.lt colE_good C.out)
      have hsb := hide (show w.heap.size + 2 ≤ wb.heap.size by have := X.out.lt 1 rfl; omega)
      refine (vals_d B a len cap g _ R.out 12 (by omega)).mono ?_
      rintro e wv ⟨gl, capl, l, rfl, hown, hl, hlb, hr, ho⟩
      have R := hide hr
      have O := hide hown
      have X := hide (X.out.drawn ho HG.out)
      have C := hide (slE.only colE_good C.out ho (fun b hb hbg => by have := hF.out b hb; simp at hbg; omega))
      have HL := hide hlb
      have hsv := hide ho.below.size
      obtain ⟨nb, hnb⟩ : ∃ nb, nb = wb.heap.size := ⟨_, rfl⟩
      rw [← hnb] at O FL hsb hsv
      clear hr ho hown hlb hnb
      go_wp2_with fail
      go_loopw [6] (fun v wi => ∃ (gl capl : Nat) (l : List Int), v = .slice (some ⟨gl, 0, none⟩) l.length capl ∧ l.length ≤ 24 ∧ Hid (∀ y ∈ l, -1000 ≤ y ∧ y ≤ 1000) ∧ Hid (Is wi nb 3 (.slice (some ⟨gl, 0, none⟩) l.length capl) l) ∧ Hid (Kd [g] w wi [(w.heap.size, #[.slice none 0 0], 26), (w.heap.size + 1, #[.slice av k capv], 26)]) ∧ Hid (colsE wi (.slice av k capv) cs F) ∧ Hid (Rd B a len cap wi g) ∧ Hid (nb ≤ wi.heap.size)) (fun v _ => N - lenOf v)
      case atStart => exact ⟨gl, capl, l, rfl, by omega, HL.out, O.out, X.out, C.out, R.out, hsv.out⟩
      case round =>
        clear O X C R hsv HL hl
        obtain ⟨gl, capl, l, rfl, hl, HL, O, X, C, R, hsi⟩ := hrel
        by_cases hln : l.length < N
        · go_wp2_with fail
          refine (below_d B a len cap g _ R.out 9 (by omega) (by omega)).mono ?_
          rintro e wc ⟨y, ⟨y0, y1⟩, rfl, hr, ho⟩
          have R := hide hr
          have X := hide (X.out.drawn ho HG.out)
          have C := hide (slE.only colE_good C.out ho (fun b hb hbg => by have := hF.out b hb; simp at hbg; omega))
          have O := hide (O.out.only ho (by simp; have := hsb.out; omega))
          have hsi := hide (Nat.le_trans hsi.out ho.below.size)
          clear hr ho
          go_wp2_with (first | (at_builtin; refine is_append1 wc rfl _ _ 47 rfl nb 3 Tryz.underlying47 infoI _ l O.out rfl _ _ rfl (by omega) hsi.out ?_; intro v2 w2 hown2 hb2) | fail)
          obtain ⟨g2, c2, rfl, -, -⟩ := World.ownsRow.form hown2 (by simp)
          have R := hide (R.out.step (hb2.mono (by have := R.out.high; have := hsb.out; omega)) (hb2.block g (by have := hsb.out; omega)))
          have X := hide (X.out.far hb2 (by have := hsb.out; omega) (by simp; have := hsb.out; omega))
          have C := hide (slE.kept colE_good C.out (fun b hb => hb2.block b (FL.out b hb)))
          have O := hide hown2
          have hsi := hide (Nat.le_trans hsi.out hb2.size)
          clear hown2 hb2
          go_roundw
          case rel => exact ⟨_, _, l ++ [y], rfl, by simp; omega, by
            intro z hz
            rcases List.mem_append.1 hz with hz | hz
            · exact HL.out z hz
            · simp at hz; subst hz; omega, O.out, X.out, C.out, R.out, hsi.out⟩
          case measure => simp [lenOf]; omega
        · obtain ⟨-, hcap, -⟩ := O.out.capOf
          have hNc : N ≤ capl := by omega
          have hNc2 : (N : Int) ≤ (capl : Int) := by omega
          have c1 := X.out.cell 1 0 rfl rfl
          have z1 := X.out.lt 1 rfl
          have P := hide (pickS4 R.out ⟨#[97]⟩ ⟨#[98]⟩ ⟨#[99]⟩ ⟨#[112, 114, 105, 99, 101]⟩)
          have hcl := hide (show cs.length < 1099511627776 by have := hkl.out; omega)
          have hd := hide (show ∀ y ∈ [gl], y ∉ F from by
            intro y hy hyF
            simp at hy
            subst hy
            have h1 := FL.out _ hyF
            have h2 := (World.ownsRow.lt O.out y rfl).1
            omega)
          go_wp2_with fail
          go_region_law (first
            | (go_simp; go_at_call 49; refine P.out.mono ?_; rintro e w5 ⟨nm, hnm, rfl, hr, ho⟩; have R5 := hide hr; have X5 := hide (X.out.drawn ho HG.out); have C5 := hide (slE.only colE_good C.out ho (fun b hb hbg => by have := hF.out b hb; simp at hbg; omega)); have O5 := hide (O.out.only ho (by simp; have := hsb.out; omega)); have HNM := hide (names_small hnm); have c5 := X5.out.cell 1 0 rfl rfl; have z5 := X5.out.lt 1 rfl; have hb6 := below1 w5 (.cells #[.string nm, .slice (some ⟨gl, 0, none⟩) N capl] 58); have R6 := hide (R5.out.alloc (.cells #[.string nm, .slice (some ⟨gl, 0, none⟩) N capl] 58)); have X6 := hide (X5.out.up hb6); have C6 := hide (slE.below colE_good C5.out hb6); have U6 := hide ((OI.of (Is.below (O5.out.prefixOf N (by omega)) hb6)).1); have H6 := hide (heap_alloc_new w5 (.cells #[.string nm, .slice (some ⟨gl, 0, none⟩) N capl] 58)); have S6 := hide ho.below.size; clear hr ho hb6 hnm)
            | (refine step_colsV _ (by rfl) _ _ (by rfl) _ _ F (by rfl) C6.out nm _ _ [gl] U6.out hd.out w5.heap.size _ (by rfl) H6.out hcl.out ?_; intro g9 cap9 F9 w9 hc9 hF9 ho9; have X9 := hide (X6.out.others ho9 (fun b hb => .inr (by have := hF.out b hb; omega)) (by simp; exact ⟨fun hb => by have := hF.out _ hb; omega, fun hb => by have := hF.out _ hb; omega⟩)); have R9 := hide (R6.out.only ho9 (fun b hb => by have := hF.out b hb; omega)); have c9 := X9.out.cell 1 0 rfl rfl; have f9 := X9.out.free 1 0 rfl; have C9 := hide hc9; have F9' := hide hF9; clear hc9 hF9 ho9))
          all_goals
            go_wp2_with fail
            go_roundw
            case rel =>
              have hkk := hkl.out
              subst hkk
              have hF10 : ∀ b ∈ F9, w.heap.size + 2 ≤ b := fun b hb => by
                rcases F9'.out b hb with h1 | h1 | h1
                · exact hF.out b h1
                · simp at h1
                  subst h1
                  have := (World.ownsRow.lt O.out b rfl).1
                  have := hsb.out
                  omega
                · have := X5.out.lt 1 rfl
                  simp at h1
                  omega
              refine ⟨cs.length + 1, some ⟨g9, 0, none⟩, cap9, cs ++ [(nm, l.take N)], F9, by omega, by go_num, by simp [Hid], X9.out.set 1 0 rfl (.slice (some ⟨g9, 0, none⟩) (cs.length + 1) cap9), ?_, hF10, ?_, ?_⟩
              · show colsE _ _ _ _
                exact slE.only colE_good C9.out (Only.setCell (F := [w.heap.size + 1]) (Only.refl _ _) (by simp) _) (fun b hb hbg => by have := hF10 b hb; simp at hbg; omega)
              · intro c hc
                rcases List.mem_append.1 hc with hc | hc
                · exact hS.out c hc
                · simp at hc
                  subst hc
                  exact ⟨HNM.out, by simp; omega, fun y hy => HL.out y (List.mem_of_mem_take hy)⟩
              · exact R9.out.only (Only.setCell (F := [w.heap.size + 1]) (Only.refl _ _) (by simp) _) (by simp; omega)
            case measure => simp [intOf]; omega
    · have hk1 : 1 ≤ k := by omega
      have c1 := X.out.cell 1 0 rfl rfl
      have c0 := X.out.cell 0 0 rfl rfl
      have f0 := X.out.free 0 0 rfl
      go_wp2_with fail
      have Y := X.out.set 0 0 rfl (.slice av k capv)
      have q0 := Y.cell 0 0 rfl rfl
      have hkk := hkl.out
      subst hkk
      refine bodyPost_ret (v := .agg #[.slice av cs.length capv]) (by simp [results, Tryz.results51, go_sem, q0]) rfl ⟨av, capv, cs, F, rfl, ?_, fun b hb => by have := hF.out b hb; omega, hS.out, hk1, by omega, ?_, Y.only⟩
      · exact slE.only colE_good C.out (Only.setCell (F := [w.heap.size]) (Only.refl _ _) (by simp) _) (fun b hb hbg => by have := hF.out b hb; simp at hbg; omega)
      · exact R.out.only (Only.setCell (F := [w.heap.size]) (Only.refl _ _) (by simp) _) (by simp; exact hlt)

end Go.Proofs.YtgeegbbcjdlkbaaGreatDoor
