/- Drawn numbers, lists and ranges, by what may turn: the reader's block alone. -/
import Derived.Test.YtajfhalalnlejaaGreatDraw
import Derived.Test.YtajfhalalnlejaaGreatOwn
import Derived.Test.YtajfhalalnlejaaGreatScan
import Derived.Deep.AppendLies
namespace Go.Proofs.YtajfhalalnlejaaGreat
open Go.RowKit Go.ChangeShapes
set_option linter.unusedSimpArgs false
set_option linter.unusedVariables false
set_option maxRecDepth 100000

theorem grown_only {w w' : World} {g : Nat} (h : w.grownBy w' (some g)) : Only [g] w w' :=
  ⟨⟨h.os, h.tape, h.output, h.size, fun k hk => absurd hk (Nat.not_lt_zero k)⟩, fun k hk hn => h.block k hk (fun e => hn (by simp [Option.some.inj e]))⟩

theorem Only.then' {F : List Nat} {w a c : World} (h : Only F w a) (hb : Below w.heap.size a c) : Only F w c :=
  ⟨h.below.trans (hb.mono (Nat.zero_le _)), fun b hlt hn => (hb.block b hlt).trans (h.block b hlt hn)⟩

theorem Only.low {F : List Nat} {w w' : World} (h : Only F w w') {B : Nat} (hF : ∀ b ∈ F, B ≤ b) (hB : B ≤ w.heap.size) : Below B w w' := h.toBelow hF hB

theorem Rd.only {B : Nat} {a : Option Addr} {len cap g : Nat} {w w' : World} {F : List Nat} (h : Rd B a len cap w g) (ho : Only F w w') (hF : ∀ b ∈ F, g < b) : Rd B a len cap w' g := by
  have hlt := h.lt
  have hh := h.high
  exact h.step (ho.toBelow (fun b hb => by have := hF b hb; omega) (by omega)) (ho.block g hlt (fun hb => by have := hF g hb; omega))

theorem Is.only {w w' : World} {base : Nat} {e : TypeId} {v : Value} {l : List Int} {F : List Nat} (h : Is w base e v l) (ho : Only F w w') (hF : ∀ b ∈ F, b < base) : Is w' base e v l := by
  refine ⟨h.1, ?_⟩
  rcases h.2 with h2 | ⟨g, cap, cur, hv, hb, hg, r⟩
  · exact .inl h2
  · exact .inr ⟨g, cap, cur, hv, hb, by rw [ho.block g (Array.getElem?_eq_some_iff.1 hg).1 (fun hf => by have := hF g hf; omega)]; exact hg, r⟩

/-- A drawn number with P is returned, the reader stands, of what was there only its block may have turned. -/
def RetD (B : Nat) (a : Option Addr) (len cap g : Nat) (w : World) (P : Int → Prop) (e : Ending) (w' : World) : Prop := ∃ x : Int, P x ∧ e = .returned (.int .i64 x) ∧ Rd B a len cap w' g ∧ Only [g] w w'

theorem below_d (B : Nat) (a : Option Addr) (len cap g : Nat) (w : World) (h : Rd B a len cap w g) (n : Int) (hn : 1 ≤ n) (hn2 : n ≤ 4294967296) :
    Calls Tryz.prog 114 #[.pointer (some ⟨g, 0, none⟩), .int .i64 n] w (RetD B a len cap g w (fun x => 0 ≤ x ∧ x < n)) :=
  (below_rd B a len cap g w h n hn hn2).mono fun e w' ⟨x, h1, h2, h3, h4, h5⟩ => ⟨x, ⟨h1, by omega⟩, h3, h4, grown_only h5⟩

set_option maxHeartbeats 2000000 in
theorem pickI_d (B : Nat) (a : Option Addr) (len cap g : Nat) (w : World) (h : Rd B a len cap w g) (L : List Int) (b n c : Nat) (hn : n = L.length) (hn1 : 1 ≤ n) (hn2 : n ≤ 1000) (hbg : b ≠ g) (hb : b < w.heap.size)
    (hc : ∀ j (hj : j < L.length), w.cell? ⟨b, j, none⟩ = some (.int .i64 L[j])) :
    Calls Tryz.prog 115 #[.pointer (some ⟨g, 0, none⟩), .slice (some ⟨b, 0, none⟩) n c] w (RetD B a len cap g w (· ∈ L)) := by
  have H := hide h
  have HC := hide hc
  have HN := hide hn
  clear h hc hn
  go_enter Tryz.func115, Tryz.ntmps115
  go_wp2_with fail
  refine (below_d B a len cap g _ H.out (n : Int) (by omega) (by omega)).mono ?_
  rintro e wa ⟨x, ⟨hx0, hx1⟩, rfl, hr, hg⟩
  obtain ⟨j, rfl⟩ := Int.eq_ofNat_of_zero_le hx0
  have hjL : j < L.length := by have := HN.out; omega
  obtain ⟨v, hvv⟩ : ∃ v, v = L[j] := ⟨_, rfl⟩
  have hv := HC.out j hjL
  rw [← hvv] at hv
  have hv2 : wa.cell? ⟨b, j, none⟩ = some (.int .i64 v) := by rw [World.cell?_of_block (w := w) (hg.block b hb (by simp; exact hbg))]; exact hv
  have hj : (j : Int) < (n : Int) := by omega
  have HR := hide hr
  have HG := hide hg
  have HV := hide (show v ∈ L by rw [hvv]; exact List.getElem_mem _)
  clear hr hg hv hx1 hvv
  go_wp2_with fail
  go_ret
  exact ⟨v, HV.out, rfl, HR.out, HG.out⟩

/-- A drawn text of L is returned. -/
def RetDS (B : Nat) (a : Option Addr) (len cap g : Nat) (w : World) (L : List ByteArray) (e : Ending) (w' : World) : Prop := ∃ x ∈ L, e = .returned (.string x) ∧ Rd B a len cap w' g ∧ Only [g] w w'

/-- The cells of a list of literals, just made. -/
theorem litsI (w : World) (L : List Int) (t : TypeId) : ∀ j (hj : j < L.length), (w.alloc (.cells (L.map (Value.int .i64)).toArray t)).cell? ⟨w.heap.size, j, none⟩ = some (.int .i64 L[j]) := by
  intro j hj
  rw [World.cell?_alloc_mark]
  simp [hj]
theorem litsS (w : World) (L : List ByteArray) (t : TypeId) : ∀ j (hj : j < L.length), (w.alloc (.cells (L.map Value.string).toArray t)).cell? ⟨w.heap.size, j, none⟩ = some (.string L[j]) := by
  intro j hj
  rw [World.cell?_alloc_mark]
  simp [hj]

theorem wide_pos {x : Int} (h : x ∈ [3, 10, 30, 1000]) : x = 3 ∨ x = 10 ∨ x = 30 ∨ x = 1000 := by simpa using h

/-- Drawn small numbers in a row of the call's own. -/
def RetVs (B : Nat) (a : Option Addr) (len cap g : Nat) (w : World) (most : Nat) (e : Ending) (w' : World) : Prop :=
  ∃ gl capl l, e = .returned (.slice (some ⟨gl, 0, none⟩) l.length capl) ∧ Is w' w.heap.size 3 (.slice (some ⟨gl, 0, none⟩) l.length capl) l ∧ l.length ≤ most ∧ (∀ x ∈ l, -1000 ≤ x ∧ x ≤ 1000) ∧ Rd B a len cap w' g ∧ Only [g] w w'

set_option maxHeartbeats 4000000 in
theorem vals_d (B : Nat) (a : Option Addr) (len cap g : Nat) (w : World) (h : Rd B a len cap w g) (most : Nat) (hm : most ≤ 1000) :
    Calls Tryz.prog 131 #[.pointer (some ⟨g, 0, none⟩), .int .i64 most] w (RetVs B a len cap g w most) := by
  have hlt := h.lt
  have h1 := h.alloc (.cells #[] 3)
  have HO := hide (Is.made w w.heap.size 3 (Nat.le_refl _))
  have HW := hide (Only.of_below (F := [g]) ((Below.refl w.heap.size w).alloc (Nat.le_refl _) (.cells #[] 3)))
  have H1 := hide (h1.alloc (.cells #[.int .i64 3, .int .i64 10, .int .i64 30, .int .i64 1000] 3))
  have HO := hide (HO.out.below ((Below.refl _ _).alloc (Nat.le_refl _) (.cells #[.int .i64 3, .int .i64 10, .int .i64 30, .int .i64 1000] 3)))
  have HW := hide (HW.out.trans (Only.of_below ((Below.refl _ _).alloc (Nat.le_refl _) (.cells #[.int .i64 3, .int .i64 10, .int .i64 30, .int .i64 1000] 3))))
  have hlits := hide (litsI (w.alloc (.cells #[] 3)) [3, 10, 30, 1000] 3)
  have hz : (w.alloc (.cells #[] 3)).heap.size = w.heap.size + 1 := by simp
  rw [hz] at hlits
  clear h h1 hz
  go_enter Tryz.func131, Tryz.ntmps131
  go_wp2_with fail
  refine (pickI_d B a len cap g _ H1.out [3, 10, 30, 1000] (w.heap.size + 1) 4 4 rfl (by omega) (by omega) (by omega) (by simp) hlits.out).mono ?_
  rintro e wa ⟨wd, hwd, rfl, hr, ho⟩
  have hwd2 := wide_pos hwd
  have hw1 : 1 ≤ wd ∧ wd ≤ 1000 := by omega
  have HR := hide hr
  have HO := hide (HO.out.only ho (by simp; exact hlt))
  have HW := hide (HW.out.trans ho)
  clear hr ho hwd hwd2
  obtain ⟨hw1, hw2⟩ := hw1
  go_wp2_with fail
  refine (below_d B a len cap g _ HR.out ((most : Int) + 1) (by omega) (by omega)).mono ?_
  rintro e wb ⟨n, ⟨n0, n1⟩, rfl, hr, ho⟩
  have HR := hide hr
  have HO := hide (HO.out.only ho (by simp; exact hlt))
  have HW := hide (HW.out.trans ho)
  clear hr ho
  obtain ⟨N, rfl⟩ := Int.eq_ofNat_of_zero_le n0
  have hN : N ≤ most := by omega
  clear n0 n1
  go_wp2_with fail
  go_loopw [5, 7, 8] (fun v nn _ wr => ∃ (k : Nat) (l : List Int) (gl capl : Nat), v = .slice (some ⟨gl, 0, none⟩) l.length capl ∧ k ≤ N ∧ nn = .int .i64 k ∧ l.length + k = N ∧ Hid (∀ x ∈ l, -1000 ≤ x ∧ x ≤ 1000) ∧ Hid (Is wr w.heap.size 3 v l) ∧ Hid (Rd B a len cap wr g) ∧ Hid (Only [g] w wr)) (fun _ nn _ _ => (intOf nn).toNat)
  case atStart => exact ⟨N, [], _, _, rfl, by omega, rfl, by simp, by simp [Hid], HO.out, HR.out, HW.out⟩
  case round =>
    clear HO HR HW H1 hlits
    obtain ⟨k, l, gl, capl, rfl, hk, rfl, hlk, hl, O, R, W⟩ := hrel
    by_cases hk0 : k = 0
    · subst hk0
      have HLK := hide hlk
      clear hlk
      go_wp2_with fail
      go_ret
      exact ⟨_, _, l, rfl, O.out, by have := HLK.out; omega, hl.out, R.out, W.out⟩
    · have HLK := hide hlk
      have hll : l.length ≤ 1000 := by omega
      clear hlk
      go_wp2_with fail
      refine (below_d B a len cap g _ R.out wd (by omega) (by omega)).mono ?_
      rintro e wc ⟨x, ⟨x0, x1⟩, rfl, hr, ho⟩
      have R := hide hr
      have O := hide (O.out.only ho (by simp; exact hlt))
      have W := hide (W.out.trans ho)
      have hsz := hide W.out.below.size
      clear hr ho
      go_wp2_with (first | (at_builtin; refine is_append1 wc rfl _ _ 22 rfl w.heap.size 3 Tryz.underlying22 infoI _ l O.out rfl _ _ rfl (by omega) hsz.out ?_; intro v2 w2 hown2 hb2) | fail)
      have R := hide (R.out.step (hb2.mono (by have := R.out.high; omega)) (hb2.block g hlt))
      have W := hide (W.out.then' hb2)
      obtain ⟨g2, c2, rfl, -, -⟩ := World.ownsRow.form hown2 (by simp)
      have O := hide hown2
      clear hown2 hb2
      go_roundw
      case rel => exact ⟨k - 1, l ++ [x - wd / 3], _, _, rfl, by omega, by go_num, by have := HLK.out; simp; omega, by
        intro y hy
        rcases List.mem_append.1 hy with hy | hy
        · exact hl.out y hy
        · simp at hy; subst hy; omega, O.out, R.out, W.out⟩
      case measure => simp [intOf]; omega

end Go.Proofs.YtajfhalalnlejaaGreat
