/- Several texts in one: DrawA, DrawA2, DrawF, Texts0. -/
import Derived.Test.YtgeegbbcjdlkbaaGreatDoorQA
import Derived.Test.YtgeegbbcjdlkbaaGreatDoorQB
import Derived.Test.YtgeegbbcjdlkbaaGreatDoorQC
import Derived.Test.YtgeegbbcjdlkbaaGreatDoorRng
import Derived.Test.YtgeegbbcjdlkbaaGreatDoorFmtI2
import Derived.Test.YtgeegbbcjdlkbaaGreatDoorQE
import Derived.Test.YtgeegbbcjdlkbaaGreatDoorQF
import Derived.Test.YtgeegbbcjdlkbaaGreatDoorKn
/- Drawn tables, some of them spoilt: l2AnyTable returns a small one to be read, and writes into the reader's block alone. -/
namespace Go.Proofs.YtgeegbbcjdlkbaaGreatDoor
open Go.RowKit Go.ChangeShapes
set_option linter.unusedSimpArgs false
set_option linter.unusedVariables false
set_option maxRecDepth 100000

/-- A small column of a table that may be spoilt. -/
def SmD (c : Col) : Prop := c.1.size ≤ 16 ∧ c.2.length ≤ 41 ∧ ∀ x ∈ c.2, -1000 ≤ x ∧ x ≤ 1000

theorem SmC.d {c : Col} (h : SmC c) : SmD c := ⟨h.1, by have := h.2.1; omega, h.2.2⟩

theorem oi_nilok {w : World} {e : TypeId} {v : Value} {l : List Int} {F : List Nat} (h : OI w e v l F) : NilOk v := by
  rcases h.1.2 with ⟨hv, _⟩ | ⟨g, cap, cur, hv, _⟩
  · exact .inl hv
  · exact .inr ⟨_, _, _, hv⟩

theorem rt_of {w : World} {v : Value} {cs : List Col} {F : List Nat} (h : colsE w v cs F) (hs : ∀ c ∈ cs, SmD c) : Rt w v cs := by
  refine ⟨⟨_, rfl, colsE_cols h (Nat.le_refl _) (fun c hc => ⟨by have := (hs c hc).1; omega, fun x hx => by have := (hs c hc).2.2 x hx; exact ⟨by omega, by omega⟩⟩)⟩, fun b o j n c x hv hj hx => ?_⟩
  obtain ⟨g, cap', cc, Fj, hv2, hgF, hgs, hgj, hsub, hE, hcl, hcell, hfro, hput, hsto⟩ := slE.at colE_good h j hj
  have h3 := hv.symm.trans hv2
  simp at h3
  obtain ⟨⟨rfl, rfl⟩, _, _⟩ := h3
  obtain ⟨u, rfl, hoi⟩ := hE
  have c1 := hcell 1 (by omega)
  simp only [List.getElem?_cons_zero, List.getElem?_cons_succ] at c1
  rw [Nat.zero_add, c1] at hx
  obtain rfl := Option.some.inj hx
  exact oi_nilok hoi

theorem pick4D {B : Nat} {a : Option Addr} {len cap g : Nat} {w : World} (R : Rd B a len cap w g) (p q r s : Int) :
    Calls Tryz.prog 52 #[.pointer (some ⟨g, 0, none⟩), .slice (some ⟨w.heap.size, 0, none⟩) 4 4] (w.alloc (.cells #[.int .i64 p, .int .i64 q, .int .i64 r, .int .i64 s] 3)).drew (RetD B a len cap g w (fun x => x = p ∨ x = q ∨ x = r ∨ x = s)) := by
  refine (pickI_d B a len cap g _ (R.alloc _).drew [p, q, r, s] w.heap.size 4 4 rfl (by omega) (by omega) (by have := R.lt; omega) (by simp) (fun j hj => litsI w [p, q, r, s] 3 j hj)).mono ?_
  rintro e w' ⟨x, hx, he, hr, ho⟩
  exact ⟨x, by simpa using hx, he, hr, (Only.of_below (((Below.refl _ _).alloc (Nat.le_refl _) _).drew)).trans ho⟩

/-- The first column's name, and what a store to it makes of the row. -/
theorem col_name {W : World} {g n cap : Nat} {cs : List Col} {F : List Nat} (h : colsE W (.slice (some ⟨g, 0, none⟩) n cap) cs F) (h0 : 0 < cs.length) :
    W.cell? ⟨g, 0, none⟩ = some (.string cs[0].1) ∧ W.frozen? ⟨g, 0, none⟩ = false ∧ g < W.heap.size ∧ g ∈ F ∧ n = cs.length ∧
    ∀ nm : ByteArray, colsE (W.setCell ⟨g, 0, none⟩ (.string nm)) (.slice (some ⟨g, 0, none⟩) n cap) (cs.set 0 (nm, cs[0].2)) F := by
  have hnd := slE.nodup h
  obtain ⟨g', cap', c, Fj, FA, FB, hv, hFeq, hgs, hgj, hE, hcl, hcell, hfro, hswap⟩ := slE.swap colE_good h 0 h0
  simp only [Value.slice.injEq, Option.some.injEq, Addr.mk.injEq, and_true, true_and] at hv
  obtain ⟨rfl, rfl, rfl⟩ := hv
  obtain ⟨u, rfl, hoi⟩ := hE
  have c0 := hcell 0 (by omega)
  simp only [List.getElem?_cons_zero, Nat.zero_mul, Nat.add_zero] at c0
  refine ⟨c0, hfro 0, hgs, by rw [hFeq]; simp, rfl, fun nm => ?_⟩
  have o7 : OI (W.setCell ⟨g, 0 * 2 + 0, none⟩ (.string nm)) 3 u cs[0].2 Fj := hoi.only (Only.setCell (F := [g]) (Only.refl _ _) (by simp) _) (fun b hb hbg => by simp at hbg; subst hbg; exact hgj hb)
  rw [hFeq, List.nodup_cons, List.nodup_append, List.nodup_append] at hnd
  obtain ⟨hn1, hn2, ⟨hn3, hn4, hn5⟩, hn6⟩ := hnd
  have := hswap W 0 (.string nm) (nm, cs[0].2) Fj (Only.refl _ _) (by omega) ⟨u, rfl, o7⟩ (fun b hb hh => by
    rcases List.mem_cons.1 hh with hh | hh
    · exact hgj (hh ▸ hb)
    · rcases List.mem_append.1 hh with hh | hh
      · exact hn6 _ hh _ (by simp [hb]) rfl
      · exact hn5 _ hb _ hh rfl) hn3
  rw [← hFeq] at this
  exact this

end Go.Proofs.YtgeegbbcjdlkbaaGreatDoor

/- l2AnyTable of the reference. -/
namespace Go.Proofs.YtgeegbbcjdlkbaaGreatDoor
open Go.RowKit Go.ChangeShapes
set_option linter.unusedSimpArgs false
set_option linter.unusedVariables false
set_option maxRecDepth 100000

/-- A table to be read, whose blocks are lo and above. -/
def RtL (lo : Nat) (w : World) (u : Value) (cs : List Col) : Prop := ∀ w'' : World, (∀ b, lo ≤ b → b < w.heap.size → w''.heap[b]? = w.heap[b]?) → w.heap.size ≤ w''.heap.size → Rt w'' u cs

theorem RtL.rt {lo : Nat} {w : World} {u : Value} {cs : List Col} (h : RtL lo w u cs) : Rt w u cs := h w (fun _ _ _ => rfl) (Nat.le_refl _)

theorem RtL.up {lo : Nat} {w w' : World} {u : Value} {cs : List Col} (h : RtL lo w u cs) (h1 : ∀ b, lo ≤ b → b < w.heap.size → w'.heap[b]? = w.heap[b]?) (h2 : w.heap.size ≤ w'.heap.size) : RtL lo w' u cs :=
  fun w'' k1 k2 => h w'' (fun b hb hlt => (k1 b hb (Nat.lt_of_lt_of_le hlt h2)).trans (h1 b hb hlt)) (Nat.le_trans h2 k2)

theorem RtL.below {lo : Nat} {w w' : World} {u : Value} {cs : List Col} (h : RtL lo w u cs) (hb : Below w.heap.size w w') : RtL lo w' u cs := h.up (fun b _ hlt => hb.block b hlt) hb.size
theorem RtL.only {lo : Nat} {w w' : World} {u : Value} {cs : List Col} {F : List Nat} (h : RtL lo w u cs) (ho : Only F w w') (hF : ∀ b ∈ F, b < lo) : RtL lo w' u cs := h.up (fun b hb hlt => ho.block b hlt (fun hf => by have := hF b hf; omega)) ho.below.size
theorem RtL.high {lo lo' : Nat} {w : World} {u : Value} {cs : List Col} (h : RtL lo w u cs) (hl : lo' ≤ lo) : RtL lo' w u cs := fun w'' k1 k2 => h w'' (fun b hb hlt => k1 b (Nat.le_trans hl hb) hlt) k2

theorem rtl_of {lo : Nat} {w : World} {v : Value} {cs : List Col} {F : List Nat} (h : colsE w v cs F) (hs : ∀ c ∈ cs, SmD c) (hF : ∀ y ∈ F, lo ≤ y) : RtL lo w v cs :=
  fun w'' k1 _ => rt_of (slE.kept colE_good h (fun b hb => k1 b (hF b hb) (slE.lt colE_good h b hb))) hs

/-- A drawn table is returned, to be read. -/
def RetDA (B : Nat) (a : Option Addr) (len cap g : Nat) (w : World) (e : Ending) (w' : World) : Prop :=
  ∃ (a1 : Option Addr) (cap1 : Nat) (cs : List Col), e = .returned (.agg #[.slice a1 cs.length cap1]) ∧ RtL w.heap.size w' (.slice a1 cs.length cap1) cs ∧ (∀ c ∈ cs, SmD c) ∧ cs.length ≤ 3 ∧ Rd B a len cap w' g ∧ Only [g] w w'

/-- A store into a block that the table does not lie in. -/
theorem colsE_other {W : World} {v : Value} {cs : List Col} {F : List Nat} (h : colsE W v cs F) {b : Nat} (hb : b ∉ F) (j : Nat) (u : Value) : colsE (W.setCell ⟨b, j, none⟩ u) v cs F :=
  slE.only colE_good h (Only.setCell (F := [b]) (Only.refl _ _) (by simp) _) (fun x hx hbg => by simp at hbg; subst hbg; exact hb hx)

/-- Where l2AnyTable stands when the table is drawn. -/
structure At (B : Nat) (a : Option Addr) (len cap g b : Nat) (w W : World) (av : Option Addr) (capv : Nat) (cs : List Col) (F : List Nat) : Prop where
  X : Kd [g] w W [(w.heap.size, #[.slice none 0 0], 26), (b, #[.slice av cs.length capv], 26)]
  C : colsE W (.slice av cs.length capv) cs F
  R : Rd B a len cap W g
  FL : ∀ y ∈ F, w.heap.size < y ∧ y < b
  S : ∀ c ∈ cs, SmC c
  l1 : 1 ≤ cs.length
  l3 : cs.length ≤ 3
  lt : g < w.heap.size
  wb : w.heap.size < b

theorem At.drawn {B : Nat} {a : Option Addr} {len cap g b : Nat} {w W W' : World} {av : Option Addr} {capv : Nat} {cs : List Col} {F : List Nat} (h : At B a len cap g b w W av capv cs F) (hr : Rd B a len cap W' g) (ho : Only [g] W W') : At B a len cap g b w W' av capv cs F :=
  ⟨h.X.drawn ho (by simp; exact h.lt), slE.only colE_good h.C ho (fun x hx hbg => by have := (h.FL x hx).1; have := h.lt; simp at hbg; omega), hr, h.FL, h.S, h.l1, h.l3, h.lt, h.wb⟩

theorem At.facts {B : Nat} {a : Option Addr} {len cap g b : Nat} {w W : World} {av : Option Addr} {capv : Nat} {cs : List Col} {F : List Nat} (h : At B a len cap g b w W av capv cs F) :
    W.cell? ⟨w.heap.size, 0, none⟩ = some (.slice none 0 0) ∧ W.frozen? ⟨w.heap.size, 0, none⟩ = false ∧ W.cell? ⟨b, 0, none⟩ = some (.slice av cs.length capv) ∧ W.frozen? ⟨b, 0, none⟩ = false ∧ w.heap.size < W.heap.size ∧ b < W.heap.size ∧ ¬ b = w.heap.size ∧ ¬ w.heap.size = b :=
  ⟨h.X.cell 0 0 rfl rfl, h.X.free 0 0 rfl, h.X.cell 1 0 rfl rfl, h.X.free 1 0 rfl, h.X.lt 0 rfl, h.X.lt 1 rfl, by have := h.wb; omega, by have := h.wb; omega⟩

/-- The result's variable is written. -/
theorem any_fin {B : Nat} {a : Option Addr} {len cap g : Nat} {w V : World} {L : List (Nat × Array Value × TypeId)} {x : Value} {a1 : Option Addr} {n cap1 : Nat} {cs : List Col} (X : Kd [g] w V ((w.heap.size, #[x], 26) :: L)) (hlt : g < w.heap.size) (R : Rd B a len cap V g) (hn : n = cs.length)
    (hT : RtL w.heap.size (V.setCell ⟨w.heap.size, 0, none⟩ (.slice a1 n cap1)) (.slice a1 n cap1) cs) (hS : ∀ c ∈ cs, SmD c) (h3 : cs.length ≤ 3) :
    (V.setCell ⟨w.heap.size, 0, none⟩ (.slice a1 n cap1)).cell? ⟨w.heap.size, 0, none⟩ = some (.slice a1 n cap1) ∧ RetDA B a len cap g w (.returned (.agg #[.slice a1 n cap1])) (V.setCell ⟨w.heap.size, 0, none⟩ (.slice a1 n cap1)) := by
  subst hn
  have Y := X.set 0 0 rfl (.slice a1 cs.length cap1)
  exact ⟨Y.cell 0 0 rfl rfl, a1, cap1, cs, rfl, hT, hS, h3, R.only (Only.setCell (F := [w.heap.size]) (Only.refl _ _) (by simp) _) (by simp; exact hlt), Y.only⟩

theorem any_fin2 {B : Nat} {a : Option Addr} {len cap g : Nat} {w V : World} {L : List (Nat × Array Value × TypeId)} {x : Value} {a1 : Option Addr} {n cap1 : Nat} {cs : List Col} {F : List Nat} (X : Kd [g] w V ((w.heap.size, #[x], 26) :: L)) (hlt : g < w.heap.size) (R : Rd B a len cap V g) (hn : n = cs.length)
    (C : colsE V (.slice a1 n cap1) cs F) (hF : ∀ y ∈ F, w.heap.size < y) (hS : ∀ c ∈ cs, SmD c) (h3 : cs.length ≤ 3) :
    (V.setCell ⟨w.heap.size, 0, none⟩ (.slice a1 n cap1)).cell? ⟨w.heap.size, 0, none⟩ = some (.slice a1 n cap1) ∧ RetDA B a len cap g w (.returned (.agg #[.slice a1 n cap1])) (V.setCell ⟨w.heap.size, 0, none⟩ (.slice a1 n cap1)) :=
  any_fin X hlt R hn (rtl_of (colsE_other C (fun hh => by have := hF _ hh; omega) _ _) hS (fun y hy => Nat.le_of_lt (hF y hy))) hS h3

theorem Rt.nul {W : World} (g n : Nat) : Rt W (.slice (some ⟨g, n, none⟩) 0 0) [] :=
  ⟨⟨_, rfl, _, _, rfl, by simp, fun j hj => by simp at hj⟩, fun b o j n c x hu hj hx => by simp at hj⟩

theorem Rt.tail {W : World} {g n cap : Nat} {cs : List Col} (h : Rt W (.slice (some ⟨g, 0, none⟩) n cap) cs) (hn : n = cs.length) : Rt W (.slice (some ⟨g, 2, none⟩) (n - 1) (cap - 1)) (cs.drop 1) := by
  subst hn
  have key : ∀ j (hj : j < (cs.drop 1).length), ∃ u, g < W.heap.size ∧ W.cell? ⟨g, 2 + j * 2, none⟩ = some (.string (cs.drop 1)[j].1) ∧ W.cell? ⟨g, 2 + j * 2 + 1, none⟩ = some u ∧ (cs.drop 1)[j].1.size ≤ 9223372036854775807 ∧ Ints W W.heap.size u (cs.drop 1)[j].2 ∧ NilOk u := by
    intro j hj
    have hj1 : j + 1 < cs.length := by simp at hj; omega
    have hp := h.ptr
    obtain ⟨u', hu', a', cap', hv, hlen, hcell⟩ := h.tbl
    simp at hu'
    subst hu'
    simp only [Value.slice.injEq, true_and] at hv
    obtain ⟨rfl, rfl⟩ := hv
    obtain ⟨b, o, u, hab, hb, h1, h2, h3, h4⟩ := hcell (j + 1) hj1
    simp at hab
    obtain ⟨rfl, rfl⟩ := hab
    have e : (cs.drop 1)[j] = cs[j + 1] := by rw [List.getElem_drop]; congr 1; omega
    have hn := hp g 0 (j + 1) _ _ u rfl hj1 h2
    rw [show 0 + (j + 1) * 2 = 2 + j * 2 by omega] at h1 h2
    exact ⟨u, hb, by rw [e]; exact h1, h2, by rw [e]; exact h3, by rw [e]; exact h4, hn⟩
  have hl : cs.length - 1 = (cs.drop 1).length := by simp
  obtain ⟨_, _, _, hlen⟩ := h.form
  refine ⟨⟨_, rfl, _, _, by rw [hl], by rw [← hl]; omega, fun j hj => ?_⟩, fun b o j n c x hu hj hx => ?_⟩
  · obtain ⟨u, h1, h2, h3, h4, h5, _⟩ := key j hj
    exact ⟨g, 2, u, rfl, h1, h2, h3, h4, h5⟩
  · obtain ⟨u, h1, h2, h3, h4, h5, h6⟩ := key j hj
    simp only [Value.slice.injEq, Option.some.injEq, Addr.mk.injEq, and_true] at hu
    obtain ⟨⟨rfl, rfl⟩, _⟩ := hu
    rw [h3] at hx
    obtain rfl := Option.some.inj hx
    exact h6

theorem names2 {x : ByteArray} (h : x ∈ [(⟨#[]⟩ : ByteArray), ⟨#[97, 49]⟩, ⟨#[97, 98, 99, 100, 101, 102, 103, 104, 105]⟩, ⟨#[97, 32, 98]⟩]) : x.size ≤ 16 := by
  simp only [List.mem_cons, List.not_mem_nil, or_false] at h
  rcases h with rfl | rfl | rfl | rfl <;> decide

set_option maxHeartbeats 4000000 in
theorem anyT_d (B : Nat) (a : Option Addr) (len cap g : Nat) (w : World) (h : Rd B a len cap w g) :
    Calls Tryz.prog 28 #[.pointer (some ⟨g, 0, none⟩)] w (RetDA B a len cap g w) := by
  have hlt := h.lt
  have R := hide (h.alloc (.cells #[.slice none 0 0] 26))
  have X := hide (Kd.one [g] w #[.slice none 0 0] 26)
  obtain ⟨w1, hw1⟩ : ∃ w1, w1 = w.alloc (.cells #[.slice none 0 0] 26) := ⟨_, rfl⟩
  have hs1 := hide (show w1.heap.size = w.heap.size + 1 by rw [hw1]; simp)
  rw [← hw1] at R X
  clear h
  go_enter Tryz.func28, Tryz.ntmps28
  go_wp2_with fail
  rw [← hw1]
  clear hw1
  go_wp2_with fail
  refine (table_d B a len cap g _ R.out).mono ?_
  rintro e wa ⟨av, capv, cs, F, rfl, hC, hF, hS, hl1, hl3, hr, ho⟩
  have X := hide (X.out.drawn ho (by simp; exact hlt))
  have zb : w.heap.size < wa.heap.size := X.out.lt 0 rfl
  have hlt2 := hide (slE.lt colE_good hC)
  have A := hide (show At B a len cap g wa.heap.size w (wa.alloc (.cells #[.slice av cs.length capv] 26)) av capv cs F from
    ⟨X.out.alloc #[.slice av cs.length capv] 26, slE.below colE_good hC (below1 _ _), hr.alloc _, fun y hy => ⟨by have := hF y hy; have := hs1.out; omega, hlt2.out y hy⟩, hS, hl1, hl3, hlt, zb⟩)
  obtain ⟨b, hb⟩ : ∃ b, b = wa.heap.size := ⟨_, rfl⟩
  clear hr ho hC hF hS X R zb
  go_wp2_with fail
  rw [← hb] at A ⊢
  clear hb
  refine (below_d B a len cap g _ A.out.R 8 (by omega) (by omega)).mono ?_
  rintro e wb ⟨k, ⟨n0, n1⟩, rfl, hr, ho⟩
  have A := hide (A.out.drawn hr ho)
  have hh0 : 0 < cs.length := hl1
  clear hr ho n1
  by_cases h0 : k = 0
  · subst h0
    obtain ⟨c0, f0, e0, f1, z0, z1, zn, zm⟩ := A.out.facts
    obtain ⟨gc, capc, hv⟩ : ∃ gc capc, Value.slice av cs.length capv = .slice (some ⟨gc, 0, none⟩) cs.length capc := by
      rcases A.out.C with ⟨_, hx, _⟩ | ⟨gc, capc, _, _, hv, _⟩
      · rw [hx] at hh0; simp at hh0
      · exact ⟨gc, capc, hv⟩
    obtain ⟨rfl, rfl⟩ : av = some ⟨gc, 0, none⟩ ∧ capv = capc := by simp only [Value.slice.injEq] at hv; exact ⟨hv.1, hv.2.2⟩
    clear hv
    have P := hide (pickS4 A.out.R ⟨#[]⟩ ⟨#[97, 49]⟩ ⟨#[97, 98, 99, 100, 101, 102, 103, 104, 105]⟩ ⟨#[97, 32, 98]⟩)
    have hi0 : (0 : Int) < (cs.length : Int) := by omega
    go_wp2_with fail
    go_region_with (first
      | (go_at_call 49; refine P.out.mono ?_; rintro e w5 ⟨nm, hnm, rfl, hr, ho⟩; have A5 := hide (A.out.drawn hr ho); obtain ⟨c5, f5, e5, f6, y0, y1, yn, ym⟩ := A5.out.facts; obtain ⟨m0, m1, m2, m3, m4, m5⟩ := col_name A5.out.C hh0; have HN5 := hide m5; have m6 := (A5.out.FL _ m3); have HNM := hide hnm; clear hr ho m5 hnm m3 m4))
    all_goals
      go_wp2_with fail
      have XV := hide (A5.out.X.others (Only.setCell (F := [gc]) (Only.refl _ w5) (by simp) (.string nm) (p := ⟨gc, 0, none⟩)) (fun y hy => .inr (by simp at hy; omega)) (by simp; omega))
      obtain ⟨q0, hpost⟩ := any_fin2 (cs := cs.set 0 (nm, cs[0].2)) XV.out hlt (A5.out.R.only (Only.setCell (F := [gc]) (Only.refl _ w5) (by simp) (.string nm) (p := ⟨gc, 0, none⟩)) (by simp; omega)) (by simp) (HN5.out nm) (fun y hy => (A5.out.FL y hy).1) (fun c hc => by
        rcases List.mem_or_eq_of_mem_set hc with hc | rfl
        · exact (A5.out.S c hc).d
        · exact ⟨names2 HNM.out, (A5.out.S _ (List.getElem_mem hh0)).d.2⟩) (by simp; omega)
      exact bodyPost_ret (v := .agg #[.slice (some ⟨gc, 0, none⟩) cs.length capv]) (by simp [results, Tryz.results28, go_sem, q0]) rfl hpost
  · by_cases h1 : k = 1
    · subst h1
      obtain ⟨c0, f0, e0, f1, z0, z1, zn, zm⟩ := A.out.facts
      obtain ⟨gc, capc, au, capu, Fj, hv, hgs, hgF, hgj, hjF, ccol, fcol, hoi, hpush⟩ := col_app A.out.C 0 hh0
      obtain ⟨rfl, rfl⟩ : av = some ⟨gc, 0, none⟩ ∧ capv = capc := by simp only [Value.slice.injEq] at hv; exact ⟨hv.1, hv.2.2⟩
      obtain ⟨nm0, l, hq⟩ : ∃ nm0 l, (nm0, l) = cs[0] := ⟨_, _, rfl⟩
      rw [← hq] at ccol hoi hpush
      simp only [Nat.zero_mul, Nat.zero_add] at ccol hoi hpush
      have hSm := (A.out.S _ (List.getElem_mem hh0))
      rw [← hq] at hSm
      have fq := fcol 1
      have hgb := hide (A.out.FL gc hgF)
      have hbj := hide (show b ∉ Fj from fun hh => by have := (A.out.FL _ (hjF _ hh)).2; omega)
      have hlw := hide (show ∀ y ∈ Fj, w.heap.size < y from fun y hy => (A.out.FL y (hjF y hy)).1)
      have P := hide (pick4D A.out.R 5 999 1000 (-1000))
      have hll : l.length ≤ 40 := hSm.2.1
      have HQ := hide hq
      have HS := hide hSm
      clear hv hgF hgj hjF fcol hoi hpush hq hSm hbj hlw
      have hi0 : (0 : Int) < (cs.length : Int) := by omega
      go_wp2_with fail
      refine Heads.region (S := fun w' => w'.cell? ⟨b, 0, none⟩ = some (.slice (some ⟨gc, 0, none⟩) cs.length capv) ∧ w'.cell? ⟨gc, 1, none⟩ = some (.slice au l.length capu) ∧ w'.frozen? ⟨gc, 1, none⟩ = false) (n := 14) (by kernel_rfl) rfl ⟨e0, ccol, fq⟩ (fun hS => ?_)
      refine Heads.take (i := 0) (v := (.pointer (some ⟨b, 0, none⟩))) rfl (by kernel_rfl) (by kernel_rfl) (by kernel_rfl) (by kernel_rfl) (by decide) (fun _ _ _ h => h) (by rfl) (by rintro w ⟨s1, s2, s3⟩; go_simp) hS ?_
      try simp only [Act.put, List.setIfInBounds_toArray, List.set_cons_zero, List.set_cons_succ]
      refine Heads.take (i := 1) (v := (.slice (some ⟨gc, 0, none⟩) cs.length capv)) rfl (by kernel_rfl) (by kernel_rfl) (by kernel_rfl) (by kernel_rfl) (by decide) (fun _ _ _ h => h) (by rfl) (by rintro w ⟨s1, s2, s3⟩; go_simp) hS ?_
      try simp only [Act.put, List.setIfInBounds_toArray, List.set_cons_zero, List.set_cons_succ]
      refine Heads.take (i := 2) (v := (.pointer (some ⟨b, 0, none⟩))) rfl (by kernel_rfl) (by kernel_rfl) (by kernel_rfl) (by kernel_rfl) (by decide) (fun _ _ _ h => h) (by rfl) (by rintro w ⟨s1, s2, s3⟩; go_simp) hS ?_
      try simp only [Act.put, List.setIfInBounds_toArray, List.set_cons_zero, List.set_cons_succ]
      refine Heads.take (i := 3) (v := (.slice (some ⟨gc, 0, none⟩) cs.length capv)) rfl (by kernel_rfl) (by kernel_rfl) (by kernel_rfl) (by kernel_rfl) (by decide) (fun _ _ _ h => h) (by rfl) (by rintro w ⟨s1, s2, s3⟩; go_simp) hS ?_
      try simp only [Act.put, List.setIfInBounds_toArray, List.set_cons_zero, List.set_cons_succ]
      refine Heads.take (i := 4) (v := (.pointer (some ⟨gc, 0, none⟩))) rfl (by kernel_rfl) (by kernel_rfl) (by kernel_rfl) (by kernel_rfl) (by decide) (fun _ _ _ h => h) (by rfl) (by rintro w ⟨s1, s2, s3⟩; go_simp) hS ?_
      try simp only [Act.put, List.setIfInBounds_toArray, List.set_cons_zero, List.set_cons_succ]
      refine Heads.take (i := 5) (v := (.pointer (some ⟨gc, 1, none⟩))) rfl (by kernel_rfl) (by kernel_rfl) (by kernel_rfl) (by kernel_rfl) (by decide) (fun _ _ _ h => h) (by rfl) (by rintro w ⟨s1, s2, s3⟩; go_simp) hS ?_
      try simp only [Act.put, List.setIfInBounds_toArray, List.set_cons_zero, List.set_cons_succ]
      refine Heads.take (i := 6) (v := (.slice au l.length capu)) rfl (by kernel_rfl) (by kernel_rfl) (by kernel_rfl) (by kernel_rfl) (by decide) (fun _ _ _ h => h) (by rfl) (by rintro w ⟨s1, s2, s3⟩; go_simp) hS ?_
      try simp only [Act.put, List.setIfInBounds_toArray, List.set_cons_zero, List.set_cons_succ]
      refine Heads.take (i := 7) (v := (.pointer (some ⟨g, 0, none⟩))) rfl (by kernel_rfl) (by kernel_rfl) (by kernel_rfl) (by kernel_rfl) (by decide) (fun _ _ _ h => h) (by rfl) (by rintro w ⟨s1, s2, s3⟩; go_simp) hS ?_
      try simp only [Act.put, List.setIfInBounds_toArray, List.set_cons_zero, List.set_cons_succ]
      refine Heads.one (i := 8) (by kernel_rfl) (by decide) rfl (fun K hK => ?_)
      go_simp
      have hb8 : Below wb.heap.size wb (wb.alloc (.cells #[.int .i64 5, .int .i64 999, .int .i64 1000, .int .i64 (-1000)] 3)).drew := ((Below.refl _ _).alloc (Nat.le_refl _) _).drew
      refine hK.out _ _ ⟨(hb8.cell (p := ⟨b, 0, none⟩) z1).trans e0, (hb8.cell (p := ⟨gc, 1, none⟩) hgs).trans ccol, (hb8.frozen (p := ⟨gc, 1, none⟩) hgs).trans fq⟩ ?_
      clear hK K hS hb8
      try simp only [Act.put, List.setIfInBounds_toArray, List.set_cons_zero, List.set_cons_succ]
      refine Heads.one (i := 9) (by kernel_rfl) (by decide) rfl (fun K hK => ?_)
      go_simp
      go_at_call 52
      refine P.out.mono ?_
      rintro e w5 ⟨x, hx, rfl, hr, ho⟩
      have A5 := hide (A.out.drawn hr ho)
      have hxx := hide (show -1000 ≤ x ∧ x ≤ 1000 by omega)
      obtain ⟨y0, y1, y2, y3, y4, y5, y6, y7⟩ := A5.out.facts
      obtain ⟨gc', capc', au', capu', Fj, hv, hgs5, hgF, hgj, hjF, ccol5, fcol5, hoi, hpush⟩ := col_app A5.out.C 0 hh0
      obtain ⟨rfl, rfl⟩ : gc = gc' ∧ capv = capc' := by simp only [Value.slice.injEq, Option.some.injEq, Addr.mk.injEq, and_true, true_and] at hv; exact hv
      rw [← HQ.out] at ccol5 hoi hpush
      simp only [Nat.zero_mul, Nat.zero_add] at ccol5 hoi hpush
      have c5 := (ho.cell (p := ⟨gc, 1, none⟩) hgs (by simp; have := hgb.out.1; omega)).trans ccol
      rw [ccol5] at c5
      obtain ⟨rfl, rfl⟩ : au' = au ∧ capu' = capu := by simp only [Option.some.injEq, Value.slice.injEq, true_and] at c5; exact c5
      have fq5 := fcol5 1
      have hbj := hide (show b ∉ Fj from fun hh => by have := (A5.out.FL _ (hjF _ hh)).2; omega)
      have hwj := hide (show ∀ y ∈ Fj, w.heap.size < y from fun y hy => (A5.out.FL y (hjF y hy)).1)
      have HPU := hide hpush
      have HOI := hide hoi
      have HGJ := hide hgj
      have HJF := hide hjF
      clear hx hr ho hv hgF hgj hjF fcol5 hoi hpush c5
      refine hK.out _ _ ⟨y2, ccol5, fq5⟩ ?_
      clear hK K
      try simp only [Act.put, List.setIfInBounds_toArray, List.set_cons_zero, List.set_cons_succ]
      have hb10 : Below w5.heap.size w5 (w5.alloc (.cells #[.int .i64 x] 3)) := below1 _ _
      have s10a := (hb10.cell (p := ⟨b, 0, none⟩) y5).trans y2
      have s10b := (hb10.cell (p := ⟨gc, 1, none⟩) hgs5).trans ccol5
      have s10c := (hb10.frozen (p := ⟨gc, 1, none⟩) hgs5).trans fq5
      have HO10 := hide (HOI.out.below hb10)
      have HH10 := hide (heap_alloc_new w5 (.cells #[.int .i64 x] 3))
      have HT10 := hide (show b < (w5.alloc (.cells #[.int .i64 x] 3)).heap.size from Nat.lt_of_lt_of_le y5 hb10.size)
      have HG10 := hide (show gc < (w5.alloc (.cells #[.int .i64 x] 3)).heap.size from Nat.lt_of_lt_of_le hgs5 hb10.size)
      have A10 := hide (show At B a len cap g b w (w5.alloc (.cells #[.int .i64 x] 3)) (some ⟨gc, 0, none⟩) capv cs F from ⟨A5.out.X.up hb10, slE.below colE_good A5.out.C hb10, A5.out.R.alloc _, A5.out.FL, A5.out.S, A5.out.l1, A5.out.l3, A5.out.lt, A5.out.wb⟩)
      have HB10 := hide hb10
      clear hb10
      refine Heads.one (i := 10) (by kernel_rfl) (by decide) rfl (fun K hK => ?_)
      go_simp
      refine hK.out _ _ ⟨s10a, s10b, s10c⟩ ?_
      clear hK K
      try simp only [Act.put, List.setIfInBounds_toArray, List.set_cons_zero, List.set_cons_succ]
      refine Heads.one (i := 11) (by kernel_rfl) (by decide) rfl (fun K hK => ?_)
      refine step_oi _ (by rfl) _ _ (by rfl) _ l Fj (by rfl) HO10.out x w5.heap.size _ (by rfl) HH10.out (by omega) ?_
      intro g' capx w9 ho9 hg9 hw9
      have b9 := (hw9.cell (p := ⟨b, 0, none⟩) HT10.out hbj.out).trans s10a
      have c9 := (hw9.cell (p := ⟨gc, 1, none⟩) HG10.out HGJ.out).trans s10b
      have f9 := (hw9.frozen (p := ⟨gc, 1, none⟩) HG10.out HGJ.out).trans s10c
      have X9 := hide (A10.out.X.others hw9 (fun y hy => .inr (by have := hwj.out y hy; omega)) (by simp; exact ⟨fun hh => by have := hwj.out _ hh; omega, hbj.out⟩))
      have R9 := hide (A10.out.R.only hw9 (fun y hy => by have := hwj.out y hy; omega))
      have HO9 := hide ho9
      have HG9 := hide hg9
      have HW9 := hide hw9
      have r9 := X9.out.cell 0 0 rfl rfl
      have q9 := X9.out.free 0 0 rfl
      have hgw := hgb.out.1
      have n9 : ¬ gc = w.heap.size := by omega
      have n8 : ¬ w.heap.size = gc := by omega
      have n7 : ¬ gc = b := by have := hgb.out.2; omega
      have n6 : ¬ b = gc := by have := hgb.out.2; omega
      clear ho9 hg9 hw9
      refine hK.out _ _ ⟨b9, c9, f9⟩ ?_
      clear hK K
      try simp only [Act.put, List.setIfInBounds_toArray, List.set_cons_zero, List.set_cons_succ]
      refine Heads.one (i := 12) (by kernel_rfl) (by decide) rfl (fun K hK => ?_)
      go_simp
      refine hK.out _ _ ⟨b9, c9, f9⟩ ?_
      clear hK K
      try simp only [Act.put, List.setIfInBounds_toArray, List.set_cons_zero, List.set_cons_succ]
      refine Heads.one (i := 13) (by kernel_rfl) (by decide) rfl (fun K hK => ?_)
      go_simp
      refine hK.out _ _ ⟨b9, c9, f9⟩ ?_
      clear hK K
      try simp only [Act.put, List.setIfInBounds_toArray, List.set_cons_zero, List.set_cons_succ]
      refine Heads.last (by kernel_rfl) rfl (by kernel_rfl) (fun K hK => ?_)
      go_simp
      refine hK.out _ _ ?_
      clear hK K
      go_wp2_with fail
      obtain ⟨F2, hC2, hF2⟩ := HPU.out w9 g' capx x HO9.out (HG9.out.imp id fun h => Nat.le_trans HB10.out.size h) ((Only.of_below HB10.out).trans HW9.out)
      have XV := hide (X9.out.others (Only.setCell (F := [gc]) (Only.refl _ w9) (by simp) (.slice (some ⟨g', 0, none⟩) (l.length + 1) capx) (p := ⟨gc, 1, none⟩)) (fun y hy => .inr (by simp at hy; omega)) (by simp; exact ⟨n8, n6⟩))
      obtain ⟨q0, hpost⟩ := any_fin2 (cs := cs.set 0 (nm0, l ++ [x])) XV.out hlt (R9.out.only (Only.setCell (F := [gc]) (Only.refl _ w9) (by simp) (.slice (some ⟨g', 0, none⟩) (l.length + 1) capx) (p := ⟨gc, 1, none⟩)) (by simp; omega)) (by simp) hC2 (fun y hy => by
        rcases hF2 y hy with h | h
        · exact (A5.out.FL y h).1
        · omega) (fun c hc => by
        rcases List.mem_or_eq_of_mem_set hc with hc | rfl
        · exact (A5.out.S c hc).d
        · refine ⟨HS.out.1, by simp; omega, fun y hy => ?_⟩
          rcases List.mem_append.1 hy with hy | hy
          · exact HS.out.2.2 y hy
          · simp at hy; subst hy; exact hxx.out) (by simp; omega)
      exact bodyPost_ret (v := .agg #[.slice (some ⟨gc, 0, none⟩) cs.length capv]) (by simp [results, Tryz.results28, go_sem, q0]) rfl hpost
    · by_cases h2 : k = 2
      · subst h2
        obtain ⟨c0, f0, e0, f1, z0, z1, zn, zm⟩ := A.out.facts
        obtain ⟨gc, capc, hv, hcp⟩ : ∃ gc capc, Value.slice av cs.length capv = .slice (some ⟨gc, 0, none⟩) cs.length capc ∧ cs.length ≤ capc := by
          rcases A.out.C with ⟨_, hx, _⟩ | ⟨gc, capc, _, _, hv, hown, _⟩
          · rw [hx] at hh0; simp at hh0
          · refine ⟨gc, capc, hv, ?_⟩
            rw [hv] at hown
            rcases hown.2 with ⟨h', _⟩ | ⟨g', cap', cur, h', _, _, hnc, _⟩
            · simp at h'
            · simp only [Value.slice.injEq, Option.some.injEq, Addr.mk.injEq, and_true, true_and] at h'
              omega
        obtain ⟨rfl, rfl⟩ : av = some ⟨gc, 0, none⟩ ∧ capv = capc := by simp only [Value.slice.injEq] at hv; exact ⟨hv.1, hv.2.2⟩
        clear hv
        have hi1 : (1 : Int) ≤ (cs.length : Int) := by omega
        have hi2 : (cs.length : Int) ≤ (capv : Int) := by omega
        by_cases hc1 : capv = 1
        · subst hc1
          go_wp2_with fail
          obtain ⟨q0, hpost⟩ := any_fin (n := 0) (cs := []) (A.out.X.set 1 0 rfl (.slice (some ⟨gc, 0, none⟩) 0 0)) hlt (A.out.R.only (Only.setCell (F := [b]) (Only.refl _ wb) (by simp) (.slice (some ⟨gc, 0, none⟩) 0 0) (p := ⟨b, 0, none⟩)) (by simp; have := A.out.wb; omega)) rfl (fun _ _ _ => Rt.nul gc 0) (by simp) (by simp)
          exact bodyPost_ret (v := .agg #[.slice (some ⟨gc, 0, none⟩) 0 0]) (by simp [results, Tryz.results28, go_sem, q0]) rfl hpost
        · go_wp2_with fail
          have hC2 := colsE_other (colsE_other A.out.C (b := b) (fun hh => by have := (A.out.FL _ hh).2; omega) 0 (.slice (some ⟨gc, 2, none⟩) (cs.length - 1) (capv - 1))) (b := w.heap.size) (fun hh => by have := (A.out.FL _ hh).1; omega) 0 (.slice (some ⟨gc, 2, none⟩) (cs.length - 1) (capv - 1))
          obtain ⟨q0, hpost⟩ := any_fin (cs := cs.drop 1) (A.out.X.set 1 0 rfl (.slice (some ⟨gc, 2, none⟩) (cs.length - 1) (capv - 1))) hlt (A.out.R.only (Only.setCell (F := [b]) (Only.refl _ wb) (by simp) (.slice (some ⟨gc, 2, none⟩) (cs.length - 1) (capv - 1)) (p := ⟨b, 0, none⟩)) (by simp; have := A.out.wb; omega)) (by simp) (fun w'' k1 k2 => (rtl_of (lo := w.heap.size) hC2 (fun c hc => (A.out.S c hc).d) (fun y hy => Nat.le_of_lt (A.out.FL y hy).1) w'' k1 k2).tail rfl) (fun c hc => (A.out.S c (List.mem_of_mem_drop hc)).d) (by simp; omega)
          exact bodyPost_ret (v := .agg #[.slice (some ⟨gc, 2, none⟩) (cs.length - 1) (capv - 1)]) (by simp [results, Tryz.results28, go_sem, q0]) rfl hpost
      · obtain ⟨c0, f0, e0, f1, z0, z1, zn, zm⟩ := A.out.facts
        go_wp2_with fail
        obtain ⟨q0, hpost⟩ := any_fin2 A.out.X hlt A.out.R rfl A.out.C (fun y hy => (A.out.FL y hy).1) (fun c hc => (A.out.S c hc).d) hl3
        exact bodyPost_ret (v := .agg #[.slice av cs.length capv]) (by simp [results, Tryz.results28, go_sem, q0]) rfl hpost

end Go.Proofs.YtgeegbbcjdlkbaaGreatDoor

/- What the drawn arguments of FnTexts are: tables and ranges that are small, in new memory. -/
namespace Go.Proofs.YtgeegbbcjdlkbaaGreatDoor
open Go.RowKit Go.ChangeShapes
set_option linter.unusedSimpArgs false
set_option linter.unusedVariables false
set_option maxRecDepth 100000

/-- Small bounds of a range. -/
def SmR (f t : Int) : Prop := -3000 ≤ f ∧ f ≤ 3000 ∧ -3000 ≤ t ∧ t ≤ 3000

def DrTb (w : World) (e : Ending) (w' : World) : Prop :=
  ∃ (a1 : Option Addr) (cap1 : Nat) (cs : List Col), e = .returned (.agg #[.slice a1 cs.length cap1]) ∧ Rt w' (.slice a1 cs.length cap1) cs ∧ (∀ c ∈ cs, SmD c) ∧ cs.length ≤ 3 ∧ Below w.heap.size w w'
def DrTs (w : World) (e : Ending) (w' : World) : Prop :=
  ∃ (a1 : Option Addr) (cap1 : Nat) (cs : List Col) (nm : ByteArray), e = .returned (.tuple #[.agg #[.slice a1 cs.length cap1], .string nm]) ∧ Rt w' (.slice a1 cs.length cap1) cs ∧ (∀ c ∈ cs, SmD c) ∧ cs.length ≤ 3 ∧ nm.size ≤ 16 ∧ Below w.heap.size w w'
def DrRg (w : World) (e : Ending) (w' : World) : Prop := ∃ f t : Int, SmR f t ∧ e = .returned (.agg #[.int .i64 f, .int .i64 t]) ∧ Below w.heap.size w w'
def DrRr (w : World) (e : Ending) (w' : World) : Prop := ∃ f t f' t' : Int, SmR f t ∧ SmR f' t' ∧ e = .returned (.tuple #[.agg #[.int .i64 f, .int .i64 t], .agg #[.int .i64 f', .int .i64 t']]) ∧ Below w.heap.size w w'
def DrRi (w : World) (e : Ending) (w' : World) : Prop := ∃ f t n : Int, SmR f t ∧ (-4000 ≤ n ∧ n ≤ 4000) ∧ e = .returned (.tuple #[.agg #[.int .i64 f, .int .i64 t], .int .i64 n]) ∧ Below w.heap.size w w'

theorem Kd.toBelow {w W : World} {L : List (Nat × Array Value × TypeId)} (h : Kd [] w W L) : Below w.heap.size w W := h.only.toBelow (by simp) (Nat.le_refl _)

/-- A draw whose reader is the call's own. -/
theorem Kd.drawn0 {w W W' : World} {L : List (Nat × Array Value × TypeId)} {g : Nat} (h : Kd [] w W L) (ho : Only [g] W W') (hg : w.heap.size ≤ g) (hL : ∀ e ∈ L, e.1 ≠ g) : Kd [] w W' L :=
  h.others ho (fun b hb => .inr (by simp at hb; omega)) (fun e he => by simp; exact hL e he)

set_option maxHeartbeats 2000000 in
theorem drFmtR_any (a : Option Addr) (len cap : Nat) (w : World) (hcode : CodeAt w a len cap) (hlen : len ≤ 1048576) : Calls Tryz.prog 8 #[.slice a len cap] w (DrRg w) := by
  have X := hide (Kd.one [] w #[.int .i64 0, .int .i64 0] 32)
  obtain ⟨w1, hw1⟩ : ∃ w1, w1 = w.alloc (.cells #[.int .i64 0, .int .i64 0] 32) := ⟨_, rfl⟩
  rw [← hw1] at X
  have H := hide (hcode.below X.out.toBelow (Nat.le_refl _))
  have hz := hide (X.out.lt 0 rfl)
  clear hcode
  go_enter Tryz.func8, Tryz.ntmps8
  go_wp2_with fail
  rw [← hw1]
  clear hw1
  refine (new_any a len cap _ H.out hlen).mono ?_
  rintro e wa ⟨g, rfl, hr, hb⟩
  have R := hide hr
  have X := hide (X.out.up hb)
  have hg := hide (show w.heap.size < g by have := hr.high; have := hz.out; omega)
  clear hr hb
  go_wp2_with fail
  refine (any_d _ a len cap g _ R.out).mono ?_
  rintro e wb ⟨f, t, hft, rfl, hr, ho⟩
  have X := hide (X.out.drawn0 ho (Nat.le_of_lt hg.out) (by simp; have := hg.out; omega))
  have c0 := X.out.cell 0 0 rfl rfl
  have c1 := X.out.cell 0 1 rfl rfl
  have f0 := X.out.free 0 0 rfl
  have f1 := X.out.free 0 1 rfl
  have HF := hide hft
  clear hr ho hft
  go_wp2_with fail
  have Y := (X.out.set 0 0 rfl (.int .i64 f)).set 0 1 rfl (.int .i64 t)
  have q0 := Y.cell 0 0 rfl rfl
  have q1 := Y.cell 0 1 rfl rfl
  exact bodyPost_ret (v := .agg #[.int .i64 f, .int .i64 t]) (by simp [results, Tryz.results8, go_sem, q0, q1]) rfl ⟨f, t, HF.out, rfl, Y.toBelow⟩

set_option maxHeartbeats 2000000 in
theorem drFmtT_any (a : Option Addr) (len cap : Nat) (w : World) (hcode : CodeAt w a len cap) (hlen : len ≤ 1048576) : Calls Tryz.prog 5 #[.slice a len cap] w (DrTb w) := by
  have X := hide (Kd.one [] w #[.slice none 0 0] 26)
  obtain ⟨w1, hw1⟩ : ∃ w1, w1 = w.alloc (.cells #[.slice none 0 0] 26) := ⟨_, rfl⟩
  rw [← hw1] at X
  have H := hide (hcode.below X.out.toBelow (Nat.le_refl _))
  have hz := hide (X.out.lt 0 rfl)
  clear hcode
  go_enter Tryz.func5, Tryz.ntmps5
  go_wp2_with fail
  rw [← hw1]
  clear hw1
  refine (new_any a len cap _ H.out hlen).mono ?_
  rintro e wa ⟨g, rfl, hr, hb⟩
  have R := hide hr
  have X := hide (X.out.up hb)
  have hg := hide (show w.heap.size < g by have := hr.high; have := hz.out; omega)
  have hza := hide (X.out.lt 0 rfl)
  clear hr hb
  go_wp2_with fail
  refine (anyT_d _ a len cap g _ R.out).mono ?_
  rintro e wb ⟨a1, cap1, cs, rfl, hT, hS, hl, hr, ho⟩
  have X := hide (X.out.drawn0 ho (Nat.le_of_lt hg.out) (by simp; have := hg.out; omega))
  have c0 := X.out.cell 0 0 rfl rfl
  have f0 := X.out.free 0 0 rfl
  have HT := hide (hT.only (Only.setCell (F := [w.heap.size]) (Only.refl _ wb) (by simp) (.slice a1 cs.length cap1) (p := ⟨w.heap.size, 0, none⟩)) (by simp; exact hza.out)).rt
  have HS := hide hS
  clear hr ho hT hS
  go_wp2_with fail
  have Y := X.out.set 0 0 rfl (.slice a1 cs.length cap1)
  have q0 := Y.cell 0 0 rfl rfl
  exact bodyPost_ret (v := .agg #[.slice a1 cs.length cap1]) (by simp [results, Tryz.results5, go_sem, q0]) rfl ⟨a1, cap1, cs, rfl, HT.out, HS.out, hl, Y.toBelow⟩

set_option maxHeartbeats 4000000 in
theorem drMeet_any (a : Option Addr) (len cap : Nat) (w : World) (hcode : CodeAt w a len cap) (hlen : len ≤ 1048576) : Calls Tryz.prog 14 #[.slice a len cap] w (DrRr w) := by
  have X := hide (show Kd [] w _ [(w.heap.size, #[.int .i64 0, .int .i64 0], 32), (w.heap.size + 1, #[.int .i64 0, .int .i64 0], 32)] from by
    have := (Kd.one [] w #[.int .i64 0, .int .i64 0] 32).alloc #[.int .i64 0, .int .i64 0] 32
    simpa using this)
  obtain ⟨w1, hw1⟩ : ∃ w1, w1 = (w.alloc (.cells #[.int .i64 0, .int .i64 0] 32)).alloc (.cells #[.int .i64 0, .int .i64 0] 32) := ⟨_, rfl⟩
  rw [← hw1] at X
  have H := hide (hcode.below X.out.toBelow (Nat.le_refl _))
  have hz := hide (X.out.lt 1 rfl)
  clear hcode
  go_enter Tryz.func14, Tryz.ntmps14
  go_wp2_with fail
  rw [← hw1]
  clear hw1
  go_wp2_with fail
  refine (new_any a len cap _ H.out hlen).mono ?_
  rintro e wa ⟨g, rfl, hr, hb⟩
  have R := hide hr
  have X := hide (X.out.up hb)
  have hg := hide (show w.heap.size + 1 < g by have := hr.high; have := hz.out; omega)
  clear hr hb
  go_wp2_with fail
  refine (any_d _ a len cap g _ R.out).mono ?_
  rintro e wb ⟨f, t, hft, rfl, hr, ho⟩
  have X := hide (X.out.drawn0 ho (by have := hg.out; omega) (by simp; have := hg.out; omega))
  have R := hide (hr.alloc (.cells #[.int .i64 f, .int .i64 t] 32))
  have hgb := hide (show g < wb.heap.size by exact hr.lt)
  have X := hide (show Kd [] w _ [(w.heap.size, #[.int .i64 0, .int .i64 0], 32), (w.heap.size + 1, #[.int .i64 0, .int .i64 0], 32), (wb.heap.size, #[.int .i64 f, .int .i64 t], 32)] from X.out.alloc #[.int .i64 f, .int .i64 t] 32)
  obtain ⟨b, hbb⟩ : ∃ b, b = wb.heap.size := ⟨_, rfl⟩
  obtain ⟨wc, hwc⟩ : ∃ wc, wc = wb.alloc (.cells #[.int .i64 f, .int .i64 t] 32) := ⟨_, rfl⟩
  have HFT := hide hft
  clear hr ho hft
  go_wp2_with fail
  rw [← hbb] at X hgb ⊢
  rw [← hwc] at X R ⊢
  clear hbb hwc
  have e0 := X.out.cell 2 0 rfl rfl
  have e1 := X.out.cell 2 1 rfl rfl
  have a0 := X.out.cell 0 0 rfl rfl
  have a1 := X.out.cell 0 1 rfl rfl
  have b0 := X.out.free 0 0 rfl
  have b1 := X.out.free 0 1 rfl
  have hgg := hide (show ∀ e ∈ [(w.heap.size, #[Value.int .i64 0, .int .i64 0], 32), (w.heap.size + 1, #[Value.int .i64 0, .int .i64 0], 32), (b, #[Value.int .i64 f, .int .i64 t], 32)], e.1 ≠ g from by simp; have := hg.out; have := hgb.out; omega)
  have hgw := hide (show w.heap.size ≤ g by have := hg.out; omega)
  go_region_with (first
    | (go_at_call 39; refine (any_d _ a len cap g _ R.out.drew).mono ?_; rintro e w5 ⟨f', t', hft', rfl, hr, ho⟩; have X := hide (X.out.drew.drawn0 ho hgw.out hgg.out); have HFT' := hide hft'; have e0 := X.out.cell 2 0 rfl rfl; have e1 := X.out.cell 2 1 rfl rfl; have a0 := X.out.cell 0 0 rfl rfl; have a1 := X.out.cell 0 1 rfl rfl; have b0 := X.out.free 0 0 rfl; have b1 := X.out.free 0 1 rfl; have c0 := X.out.cell 1 0 rfl rfl; have c1 := X.out.cell 1 1 rfl rfl; have d0 := X.out.free 1 0 rfl; have d1 := X.out.free 1 1 rfl; clear hr ho hft'))
  all_goals
    go_wp2_with fail
    have Y := (((X.out.set 0 0 rfl (.int .i64 f)).set 0 1 rfl (.int .i64 t)).set 1 0 rfl (.int .i64 f')).set 1 1 rfl (.int .i64 t')
    have q0 := Y.cell 0 0 rfl rfl
    have q1 := Y.cell 0 1 rfl rfl
    have q2 := Y.cell 1 0 rfl rfl
    have q3 := Y.cell 1 1 rfl rfl
    exact bodyPost_ret (v := .tuple #[.agg #[.int .i64 f, .int .i64 t], .agg #[.int .i64 f', .int .i64 t']]) (by simp [results, Tryz.results14, go_sem, q0, q1, q2, q3]) rfl ⟨f, t, f', t', HFT.out, HFT'.out, rfl, Y.toBelow⟩

set_option maxHeartbeats 4000000 in
theorem drIn_any (a : Option Addr) (len cap : Nat) (w : World) (hcode : CodeAt w a len cap) (hlen : len ≤ 1048576) : Calls Tryz.prog 16 #[.slice a len cap] w (DrRi w) := by
  have X := hide (Kd.one [] w #[.int .i64 0, .int .i64 0] 32)
  obtain ⟨w1, hw1⟩ : ∃ w1, w1 = w.alloc (.cells #[.int .i64 0, .int .i64 0] 32) := ⟨_, rfl⟩
  rw [← hw1] at X
  have H := hide (hcode.below X.out.toBelow (Nat.le_refl _))
  have hz := hide (X.out.lt 0 rfl)
  clear hcode
  go_enter Tryz.func16, Tryz.ntmps16
  go_wp2_with fail
  rw [← hw1]
  clear hw1
  go_wp2_with fail
  refine (new_any a len cap _ H.out hlen).mono ?_
  rintro e wa ⟨g, rfl, hr, hb⟩
  have R := hide hr
  have X := hide (X.out.up hb)
  have hg := hide (show w.heap.size < g by have := hr.high; have := hz.out; omega)
  have hza := hide (X.out.lt 0 rfl)
  clear hr hb
  go_wp2_with fail
  refine (any_d _ a len cap g _ R.out).mono ?_
  rintro e wb ⟨f, t, hft, rfl, hr, ho⟩
  have X := hide (X.out.drawn0 ho (by have := hg.out; omega) (by simp; have := hg.out; omega))
  have R := hide (hr.alloc (.cells #[.int .i64 f, .int .i64 t] 32))
  have hgb := hide (show g < wb.heap.size by exact hr.lt)
  have X := hide (show Kd [] w _ [(w.heap.size, #[.int .i64 0, .int .i64 0], 32), (wb.heap.size, #[.int .i64 f, .int .i64 t], 32)] from X.out.alloc #[.int .i64 f, .int .i64 t] 32)
  obtain ⟨b, hbb⟩ : ∃ b, b = wb.heap.size := ⟨_, rfl⟩
  obtain ⟨wc, hwc⟩ : ∃ wc, wc = wb.alloc (.cells #[.int .i64 f, .int .i64 t] 32) := ⟨_, rfl⟩
  have HFT := hide hft
  obtain ⟨k1, k2, k3, k4⟩ := hft
  clear hr ho
  go_wp2_with fail
  rw [← hbb] at X hgb ⊢
  rw [← hwc] at X R ⊢
  clear hbb hwc
  have e0 := X.out.cell 1 0 rfl rfl
  have e1 := X.out.cell 1 1 rfl rfl
  have hgg := hide (show ∀ e ∈ [(w.heap.size, #[Value.int .i64 0, .int .i64 0], 32), (b, #[Value.int .i64 f, .int .i64 t], 32)], e.1 ≠ g from by simp; have := hg.out; have := hgb.out; omega)
  have hgw := hide (show w.heap.size ≤ g by have := hg.out; omega)
  have zn : ¬ b = w.heap.size := by have := hg.out; have := hgb.out; omega
  have zm : ¬ w.heap.size = b := by omega
  have a0 := X.out.cell 0 0 rfl rfl
  have b0 := X.out.free 0 0 rfl
  have a1 := X.out.cell 0 1 rfl rfl
  have b1 := X.out.free 0 1 rfl
  have a1' := X.out.lt 0 rfl
  go_region_with (first
    | (go_at_call 48; refine (below_d _ a len cap g _ R.out.drew 20 (by omega) (by omega)).mono ?_; rintro e w5 ⟨x, ⟨x0, x1⟩, rfl, hr, ho⟩; have X := hide (X.out.drew.drawn0 ho hgw.out hgg.out); have e0 := X.out.cell 1 0 rfl rfl; have e1 := X.out.cell 1 1 rfl rfl; have a0 := X.out.cell 0 0 rfl rfl; have a1 := X.out.cell 0 1 rfl rfl; have b0 := X.out.free 0 0 rfl; have b1 := X.out.free 0 1 rfl; have u1 : IntKind.i64.wrap (f + x) = f + x := IntWalk.i64_in _ (by omega); have u2 : IntKind.i64.wrap (f + x - 5) = f + x - 5 := IntWalk.i64_in _ (by omega); clear hr ho))
  all_goals
    go_wp2_with fail
    have Y := (X.out.set 0 0 rfl (.int .i64 f)).set 0 1 rfl (.int .i64 t)
    have q0 := Y.cell 0 0 rfl rfl
    have q1 := Y.cell 0 1 rfl rfl
    exact bodyPost_ret (v := .tuple #[.agg #[.int .i64 f, .int .i64 t], .int .i64 (f + x - 5)]) (by simp [results, Tryz.results16, go_sem, q0, q1]) rfl ⟨f, t, f + x - 5, HFT.out, by omega, rfl, Y.toBelow⟩

theorem pickS5 {B : Nat} {a : Option Addr} {len cap g : Nat} {w : World} (R : Rd B a len cap w g) (p q r s v : ByteArray) :
    Calls Tryz.prog 49 #[.pointer (some ⟨g, 0, none⟩), .slice (some ⟨w.heap.size, 0, none⟩) 5 5] (w.alloc (.cells #[.string p, .string q, .string r, .string s, .string v] 9)).drew (RetDS B a len cap g w [p, q, r, s, v]) := by
  refine (pickS_d B a len cap g _ (R.alloc _).drew [p, q, r, s, v] w.heap.size 5 5 rfl (by omega) (by omega) (by have := R.lt; omega) (by simp) (fun j hj => litsS w [p, q, r, s, v] 9 j hj)).mono ?_
  rintro e w' ⟨x, hx, he, hr, ho⟩
  exact ⟨x, hx, he, hr, (Only.of_below (((Below.refl _ _).alloc (Nat.le_refl _) _).drew)).trans ho⟩

theorem names5 {x : ByteArray} (h : x ∈ [(⟨#[97]⟩ : ByteArray), ⟨#[98]⟩, ⟨#[99]⟩, ⟨#[112, 114, 105, 99, 101]⟩, ⟨#[]⟩]) : x.size ≤ 16 := by
  simp only [List.mem_cons, List.not_mem_nil, or_false] at h
  rcases h with rfl | rfl | rfl | rfl | rfl <;> decide

set_option maxHeartbeats 4000000 in
theorem drCol_any (a : Option Addr) (len cap : Nat) (w : World) (hcode : CodeAt w a len cap) (hlen : len ≤ 1048576) : Calls Tryz.prog 19 #[.slice a len cap] w (DrTs w) := by
  have X := hide (Kd.one [] w #[.slice none 0 0] 26)
  obtain ⟨w1, hw1⟩ : ∃ w1, w1 = w.alloc (.cells #[.slice none 0 0] 26) := ⟨_, rfl⟩
  rw [← hw1] at X
  have H := hide (hcode.below X.out.toBelow (Nat.le_refl _))
  have hz := hide (X.out.lt 0 rfl)
  clear hcode
  go_enter Tryz.func19, Tryz.ntmps19
  go_wp2_with fail
  rw [← hw1]
  clear hw1
  go_wp2_with fail
  refine (new_any a len cap _ H.out hlen).mono ?_
  rintro e wa ⟨g, rfl, hr, hb⟩
  have R := hide hr
  have X := hide (X.out.up hb)
  have hg := hide (show w.heap.size < g by have := hr.high; have := hz.out; omega)
  have hza := hide (X.out.lt 0 rfl)
  have hga := hide hr.lt
  clear hr hb
  go_wp2_with fail
  refine (anyT_d _ a len cap g _ R.out).mono ?_
  rintro e wb ⟨a1, cap1, cs, rfl, hT, hS, hl, hr, ho⟩
  have X := hide (X.out.drawn0 ho (by have := hg.out; omega) (by simp; have := hg.out; omega))
  have hb1 := below1 wb (.cells #[.slice a1 cs.length cap1] 26)
  have R := hide (hr.alloc (.cells #[.slice a1 cs.length cap1] 26))
  have T := hide (hT.below hb1)
  have hgb := hide (show g < wb.heap.size by exact hr.lt)
  have X := hide (show Kd [] w _ [(w.heap.size, #[.slice none 0 0], 26), (wb.heap.size, #[.slice a1 cs.length cap1], 26)] from X.out.alloc #[.slice a1 cs.length cap1] 26)
  obtain ⟨b, hbb⟩ : ∃ b, b = wb.heap.size := ⟨_, rfl⟩
  obtain ⟨wc, hwc⟩ : ∃ wc, wc = wb.alloc (.cells #[.slice a1 cs.length cap1] 26) := ⟨_, rfl⟩
  have HS := hide hS
  clear hr ho hT hS hb1
  go_wp2_with fail
  rw [← hbb] at X hgb ⊢
  rw [← hwc] at X R T ⊢
  clear hbb hwc
  have e0 := X.out.cell 1 0 rfl rfl
  have z1 := X.out.lt 1 rfl
  have P := hide (pickS5 R.out ⟨#[97]⟩ ⟨#[98]⟩ ⟨#[99]⟩ ⟨#[112, 114, 105, 99, 101]⟩ ⟨#[]⟩)
  have hgg := hide (show ∀ e ∈ [(w.heap.size, #[Value.slice none 0 0], 26), (b, #[.slice a1 cs.length cap1], 26)], e.1 ≠ g from by simp; have := hg.out; have := hgb.out; omega)
  have hgw := hide (show w.heap.size ≤ g by have := hg.out; omega)
  have zn : ¬ b = w.heap.size := by have := hg.out; have := hgb.out; omega
  have zm : ¬ w.heap.size = b := by omega
  have a0 := X.out.cell 0 0 rfl rfl
  have b0 := X.out.free 0 0 rfl
  have a1' := X.out.lt 0 rfl
  go_region_with (first
    | (go_at_call 49; refine P.out.mono ?_; rintro e w5 ⟨nm, hnm, rfl, hr, ho⟩; have X := hide (X.out.drawn0 ho hgw.out hgg.out); have T5 := hide (T.out.only ho (by simp; exact hga.out)); have HN := hide (names5 hnm); have e0 := X.out.cell 1 0 rfl rfl; have a0 := X.out.cell 0 0 rfl rfl; have b0 := X.out.free 0 0 rfl; clear hr ho hnm))
  all_goals
    go_wp2_with fail
    have Y := X.out.set 0 0 rfl (.slice a1 cs.length cap1)
    have q0 := Y.cell 0 0 rfl rfl
    have T6 := (T5.out.only (Only.setCell (F := [w.heap.size]) (Only.refl _ w5) (by simp) (.slice a1 cs.length cap1) (p := ⟨w.heap.size, 0, none⟩)) (by simp; exact hza.out)).rt
    exact bodyPost_ret (v := .tuple #[.agg #[.slice a1 cs.length cap1], .string nm]) (by simp [results, Tryz.results19, go_sem, q0]) rfl ⟨a1, cap1, cs, nm, rfl, T6, HS.out, hl, HN.out, Y.toBelow⟩

end Go.Proofs.YtgeegbbcjdlkbaaGreatDoor

/- What FnTexts asks, as plain facts; sameInts; the contracts in the form that its walk wants. -/
namespace Go.Proofs.YtgeegbbcjdlkbaaGreatDoor
open Go.RowKit Go.ChangeShapes
set_option linter.unusedSimpArgs false
set_option linter.unusedVariables false
set_option maxRecDepth 100000

theorem bigN (a : Option Addr) (len cap : Nat) (w : World) (h : len ≤ 1048576) : Calls Tryz.prog 4 #[.slice a len cap] w fun e w' => e = .returned (.bool false) ∧ w = w' := by
  have h2 : decide ((len : Int) > 1048576) = false := by simp; omega
  go_enter Tryz.func4, Tryz.ntmps4
  go_wp2
  go_ret
  exact ⟨rfl, rfl⟩

theorem bigY (a : Option Addr) (len cap : Nat) (w : World) (h : 1048576 < len) : Calls Tryz.prog 4 #[.slice a len cap] w fun e w' => e = .returned (.bool true) ∧ w = w' := by
  have h2 : decide ((len : Int) > 1048576) = true := by simp; omega
  go_enter Tryz.func4, Tryz.ntmps4
  go_wp2
  go_ret
  exact ⟨rfl, rfl⟩

set_option maxHeartbeats 1000000 in
theorem sameInts_same (v u : Value) (l : List Int) (w : World) (B : Nat) (hv : Ints w B v l) (hu : Ints w B u l) :
    Calls Tryz.prog 23 #[v, u] w (RetB1 w true) := by
  obtain ⟨a, cap, rfl, hlen, hwf, hcell⟩ := hv
  obtain ⟨c, cap2, rfl, hlen2, hwf2, hcell2⟩ := hu
  have HC := hide hcell
  have HC2 := hide hcell2
  clear hcell hcell2 hwf hwf2
  have hd : ((l.length : Int) != (l.length : Int)) = false := by simp
  go_enter Tryz.func23, Tryz.ntmps23
  go_wp2
  go_loopw [5] (fun i wr => ∃ (k q : Nat), k ≤ l.length ∧ i = .int .i64 k ∧ wr = w.drewN q) (fun i _ => l.length - (intOf i).toNat)
  case atStart => exact ⟨0, 0, by omega, rfl, rfl⟩
  case round =>
    obtain ⟨k, q, hk, rfl, rfl⟩ := hrel
    by_cases hlt : k < l.length
    · obtain ⟨b, o, rfl, hbB, hc⟩ := HC.out k hlt
      obtain ⟨b2, o2, rfl, hbB2, hc2⟩ := HC2.out k hlt
      obtain ⟨x, hx⟩ : ∃ x, x = l[k] := ⟨_, rfl⟩
      rw [← hx] at hc hc2
      have ht : (x != x) = false := by simp
      clear hx
      go_wp2
      go_quiet (fail)
      go_wp2
      go_roundw
      case rel => exact ⟨k + 1, q + nq, by omega, by go_num, rfl⟩
      case measure => simp [intOf]; omega
    · have hke : k = l.length := by omega
      subst hke
      go_wp2
      go_ret
      exact ⟨rfl, below_drewN (Below.refl _ _) _⟩

theorem implP_fmt (cs : List Col) : implP (fmtTab cs) = if isT cs = true then some cs else none := by
  by_cases h : isT cs = true
  · rw [if_pos h]; exact impl_back h
  · rw [if_neg h]
    unfold fmtTab
    rw [if_neg h]
    unfold implP
    rw [if_neg]
    intro hh
    have : (Lib.cut ([] : List UInt8) [10]).2.2 = false := by
      unfold Lib.cut
      rw [if_neg (by decide)]
    rw [this] at hh
    exact absurd hh.1 (by decide)

theorem fmtTab_small (cs : List Col) : (fmtTab cs).length ≤ 1048576 := by
  unfold fmtTab
  split
  · rename_i h
    have h1 := preT_len h (rowsN cs + 1)
    have h2 := (isT_rows h).1
    omega
  · simp

theorem parR_fmt (f t : Int) : parR (fmtR f t) = if isR f t = true then (f, t, true) else (0, 0, false) := by
  by_cases h : isR f t = true
  · rw [if_pos h]
    obtain ⟨l1, l2, l3, l4⟩ := isR_true h
    have e : fmtR f t = Lib.itoa f ++ [46, 46] ++ Lib.itoa t := if_pos h
    have hi := dots_index (b := Lib.itoa t) (itoa_kind f)
    rw [← e] at hi
    have p1 := par_back f
    have p2 := par_back t
    rw [if_pos (by omega)] at p1 p2
    have t1 : (fmtR f t).take (Lib.itoa f).length = Lib.itoa f := by rw [e, List.append_assoc, List.take_left]
    have t2 : (fmtR f t).drop ((Lib.itoa f).length + 2) = Lib.itoa t := by rw [e]; exact List.drop_left' (by simp)
    have n1 : numP (Lib.itoa f) = f := by unfold numP; rw [p1]; rfl
    have n2 : numP (Lib.itoa t) = t := by unfold numP; rw [p2]; rfl
    rw [parR_at hi, t1, t2, n1, n2, if_pos rfl]
  · rw [if_neg h]
    have e : fmtR f t = [] := if_neg h
    rw [e]
    exact parR_none (by decide)

theorem meet_in {a b c d : Int} (v : Int) (h : isR a b = true) (k : isR c d = true) : inR (meF a b c d) (meT a b c d) v = (inR a b v && inR c d v) := by
  obtain ⟨e1, e2⟩ := meet_yes h k rfl rfl
  rw [e1, e2]
  have h1 := isR_true h
  have k1 := isR_true k
  have hr : isR (max a c) (max (max a c) (min b d)) = true := isR_yes (by omega)
  unfold inR
  rw [hr, h, k, Bool.eq_iff_iff]
  simp
  omega

theorem fmtR_len {f t : Int} : (fmtR f t).length ≤ 1048576 := by
  unfold fmtR
  split
  · rename_i h
    obtain ⟨l1, l2, l3, l4⟩ := isR_true h
    have h1 := itoa_len f (by omega) (by omega)
    have h2 := itoa_len t (by omega) (by omega)
    simp
    omega
  · simp

/-- ParseTable of a table's own text. -/
def RetPT (w : World) (cs : List Col) (b : Bool) (e : Ending) (w' : World) : Prop :=
  ∃ (a5 : Option Addr) (cap5 : Nat) (cs5 : List Col), e = .returned (.tuple #[.agg #[.slice a5 cs5.length cap5], .bool b]) ∧ (b = true → cs5 = cs) ∧ Tbl w' w'.heap.size (.agg #[.slice a5 cs5.length cap5]) cs5 ∧ Below w.heap.size w w'

theorem parse_own (cs : List Col) (hs : ∀ c ∈ cs, SmD c) (w : World) (hT : Tab w) (hM : ML w) : Calls Tryz.prog 7 #[.string ⟨(fmtTab cs).toArray⟩] w (RetPT w cs (isT cs)) := by
  have hl := fmtTab_small cs
  refine (iParse_any ⟨(fmtTab cs).toArray⟩ w (by simpa [ByteArray.size] using hl) hT hM).mono ?_
  rintro e w' ⟨hb, h⟩
  rw [show (ByteArray.mk (fmtTab cs).toArray).data.toList = fmtTab cs by simp, implP_fmt] at h
  cases hi : isT cs
  · rw [hi, if_neg (by decide)] at h
    subst h
    exact ⟨none, 0, [], rfl, by simp, ⟨_, rfl, none, 0, rfl, by simp, fun j hj => by simp at hj⟩, hb⟩
  · rw [hi, if_pos rfl] at h
    obtain ⟨a, cap, F, rfl, hc, hF⟩ := h
    exact ⟨a, cap, cs, rfl, fun _ => rfl, ⟨_, rfl, colsE_cols hc (Nat.le_refl _) (fun c hc => ⟨by have := (hs c hc).1; omega, fun x hx => by have := (hs c hc).2.2 x hx; exact ⟨by omega, by omega⟩⟩)⟩, hb⟩

def RetPR (w : World) (f t : Int) (b : Bool) (e : Ending) (w' : World) : Prop :=
  ∃ x y : Int, e = .returned (.tuple #[.agg #[.int .i64 x, .int .i64 y], .bool b]) ∧ (b = true → x = f ∧ y = t) ∧ Below w.heap.size w w'

theorem parseR_own (f t : Int) (w : World) (hT : Tab w) (hM : ML w) : Calls Tryz.prog 9 #[.string ⟨(fmtR f t).toArray⟩] w (RetPR w f t (isR f t)) := by
  refine (iParR_any ⟨(fmtR f t).toArray⟩ w (by simpa [ByteArray.size] using fmtR_len) hT hM).mono ?_
  rintro e w' ⟨h, hb⟩
  rw [show (ByteArray.mk (fmtR f t).toArray).data.toList = fmtR f t by simp, parR_fmt] at h
  cases hi : isR f t
  · rw [hi, if_neg (by decide)] at h
    subst h
    exact ⟨0, 0, rfl, by simp, hb⟩
  · rw [hi, if_pos rfl] at h
    subst h
    exact ⟨f, t, rfl, fun _ => ⟨rfl, rfl⟩, hb⟩

end Go.Proofs.YtgeegbbcjdlkbaaGreatDoor
