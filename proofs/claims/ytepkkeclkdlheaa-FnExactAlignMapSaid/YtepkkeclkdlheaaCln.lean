/- slices.Clone of a slice that is only read: integers, pivots, swaps (promise 3). Written by gen_cln.py. -/
import Derived.Test.YtepkkeclkdlheaaCpy
import Derived.Test.YtepkkeclkdlheaaPtS
namespace Go.Proofs.Ytepkkeclkdlheaa
open Go.RowKit Go.ChangeShapes
set_option linter.unusedSimpArgs false
set_option linter.unusedVariables false
set_option maxRecDepth 100000

theorem append_list {P : Program} (W : World) {ops : Array Oper} {rest : List Oper} {o : Oper} {a : Act} {Q : Exit → Act → World → Prop} (hgd : o.guard = none) (s x : Operand) (t : TypeId)
    (ho : o.op = .call { callee := .builtin .append, args := #[s, x], argTypes := #[t, t] })
    (base : Nat) (e : TypeId) (i : TypeInfo) (z : Value) (size bytes : Nat) (ht : P.underlying t = some (.slice e)) (hi : P.info? e = some i) (hz : i.zero = some z)
    (hsize : i.size = size) (hby : i.bytes = bytes) (hzs : z.cells.size = size) (hsz : 0 < size) (hb16 : bytes ≤ 16)
    (u : Value) (hs : a.eval s = u) (hu : W.ownsRow base e size u 0 []) (g : Nat) (hg : u.ownBlock = some g)
    (ad : Option Addr) (m c : Nat) (news : List Value) (hx : a.eval x = .slice ad m c) (hnil : ad = none → m = 0 ∧ c = 0) (hl : news.length = m * size)
    (hnews : ∀ q, ad = some q → ∀ j v, news[j]? = some v → W.cell? (q.add j) = some v) (h1 : ∀ v ∈ news, v.oneCell' = true) (hm : m ≤ 1048576) (hbase : base ≤ W.heap.size)
    (h : ∀ v' W', W'.ownsRow base e size v' m news → W.grownBy W' (some g) → wpList P ops Q rest (a.put o.dst v') W') :
    wpList P ops Q (o :: rest) a W :=
  wpList_plain hgd fun K hK => append_wp W s x t ho base e i z size bytes ht hi hz hsize hby hzs hsz hb16 u hs hu g hg ad m c news hx hnil hl hnews h1 hm hbase fun v' W' q1 q2 _ => hK _ _ (h v' W' q1 q2)


set_option maxHeartbeats 2000000 in
theorem clone_i (a : Option Addr) (c : Nat) (l : List Int) (w : World) (B : Nat) (h : Ints w B (.slice a l.length c) l) (hn : a = none → c = 0) (hB : B ≤ w.heap.size) (hl : l.length ≤ 1048576) :
    Calls Try.prog 78 #[.slice a l.length c] w (RetIs 3 w l) := by
  have q := fun (w : World) (a : Option Addr) (n c n' c' : Nat) => Lib.run_eql_slice_nil w _ _ a n c n' c' Try.underlying22
  cases a with
  | none =>
    have hl0 : l = [] := List.eq_nil_of_length_eq_zero (ints_nil h)
    obtain rfl := hn rfl
    subst hl0
    clear h
    go_enter Try.func78, Try.ntmps78
    go_wp2
    go_ret
    exact ⟨_, rfl, World.ownsRow_nil _ _ _ _, Below.refl _ _⟩
  | some ad =>
    have H := hide (h.below (below1 w (.cells #[] 3)) hB)
    obtain ⟨i0, hi0, hi1, hi2, hi3⟩ := info_parts infoI
    have HI := hide (And.intro hi0 (And.intro hi1 (And.intro hi2 hi3)))
    clear h hi0 hi1 hi2 hi3
    go_enter Try.func78, Try.ntmps78
    go_wp2_with (first | (at_builtin; refine append_list (w.alloc (.cells #[] 3)) rfl _ _ 22 rfl w.heap.size 3 i0 _ 1 8 Try.underlying22 HI.out.1 HI.out.2.1 HI.out.2.2.1 HI.out.2.2.2 (by first | rfl | decide) (by decide) (by decide) _ rfl (World.ownsRow_made w #[] 0 (Nat.le_refl _) (by unfold maxLen; omega) rfl) w.heap.size rfl (some ad) l.length c (intVs l) rfl (fun h => by cases h) (by simp [intVs]) (ints_news H.out) (intVs_cell l) hl (by simp) ?_; intro v' W' hown hgr) | fail)
    go_ret
    exact ⟨_, rfl, hown, ((Below.refl w.heap.size w).alloc (Nat.le_refl _) _).grown hgr (by simp) (by intro k hk; cases hk; exact Nat.le_refl _)⟩

/-- New pivots of the call's own are returned; nothing that was there has turned. -/
def RetOps (w : World) (ps : List Pv) (e : Ending) (w' : World) : Prop := ∃ v, e = .returned v ∧ Op w' w.heap.size v ps ∧ Below w.heap.size w w'

set_option maxHeartbeats 2000000 in
theorem clone_p (a : Option Addr) (c : Nat) (l : List Pv) (w : World) (B : Nat) (h : Pvs w B (.slice a l.length c) l) (hn : a = none → c = 0) (hB : B ≤ w.heap.size) (hl : l.length ≤ 1048576) :
    Calls Try.prog 154 #[.slice a l.length c] w (RetOps w l) := by
  have q := fun (w : World) (a : Option Addr) (n c n' c' : Nat) => Lib.run_eql_slice_nil w _ _ a n c n' c' Try.underlying23
  cases a with
  | none =>
    have hl0 : l = [] := List.eq_nil_of_length_eq_zero (pvs_nil h)
    obtain rfl := hn rfl
    subst hl0
    clear h
    go_enter Try.func154, Try.ntmps154
    go_wp2
    go_ret
    exact ⟨_, rfl, World.ownsRow_nil _ _ _ _, Below.refl _ _⟩
  | some ad =>
    have H := hide (h.below (below1 w (.cells #[] 147)) hB)
    obtain ⟨i0, hi0, hi1, hi2, hi3⟩ := info_parts infoP
    have HI := hide (And.intro hi0 (And.intro hi1 (And.intro hi2 hi3)))
    clear h hi0 hi1 hi2 hi3
    go_enter Try.func154, Try.ntmps154
    go_wp2_with (first | (at_builtin; refine append_list (w.alloc (.cells #[] 147)) rfl _ _ 23 rfl w.heap.size 147 i0 _ 2 16 Try.underlying23 HI.out.1 HI.out.2.1 HI.out.2.2.1 HI.out.2.2.2 (by first | rfl | decide) (by decide) (by decide) _ rfl (World.ownsRow_made w #[] 0 (Nat.le_refl _) (by unfold maxLen; omega) rfl) w.heap.size rfl (some ad) l.length c (pvVs l) rfl (fun h => by cases h) (by simp [pvVs_length]) (pvs_news H.out) (pvVs_cell l) hl (by simp) ?_; intro v' W' hown hgr) | fail)
    go_ret
    exact ⟨_, rfl, hown, ((Below.refl w.heap.size w).alloc (Nat.le_refl _) _).grown hgr (by simp) (by intro k hk; cases hk; exact Nat.le_refl _)⟩


end Go.Proofs.Ytepkkeclkdlheaa
