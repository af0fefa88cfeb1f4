/- slices.Clone of items that are only read, after the same of pivots (promise 7). -/
import Derived.Test.YtajfhalalnlejaaCln
import Derived.Test.YtajfhalalnlejaaIv
namespace Go.Proofs.Ytajfhalalnlejaa
open Go.RowKit Go.ChangeShapes
set_option linter.unusedSimpArgs false
set_option linter.unusedVariables false
set_option maxRecDepth 100000

/-- New pivots of the call's own are returned; nothing that was there has turned. -/
def RetOis (w : World) (ps : List Pv) (e : Ending) (w' : World) : Prop := ∃ v, e = .returned v ∧ Oi w' w.heap.size v ps ∧ Below w.heap.size w w'

set_option maxHeartbeats 2000000 in
theorem clone_t (a : Option Addr) (c : Nat) (l : List Pv) (w : World) (B : Nat) (h : Pvs w B (.slice a l.length c) l) (hn : a = none → c = 0) (hB : B ≤ w.heap.size) (hl : l.length ≤ 1048576) :
    Calls Try.prog 116 #[.slice a l.length c] w (RetOis w l) := by
  have q := fun (w : World) (a : Option Addr) (n c n' c' : Nat) => Lib.run_eql_slice_nil w _ _ a n c n' c' Try.underlying68
  cases a with
  | none =>
    have hl0 : l = [] := List.eq_nil_of_length_eq_zero (pvs_nil h)
    obtain rfl := hn rfl
    subst hl0
    clear h
    go_enter Try.func116, Try.ntmps116
    go_wp2
    go_ret
    exact ⟨_, rfl, World.ownsRow_nil _ _ _ _, Below.refl _ _⟩
  | some ad =>
    have H := hide (h.below (below1 w (.cells #[] 49)) hB)
    obtain ⟨i0, hi0, hi1, hi2, hi3⟩ := info_parts infoIt
    have HI := hide (And.intro hi0 (And.intro hi1 (And.intro hi2 hi3)))
    clear h hi0 hi1 hi2 hi3
    go_enter Try.func116, Try.ntmps116
    go_wp2_with (first | (at_builtin; refine append_list (w.alloc (.cells #[] 49)) rfl _ _ 68 rfl w.heap.size 49 i0 _ 2 16 Try.underlying68 HI.out.1 HI.out.2.1 HI.out.2.2.1 HI.out.2.2.2 (by first | rfl | decide) (by decide) (by decide) _ rfl (World.ownsRow_made w #[] 0 (Nat.le_refl _) (by unfold maxLen; omega) rfl) w.heap.size rfl (some ad) l.length c (pvVs l) rfl (fun h => by cases h) (by simp [pvVs_length]) (pvs_news H.out) (pvVs_cell l) hl (by simp) ?_; intro v' W' hown hgr) | fail)
    go_ret
    exact ⟨_, rfl, hown, ((Below.refl w.heap.size w).alloc (Nat.le_refl _) _).grown hgr (by simp) (by intro k hk; cases hk; exact Nat.le_refl _)⟩

end Go.Proofs.Ytajfhalalnlejaa
