/- slices.Sort of integers of the call's own, by the library's contract; SortInts of the program (promise 4). -/
import Derived.Test.YtfldnjkojdnjcaaSrtM
import Derived.Test.YtfldnjkojdnjcaaCln
import Derived.Shelf.Lay
import Derived.Shelf.Sort.AssemblyIn
import Derived.Shelf.Slices.In.SortNone
import Derived.Sort.EveryDepth
import Derived.Sort.OwnSortedInts
import Derived.Ground.NamesProg
namespace Go.Proofs
open Go.Shelf
shelf_lay Lays.n189 Nm 189 at Try as Try.laysSort
end Go.Proofs

namespace Go.Proofs.Ytfldnjkojdnjcaa
open Go.RowKit Go.ChangeShapes Go.Sort
set_option linter.unusedSimpArgs false
set_option linter.unusedVariables false
set_option maxRecDepth 100000

/-- What slices.Sort leaves of a row of the call's own. -/
def RetSo (w : World) (lo : Nat) (v : Value) (l : List Int) (e : Ending) (w' : World) : Prop := e = .returned (.tuple #[]) ∧ Is w' lo 3 v (sortL l) ∧ w.grownBy w' v.ownBlock

theorem sort_is (v : Value) (l : List Int) (lo : Nat) (w : World) (h : Is w lo 3 v l) (hl : l.length ≤ 1048576) :
    Calls Try.prog 52 #[v] w (RetSo w lo v l) := by
  rcases h.2 with ⟨rfl, hn⟩ | ⟨g, cap, cur, rfl, hg, hb, h1, h2, h3, h4⟩
  · have hl0 : l = [] := List.eq_nil_of_length_eq_zero hn
    subst hl0
    refine (Any.slices_Sort_int_none Try.laysSort none 0 w).mono ?_
    rintro e w' ⟨rfl, rfl⟩
    exact ⟨rfl, by rw [sortL_nil]; exact h, World.grownBy.refl _ _⟩
  · have hH : Holds (Value.int .i64) w g 0 l.toArray := holds_of_blockI hb (by simpa [intVs] using h4)
    have hlt := (Array.getElem?_eq_some_iff.1 hb).1
    have hc := calls_of_every_depth fun D => AnyS.slices_Sort_int_in Try.laysSort D g 0 cap l w hH hlt (by omega)
    refine Calls.mono hc ?_
    rintro e w' ⟨rfl, n, os, rfl⟩
    refine ⟨rfl, ?_, grownBy_sortedI _⟩
    have := ownsRow_sortedI (os := os) (n := n) (base := lo) (ss := l) (ts := sortL l) (sortL_length l) hg hb h1 h2 h3
    unfold Is
    rw [sortL_length]
    exact this

theorem iSort_any (a : Option Addr) (c : Nat) (l : List Int) (w : World) (B : Nat) (h : Ints w B (.slice a l.length c) l) (hn : a = none → c = 0) (hB : B ≤ w.heap.size) (hl : l.length ≤ 1048576) :
    Calls Try.prog 23 #[.slice a l.length c] w (RetIs 3 w (sortL l)) := by
  have HC := hide (clone_i a c l w B h hn hB hl)
  have HS := hide (fun (v : Value) (w1 : World) (O : Is w1 w.heap.size 3 v l) => sort_is v l w.heap.size w1 O hl)
  clear h hn
  obtain ⟨m, hm⟩ : ∃ m, m = sortL l := ⟨_, rfl⟩
  rw [← hm]
  have HM := hide hm
  clear hm
  go_enter Try.func23, Try.ntmps23
  go_wp2_with fail
  go_at_call 51
  refine HC.out.mono ?_
  rintro e w1 ⟨v, rfl, O, hb⟩
  go_wp2_with fail
  go_at_call 52
  refine (HS.out v w1 O).mono ?_
  rintro e w2 ⟨rfl, O2, hg⟩
  rw [← HM.out] at O2
  have hB2 := hb.grown hg hb.size (by
    intro k hk
    rcases O.2 with ⟨e, _⟩ | ⟨g, cap, cur, e, h1, _⟩
    · rw [e] at hk; simp [Value.ownBlock] at hk
    · rw [e] at hk; simp [Value.ownBlock] at hk; omega)
  go_wp2_with fail
  go_ret
  exact ⟨_, rfl, O2, hB2⟩

end Go.Proofs.Ytfldnjkojdnjcaa
