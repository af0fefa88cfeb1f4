/- RowsBetween: of the reference and of the program (promise 4). Written by gen_rbw.py. -/
import Derived.Test.YtfldnjkojdnjcaaSrtS
import Derived.Test.YtfldnjkojdnjcaaSort
import Derived.Test.YtfldnjkojdnjcaaCkQ
import Derived.Test.YtfldnjkojdnjcaaCkV
namespace Go.Proofs.Ytfldnjkojdnjcaa
open Go.RowKit Go.ChangeShapes
set_option linter.unusedSimpArgs false
set_option linter.unusedVariables false
set_option maxRecDepth 100000

/-- Whether the rows between two places can be had, and which they are. -/
noncomputable def rbOk (l r : List Int) (ps : List Pv) (f t : Int) : Bool := isCk l r ps && decide (0 ≤ f ∧ f ≤ t ∧ t ≤ (r.length : Int))
noncomputable def rbL (l r : List Int) (ps : List Pv) (f t : Int) : List Int := if rbOk l r ps f t = true then sortL ((r.drop f.toNat).take (t.toNat - f.toNat)) else []

theorem rbL_no {l r : List Int} {ps : List Pv} {f t : Int} (h : ¬(isCk l r ps = true ∧ 0 ≤ f ∧ f ≤ t ∧ t ≤ (r.length : Int))) : rbL l r ps f t = [] := by
  unfold rbL rbOk
  rw [if_neg]
  intro h2
  simp only [Bool.and_eq_true, decide_eq_true_eq] at h2
  exact h ⟨h2.1, h2.2⟩

theorem rbL_yes {l r : List Int} {ps : List Pv} {m n : Nat} (h : isCk l r ps = true) (h1 : m ≤ n) (h2 : n ≤ r.length) : rbL l r ps (m : Int) (n : Int) = sortL ((r.drop m).take (n - m)) := by
  unfold rbL rbOk
  rw [if_pos (by simp [h]; omega)]
  simp

theorem rbL_mem {l r : List Int} {ps : List Pv} {f t : Int} : ∀ x ∈ rbL l r ps f t, x ∈ r := by
  intro x hx
  unfold rbL at hx
  split at hx
  · exact List.mem_of_mem_drop (List.mem_of_mem_take (sortL_mem.1 hx))
  · simp at hx

theorem rbL_le (l r : List Int) (ps : List Pv) (f t : Int) : (rbL l r ps f t).length ≤ r.length := by
  unfold rbL
  split
  · rw [sortL_length]; simp; omega
  · simp

/-- A part of integers that are only read. -/
theorem Ints.part {w : World} {B : Nat} {a : Option Addr} {c : Nat} {r : List Int} (h : Ints w B (.slice a r.length c) r) (m n : Nat) (hm : m ≤ n) (hn : n ≤ r.length) (a' : Option Addr) (c' : Nat) (ha' : m < n → a' = Option.map (fun x => x.add m) a) :
    Ints w B (.slice a' ((r.drop m).take (n - m)).length c') ((r.drop m).take (n - m)) := by
  obtain ⟨a0, c0, e, h1, h2, h3⟩ := h
  injection e with e1 e2 e3
  subst e1 e3
  have hl : ((r.drop m).take (n - m)).length = n - m := by simp; omega
  refine ⟨a', c', rfl, by rw [hl]; omega, fun x hx => h2 x (List.mem_of_mem_drop (List.mem_of_mem_take hx)), fun j hj => ?_⟩
  rw [hl] at hj
  obtain ⟨b1, o1, rfl, e2, e3⟩ := h3 (m + j) (by omega)
  refine ⟨b1, o1 + m, by rw [ha' (by omega)]; simp [addr_add], e2, ?_⟩
  rw [Nat.add_assoc]
  simpa using e3

theorem Ow.wide {w : World} {v : Value} {l : List Int} {lo hi lo' : Nat} (h : Ow w v l lo hi) (hl : lo' ≤ lo) : Ow w v l lo' hi := by
  obtain ⟨⟨F, h, hF⟩, h1, h2⟩ := h
  exact ⟨⟨F, h, fun b hb => ⟨Nat.le_trans hl (hF b hb).1, (hF b hb).2⟩⟩, Nat.le_trans hl h1, h2⟩

/-- Sorting a part of what is only read. -/
theorem sSubSort_any {a : Option Addr} {c : Nat} {r : List Int} {W : World} {B : Nat} (h : Ints W B (.slice a r.length c) r) (hB : B ≤ W.heap.size) (hr : r.length ≤ 1048576) (m n : Nat) (hm : m ≤ n) (hn : n ≤ r.length) (a' : Option Addr) (c' : Nat) (ha' : m < n → a' = Option.map (fun x => x.add m) a) (hz : a' = none → c' = 0) :
    Calls Try.prog 24 #[.slice a' (n - m) c'] W (RetOw W (sortL ((r.drop m).take (n - m)))) := by
  have hl : ((r.drop m).take (n - m)).length = n - m := by simp; omega
  have := sSort_any a' c' _ W B (h.part m n hm hn a' c' ha') hz hB (by rw [hl]; omega)
  rwa [hl] at this

theorem iSubSort_any {a : Option Addr} {c : Nat} {r : List Int} {W : World} {B : Nat} (h : Ints W B (.slice a r.length c) r) (hB : B ≤ W.heap.size) (hr : r.length ≤ 1048576) (m n : Nat) (hm : m ≤ n) (hn : n ≤ r.length) (a' : Option Addr) (c' : Nat) (ha' : m < n → a' = Option.map (fun x => x.add m) a) (hz : a' = none → c' = 0) :
    Calls Try.prog 23 #[.slice a' (n - m) c'] W (RetOw W (sortL ((r.drop m).take (n - m)))) := by
  have hl : ((r.drop m).take (n - m)).length = n - m := by simp; omega
  have := iSort_any a' c' _ W B (h.part m n hm hn a' c' ha') hz hB (by rw [hl]; omega)
  rw [hl] at this
  refine this.mono ?_
  rintro e w' ⟨v, rfl, O, hb⟩
  exact ⟨v, _, rfl, Ow.of O hb.size, hb⟩


end Go.Proofs.Ytfldnjkojdnjcaa
