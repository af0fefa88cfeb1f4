/- RowsBetween: of the reference and of the program (promise 4). Written by gen_rbw.py. -/
import Derived.Test.YtkhhlifnbelckaaSrtS
import Derived.Test.YtkhhlifnbelckaaSort
import Derived.Test.YtkhhlifnbelckaaCkQ
import Derived.Test.YtkhhlifnbelckaaCkV
namespace Go.Proofs.Ytkhhlifnbelckaa
open Go.RowKit Go.ChangeShapes
set_option linter.unusedSimpArgs false
set_option linter.unusedVariables false
set_option maxRecDepth 100000

/-- Whether the rows between two places can be had, and which they are. -/
noncomputable def rbOk (l r : List Int) (ps : List Pv) (f t : Int) : Bool := isCk l r ps && decide (0 ≤ f ∧ f ≤ t ∧ t ≤ (r.length : Int))
noncomputable def rbL (l r : List Int) (ps : List Pv) (f t : Int) : List Int := if rbOk l r ps f t = true then sortL ((r.drop f.toNat).take (t.toNat - f.toNat)) else []

theorem rbL_no {l r : List Int} {ps : List Pv} {f t : Int} (h : ¬(isCk l r ps = true ∧ 0 ≤ f ∧ f ≤ t ∧ t ≤ (r.length : Int))) : rbL l r ps f t = [] := by
  unfold rbL rbOk
  rw [if_neg]
  intro h2
  simp only [Bool.and_eq_true, decide_eq_true_eq] at h2
  exact h ⟨h2.1, h2.2⟩

theorem rbL_yes {l r : List Int} {ps : List Pv} {m n : Nat} (h : isCk l r ps = true) (h1 : m ≤ n) (h2 : n ≤ r.length) : rbL l r ps (m : Int) (n : Int) = sortL ((r.drop m).take (n - m)) := by
  unfold rbL rbOk
  rw [if_pos (by simp [h]; omega)]
  simp

theorem rbL_mem {l r : List Int} {ps : List Pv} {f t : Int} : ∀ x ∈ rbL l r ps f t, x ∈ r := by
  intro x hx
  unfold rbL at hx
  split at hx
  · exact List.mem_of_mem_drop (List.mem_of_mem_take (sortL_mem.1 hx))
  · simp at hx

theorem rbL_le (l r : List Int) (ps : List Pv) (f t : Int) : (rbL l r ps f t).length ≤ r.length := by
  unfold rbL
  split
  · rw [sortL_length]; simp; omega
  · simp

/-- A part of integers that are only read. -/
theorem Ints.part {w : World} {B : Nat} {a : Option Addr} {c : Nat} {r : List Int} (h : Ints w B (.slice a r.length c) r) (m n : Nat) (hm : m ≤ n) (hn : n ≤ r.length) (a' : Option Addr) (c' : Nat) (ha' : m < n → a' = Option.map (fun x => x.add m) a) :
    Ints w B (.slice a' ((r.drop m).take (n - m)).length c') ((r.drop m).take (n - m)) := by
  obtain ⟨a0, c0, e, h1, h2, h3⟩ := h
  injection e with e1 e2 e3
  subst e1 e3
  have hl : ((r.drop m).take (n - m)).length = n - m := by simp; omega
  refine ⟨a', c', rfl, by rw [hl]; omega, fun x hx => h2 x (List.mem_of_mem_drop (List.mem_of_mem_take hx)), fun j hj => ?_⟩
  rw [hl] at hj
  obtain ⟨b1, o1, rfl, e2, e3⟩ := h3 (m + j) (by omega)
  refine ⟨b1, o1 + m, by rw [ha' (by omega)]; simp [addr_add], e2, ?_⟩
  rw [Nat.add_assoc]
  simpa using e3

theorem Ow.wide {w : World} {v : Value} {l : List Int} {lo hi lo' : Nat} (h : Ow w v l lo hi) (hl : lo' ≤ lo) : Ow w v l lo' hi := by
  obtain ⟨⟨F, h, hF⟩, h1, h2⟩ := h
  exact ⟨⟨F, h, fun b hb => ⟨Nat.le_trans hl (hF b hb).1, (hF b hb).2⟩⟩, Nat.le_trans hl h1, h2⟩

/-- Sorting a part of what is only read. -/
theorem sSubSort_any {a : Option Addr} {c : Nat} {r : List Int} {W : World} {B : Nat} (h : Ints W B (.slice a r.length c) r) (hB : B ≤ W.heap.size) (hr : r.length ≤ 1048576) (m n : Nat) (hm : m ≤ n) (hn : n ≤ r.length) (a' : Option Addr) (c' : Nat) (ha' : m < n → a' = Option.map (fun x => x.add m) a) (hz : a' = none → c' = 0) :
    Calls Try.prog 73 #[.slice a' (n - m) c'] W (RetOw W (sortL ((r.drop m).take (n - m)))) := by
  have hl : ((r.drop m).take (n - m)).length = n - m := by simp; omega
  have := sSort_any a' c' _ W B (h.part m n hm hn a' c' ha') hz hB (by rw [hl]; omega)
  rwa [hl] at this

theorem iSubSort_any {a : Option Addr} {c : Nat} {r : List Int} {W : World} {B : Nat} (h : Ints W B (.slice a r.length c) r) (hB : B ≤ W.heap.size) (hr : r.length ≤ 1048576) (m n : Nat) (hm : m ≤ n) (hn : n ≤ r.length) (a' : Option Addr) (c' : Nat) (ha' : m < n → a' = Option.map (fun x => x.add m) a) (hz : a' = none → c' = 0) :
    Calls Try.prog 81 #[.slice a' (n - m) c'] W (RetOw W (sortL ((r.drop m).take (n - m)))) := by
  have hl : ((r.drop m).take (n - m)).length = n - m := by simp; omega
  have := iSort_any a' c' _ W B (h.part m n hm hn a' c' ha') hz hB (by rw [hl]; omega)
  rw [hl] at this
  refine this.mono ?_
  rintro e w' ⟨v, rfl, O, hb⟩
  exact ⟨v, _, rfl, Ow.of O hb.size, hb⟩


set_option maxHeartbeats 4000000 in
theorem iRows_any (u : Value) (l r : List Int) (ps : List Pv) (f t : Int) (w : World) (B : Nat) (hv : Ck w B u l r ps) (hB : B ≤ w.heap.size) (hf : I64 f) (ht : I64 t) (hr : r.length ≤ 1048576) :
    Calls Try.prog 29 #[u, .int .i64 f, .int .i64 t] w (RetOw w (rbL l r ps f t)) := by
  obtain ⟨x, y, z, rfl, i1, i2, i3, k1, k2, k3⟩ := hv
  have hv : Ck w B (.agg #[x, y, z]) l r ps := ⟨x, y, z, rfl, i1, i2, i3, k1, k2, k3⟩
  obtain ⟨a1, c1, rfl⟩ := i1.form
  obtain ⟨a2, c2, rfl⟩ := i2.form
  obtain ⟨a3, c3, rfl⟩ := i3.form
  have hcap : r.length ≤ c2 ∧ (a2 = none → c2 = 0) := by
    obtain ⟨_, _, _, e, h1, h2⟩ := k2
    injection e with e1 e2 e3
    subst e1 e2 e3
    exact ⟨h1, h2⟩
  clear k1 k2 k3
  have X := hide (Kn.one w #[.slice a1 l.length c1, .slice a2 r.length c2, .slice a3 ps.length c3] 27)
  obtain ⟨w1, hw1⟩ : ∃ w1, w1 = w.alloc (.cells #[.slice a1 l.length c1, .slice a2 r.length c2, .slice a3 ps.length c3] 27) := ⟨_, rfl⟩
  rw [← hw1] at X
  have HI2 := hide (fun (W : World) (h : Below w.heap.size w W) => i2.below h hB)
  have HV := hide (fun (W : World) (h : Below w.heap.size w W) => hv.below h hB)
  clear i1 i2 i3 hv
  obtain ⟨L, hL⟩ : ∃ q, q = rbL l r ps f t := ⟨_, rfl⟩
  rw [← hL]
  have HL := hide hL
  clear hL
  obtain ⟨q, hq⟩ : ∃ q, q = isCk l r ps := ⟨_, rfl⟩
  have HQ := hide hq
  clear hq
  have d0 : w1.cell? ⟨w.heap.size, 0, none⟩ = some (.slice a1 l.length c1) := X.out.cell 0 0 rfl rfl
  have d1 : w1.cell? ⟨w.heap.size, 1, none⟩ = some (.slice a2 r.length c2) := X.out.cell 0 1 rfl rfl
  have d2 : w1.cell? ⟨w.heap.size, 2, none⟩ = some (.slice a3 ps.length c3) := X.out.cell 0 2 rfl rfl
  go_enter Try.func29, Try.ntmps29
  go_wp2_with fail
  rw [← hw1]
  clear hw1
  go_at_call 19
  refine (iIsCk_any _ l r ps _ B (HV.out _ X.out.below) (Nat.le_trans hB X.out.below.size)).mono ?_
  rintro e w2 ⟨rfl, hb⟩
  rw [← HQ.out]
  have X := hide (X.out.up hb)
  clear hb d0 d1 d2
  have nil := hide (fun (h : ¬(isCk l r ps = true ∧ 0 ≤ f ∧ f ≤ t ∧ t ≤ (r.length : Int))) => show L = [] by rw [HL.out]; exact rbL_no h)
  have d1 : w2.cell? ⟨w.heap.size, 1, none⟩ = some (.slice a2 r.length c2) := X.out.cell 0 1 rfl rfl
  cases q
  · have hn := hide (nil.out (fun h => by rw [← HQ.out] at h; simp at h))
    go_wp2_with fail
    go_ret
    rw [hn.out]
    exact ⟨_, _, rfl, Ow.nil X.out.below.size, X.out.below⟩
  by_cases h0 : f < 0
  · have hn := hide (nil.out (fun h => by omega))
    have t1 : decide (f < 0) = true := by simp; omega
    clear h0
    go_wp2_with fail
    go_ret
    rw [hn.out]
    exact ⟨_, _, rfl, Ow.nil X.out.below.size, X.out.below⟩
  have t1 : decide (f < 0) = false := by simp; omega
  by_cases h2 : t < f
  · have hn := hide (nil.out (fun h => by omega))
    have t2 : decide (t < f) = true := by simp; omega
    clear h0 h2
    go_wp2_with fail
    go_ret
    rw [hn.out]
    exact ⟨_, _, rfl, Ow.nil X.out.below.size, X.out.below⟩
  have t2 : decide (t < f) = false := by simp; omega
  by_cases h3 : (r.length : Int) < t
  · have hn := hide (nil.out (fun h => by omega))
    have t3 : decide ((r.length : Int) < t) = true := by simp; omega
    clear h0 h2 h3
    go_wp2_with fail
    go_ret
    rw [hn.out]
    exact ⟨_, _, rfl, Ow.nil X.out.below.size, X.out.below⟩
  have t3 : decide ((r.length : Int) < t) = false := by simp; omega
  obtain ⟨m, rfl⟩ : ∃ m : Nat, f = (m : Int) := ⟨f.toNat, by omega⟩
  obtain ⟨n, rfl⟩ : ∃ n : Nat, t = (n : Int) := ⟨t.toNat, by omega⟩
  have hmn : m ≤ n := by omega
  have hnr : n ≤ r.length := by omega
  have HE := hide (show L = sortL ((r.drop m).take (n - m)) by rw [HL.out]; exact rbL_yes HQ.out.symm hmn hnr)
  have HP := hide (fun (W : World) (h : Below w.heap.size w W) (a' : Option Addr) (c' : Nat) (q1 : m < n → a' = Option.map (fun x => x.add m) a2) (q2 : a' = none → c' = 0) => show Calls Try.prog 81 #[.slice a' (n - m) c'] W (RetOw W L) by rw [HE.out]; exact iSubSort_any (HI2.out W h) (Nat.le_trans hB h.size) hr m n hmn hnr a' c' q1 q2)
  clear HL nil HE
  go_wp2_with fail
  · go_at_call 81
    refine (HP.out _ X.out.below _ _ (fun h => by omega) (fun _ => rfl)).mono ?_
    rintro e w3 ⟨v, hi, rfl, O, hb⟩
    go_wp2_with fail
    go_ret
    exact ⟨_, _, rfl, O.wide X.out.below.size, X.out.below.trans (hb.mono X.out.below.size)⟩
  · go_at_call 81
    refine (HP.out _ X.out.below _ _ (fun _ => rfl) (fun h => by have := hcap.2 (by simpa using h); omega)).mono ?_
    rintro e w3 ⟨v, hi, rfl, O, hb⟩
    go_wp2_with fail
    go_ret
    exact ⟨_, _, rfl, O.wide X.out.below.size, X.out.below.trans (hb.mono X.out.below.size)⟩

end Go.Proofs.Ytkhhlifnbelckaa
