/- What TotalSwaps, SwapsOf and OwnerOf return, of the reference and of the program (promise 6). Written by gen_ch.py. -/
import Derived.Test.YtdjhnamofmcmjaaCg
import Derived.Test.YtdjhnamofmcmjaaKn
namespace Go.Proofs.Ytdjhnamofmcmjaa
open Go.RowKit Go.ChangeShapes
set_option linter.unusedSimpArgs false
set_option linter.unusedVariables false
set_option maxRecDepth 100000

/-- The sum of the swaps of the first k, as Go's ints give it. -/
def cgW (cs : List Chg) : Nat → Int
  | 0 => 0
  | k + 1 => wrap64 (cgW cs k + (cs.getD k default).n)
/-- The same of one query's. -/
def cgQ (cs : List Chg) (q : Int) : Nat → Int
  | 0 => 0
  | k + 1 => if (cs.getD k default).q = q then wrap64 (cgQ cs q k + (cs.getD k default).n) else cgQ cs q k
/-- The query of the first with this value, from number k on. -/
def cgO : List Chg → Int → Int
  | [], _ => -1
  | c :: cs, v => if c.v = v then c.q else cgO cs v

theorem getD_at {cs : List Chg} {k : Nat} (h : k < cs.length) : cs[k] = cs.getD k default := by simp [h]
theorem cgO_yes {cs : List Chg} {v : Int} {k : Nat} (h : k < cs.length) (e : (cs.getD k default).v = v) : cgO (cs.drop k) v = (cs.getD k default).q := by
  rw [← getD_at h] at e ⊢
  rw [List.drop_eq_getElem_cons h, cgO, if_pos e]
theorem cgO_no {cs : List Chg} {v : Int} {k : Nat} (h : k < cs.length) (e : ¬((cs.getD k default).v = v)) : cgO (cs.drop k) v = cgO (cs.drop (k + 1)) v := by
  rw [← getD_at h] at e
  rw [List.drop_eq_getElem_cons h, cgO, if_neg e]

set_option maxHeartbeats 2000000 in
theorem sTot_any (v : Value) (cs : List Chg) (B : Nat) (w : World) (h : Cgs w B v cs) (hB : B ≤ w.heap.size) (hl : cs.length ≤ 1048576) :
    Calls Try.prog 39 #[v] w (RetI1 w (cgW cs cs.length)) := by
  obtain ⟨a, c, rfl⟩ := h.form
  have HA := hide (fun (W : World) (hb : Below w.heap.size w W) k hk => (h.below hb hB).at' k hk)
  have HG := hide (fun (k : Nat) (hk : k < cs.length) => getD_at hk)
  obtain ⟨L, hL⟩ : ∃ L, L = cs.length := ⟨_, rfl⟩
  have HL := hide hL
  rw [← hL] at hl ⊢
  clear h hL
  go_enter Try.func39, Try.ntmps39
  go_wp2_with fail
  go_loopw [3, 4] (fun n x wr => ∃ k : Nat, k ≤ L ∧ x = .int .i64 (k : Int) ∧ n = .int .i64 (cgW cs k) ∧ Below w.heap.size w wr) (fun _ x _ => L - (intOf x).toNat)
  case atStart => exact ⟨0, by omega, rfl, rfl, Below.refl _ _⟩
  case round =>
    obtain ⟨k, hk, rfl, rfl, hb⟩ := hrel
    by_cases hlt : k < L
    · obtain ⟨g, o, rfl, -, e0, e1, e2, e3, e4⟩ := HA.out wr hb k (by rw [← HL.out]; exact hlt)
      have hg := HG.out k (by rw [← HL.out]; exact hlt)
      rw [hg] at e0 e1 e2 e3 e4
      have hbb := hide hb
      have hs : cgW cs (k + 1) = wrap64 (cgW cs k + (cs.getD k default).n) := rfl
      obtain ⟨c, hc⟩ : ∃ x, x = cs.getD k default := ⟨_, rfl⟩
      rw [← hc] at e0 e1 e2 e3 e4 hs
      have hs := hide hs
      obtain ⟨n, hn⟩ : ∃ n, n = cgW cs k := ⟨_, rfl⟩
      rw [← hn] at hs ⊢
      obtain ⟨x0, x1, x2, x3, x4⟩ := c
      simp only at e0 e1 e2 e3 e4 hs
      clear hb hg hc hn
      go_wp2_with fail
      exact ⟨⟨k + 1, by omega, by go_num, by rw [hs.out], hbb.out⟩, by simp [intOf]; omega⟩
    · have hkL : k = L := by omega
      subst hkL
      go_wp2_with fail
      go_ret
      exact ⟨rfl, hb⟩

set_option maxHeartbeats 2000000 in
theorem iTot_any (v : Value) (cs : List Chg) (B : Nat) (w : World) (h : Cgs w B v cs) (hB : B ≤ w.heap.size) (hl : cs.length ≤ 1048576) :
    Calls Try.prog 27 #[v] w (RetI1 w (cgW cs cs.length)) := by
  obtain ⟨a, c, rfl⟩ := h.form
  have HA := hide (fun (W : World) (hb : Below w.heap.size w W) k hk => (h.below hb hB).at' k hk)
  have HG := hide (fun (k : Nat) (hk : k < cs.length) => getD_at hk)
  obtain ⟨L, hL⟩ : ∃ L, L = cs.length := ⟨_, rfl⟩
  have HL := hide hL
  rw [← hL] at hl ⊢
  clear h hL
  go_enter Try.func27, Try.ntmps27
  go_wp2_with fail
  go_loopw [3, 8] (fun n x wr => ∃ k : Nat, k ≤ L ∧ x = .int .i64 (k : Int) ∧ n = .int .i64 (cgW cs k) ∧ Below w.heap.size w wr) (fun _ x _ => L - (intOf x).toNat)
  case atStart => exact ⟨0, by omega, rfl, rfl, Below.refl _ _⟩
  case round =>
    obtain ⟨k, hk, rfl, rfl, hb⟩ := hrel
    by_cases hlt : k < L
    · obtain ⟨g, o, rfl, -, e0, e1, e2, e3, e4⟩ := HA.out wr hb k (by rw [← HL.out]; exact hlt)
      have hg := HG.out k (by rw [← HL.out]; exact hlt)
      rw [hg] at e0 e1 e2 e3 e4
      have hbb := hide hb
      have hs : cgW cs (k + 1) = wrap64 (cgW cs k + (cs.getD k default).n) := rfl
      obtain ⟨c, hc⟩ : ∃ x, x = cs.getD k default := ⟨_, rfl⟩
      rw [← hc] at e0 e1 e2 e3 e4 hs
      have hs := hide hs
      obtain ⟨n, hn⟩ : ∃ n, n = cgW cs k := ⟨_, rfl⟩
      rw [← hn] at hs ⊢
      obtain ⟨x0, x1, x2, x3, x4⟩ := c
      simp only at e0 e1 e2 e3 e4 hs
      clear hb hg hc hn
      go_wp2_with fail
      exact ⟨⟨k + 1, by omega, by go_num, by rw [hs.out], hbb.out.alloc hbb.out.size _⟩, by simp [intOf]; omega⟩
    · have hkL : k = L := by omega
      subst hkL
      go_wp2_with fail
      go_ret
      exact ⟨rfl, hb⟩

set_option maxHeartbeats 2000000 in
theorem sSwO_any (v : Value) (cs : List Chg) (q : Int) (B : Nat) (w : World) (h : Cgs w B v cs) (hB : B ≤ w.heap.size) (hl : cs.length ≤ 1048576) :
    Calls Try.prog 28 #[v, .int .i64 q] w (RetI1 w (cgQ cs q cs.length)) := by
  obtain ⟨a, c, rfl⟩ := h.form
  have HA := hide (fun (W : World) (hb : Below w.heap.size w W) k hk => (h.below hb hB).at' k hk)
  have HG := hide (fun (k : Nat) (hk : k < cs.length) => getD_at hk)
  obtain ⟨L, hL⟩ : ∃ L, L = cs.length := ⟨_, rfl⟩
  have HL := hide hL
  rw [← hL] at hl ⊢
  clear h hL
  go_enter Try.func28, Try.ntmps28
  go_wp2_with fail
  go_loopw [5, 6] (fun n x wr => ∃ k : Nat, k ≤ L ∧ x = .int .i64 (k : Int) ∧ n = .int .i64 (cgQ cs q k) ∧ Below w.heap.size w wr) (fun _ x _ => L - (intOf x).toNat)
  case atStart => exact ⟨0, by omega, rfl, rfl, Below.refl _ _⟩
  case round =>
    obtain ⟨k, hk, rfl, rfl, hb⟩ := hrel
    by_cases hlt : k < L
    · obtain ⟨g, o, rfl, -, e0, e1, e2, e3, e4⟩ := HA.out wr hb k (by rw [← HL.out]; exact hlt)
      have hg := HG.out k (by rw [← HL.out]; exact hlt)
      rw [hg] at e0 e1 e2 e3 e4
      have hbb := hide hb
      have hs : cgQ cs q (k + 1) = if (cs.getD k default).q = q then wrap64 (cgQ cs q k + (cs.getD k default).n) else cgQ cs q k := rfl
      obtain ⟨c, hc⟩ : ∃ x, x = cs.getD k default := ⟨_, rfl⟩
      rw [← hc] at e0 e1 e2 e3 e4 hs
      obtain ⟨n, hn⟩ : ∃ n, n = cgQ cs q k := ⟨_, rfl⟩
      rw [← hn] at hs ⊢
      obtain ⟨x0, x1, x2, x3, x4⟩ := c
      simp only at e0 e1 e2 e3 e4 hs
      clear hb hg hc hn
      by_cases hq : x0 = q
      · rw [if_pos hq] at hs
        have hs := hide hs
        have t0 : (x0 == q) = true := by simp [hq]
        clear hq
        go_wp2_with fail
        exact ⟨⟨k + 1, by omega, by go_num, by rw [hs.out], hbb.out⟩, by simp [intOf]; omega⟩
      · rw [if_neg hq] at hs
        have hs := hide hs
        have t0 : (x0 == q) = false := by simp [hq]
        clear hq
        go_wp2_with fail
        exact ⟨⟨k + 1, by omega, by go_num, by rw [hs.out], hbb.out⟩, by simp [intOf]; omega⟩
    · have hkL : k = L := by omega
      subst hkL
      go_wp2_with fail
      go_ret
      exact ⟨rfl, hb⟩

set_option maxHeartbeats 2000000 in
theorem iSwO_any (v : Value) (cs : List Chg) (q : Int) (B : Nat) (w : World) (h : Cgs w B v cs) (hB : B ≤ w.heap.size) (hl : cs.length ≤ 1048576) :
    Calls Try.prog 29 #[v, .int .i64 q] w (RetI1 w (cgQ cs q cs.length)) := by
  obtain ⟨a, c, rfl⟩ := h.form
  have HA := hide (fun (W : World) (hb : Below w.heap.size w W) k hk => (h.below hb hB).at' k hk)
  have HG := hide (fun (k : Nat) (hk : k < cs.length) => getD_at hk)
  obtain ⟨L, hL⟩ : ∃ L, L = cs.length := ⟨_, rfl⟩
  have HL := hide hL
  rw [← hL] at hl ⊢
  clear h hL
  go_enter Try.func29, Try.ntmps29
  go_wp2_with fail
  go_loopw [5, 10] (fun n x wr => ∃ k : Nat, k ≤ L ∧ x = .int .i64 (k : Int) ∧ n = .int .i64 (cgQ cs q k) ∧ Below w.heap.size w wr) (fun _ x _ => L - (intOf x).toNat)
  case atStart => exact ⟨0, by omega, rfl, rfl, Below.refl _ _⟩
  case round =>
    obtain ⟨k, hk, rfl, rfl, hb⟩ := hrel
    by_cases hlt : k < L
    · obtain ⟨g, o, rfl, -, e0, e1, e2, e3, e4⟩ := HA.out wr hb k (by rw [← HL.out]; exact hlt)
      have hg := HG.out k (by rw [← HL.out]; exact hlt)
      rw [hg] at e0 e1 e2 e3 e4
      have hbb := hide hb
      have hs : cgQ cs q (k + 1) = if (cs.getD k default).q = q then wrap64 (cgQ cs q k + (cs.getD k default).n) else cgQ cs q k := rfl
      obtain ⟨c, hc⟩ : ∃ x, x = cs.getD k default := ⟨_, rfl⟩
      rw [← hc] at e0 e1 e2 e3 e4 hs
      obtain ⟨n, hn⟩ : ∃ n, n = cgQ cs q k := ⟨_, rfl⟩
      rw [← hn] at hs ⊢
      obtain ⟨x0, x1, x2, x3, x4⟩ := c
      simp only at e0 e1 e2 e3 e4 hs
      clear hb hg hc hn
      by_cases hq : x0 = q
      · rw [if_pos hq] at hs
        have hs := hide hs
        have t0 : (x0 == q) = true := by simp [hq]
        clear hq
        go_wp2_with fail
        exact ⟨⟨k + 1, by omega, by go_num, by rw [hs.out], hbb.out.alloc hbb.out.size _⟩, by simp [intOf]; omega⟩
      · rw [if_neg hq] at hs
        have hs := hide hs
        have t0 : (x0 == q) = false := by simp [hq]
        clear hq
        go_wp2_with fail
        exact ⟨⟨k + 1, by omega, by go_num, by rw [hs.out], hbb.out.alloc hbb.out.size _⟩, by simp [intOf]; omega⟩
    · have hkL : k = L := by omega
      subst hkL
      go_wp2_with fail
      go_ret
      exact ⟨rfl, hb⟩

set_option maxHeartbeats 2000000 in
theorem sOwO_any (v : Value) (cs : List Chg) (v2 : Int) (B : Nat) (w : World) (h : Cgs w B v cs) (hB : B ≤ w.heap.size) (hl : cs.length ≤ 1048576) :
    Calls Try.prog 30 #[v, .int .i64 v2] w (RetI1 w (cgO cs v2)) := by
  obtain ⟨a, c, rfl⟩ := h.form
  have HA := hide (fun (W : World) (hb : Below w.heap.size w W) k hk => (h.below hb hB).at' k hk)
  have HG := hide (fun (k : Nat) (hk : k < cs.length) => getD_at hk)
  have HY := hide (fun (k : Nat) (hk : k < cs.length) => cgO_yes (v := v2) hk)
  have HN := hide (fun (k : Nat) (hk : k < cs.length) => cgO_no (v := v2) hk)
  obtain ⟨L, hL⟩ : ∃ L, L = cs.length := ⟨_, rfl⟩
  have HL := hide hL
  rw [← hL] at hl ⊢
  clear h hL
  go_enter Try.func30, Try.ntmps30
  go_wp2_with fail
  go_loopw [5] (fun x wr => ∃ k : Nat, k ≤ L ∧ x = .int .i64 (k : Int) ∧ Hid (cgO (cs.drop k) v2 = cgO cs v2) ∧ Below w.heap.size w wr) (fun x _ => L - (intOf x).toNat)
  case atStart => exact ⟨0, by omega, rfl, by simp [Hid], Below.refl _ _⟩
  case round =>
    obtain ⟨k, hk, rfl, he, hb⟩ := hrel
    by_cases hlt : k < L
    · obtain ⟨g, o, rfl, -, e0, e1, e2, e3, e4⟩ := HA.out wr hb k (by rw [← HL.out]; exact hlt)
      have hg := HG.out k (by rw [← HL.out]; exact hlt)
      rw [hg] at e0 e1 e2 e3 e4
      have hbb := hide hb
      have hy := HY.out k (by rw [← HL.out]; exact hlt)
      have hn := HN.out k (by rw [← HL.out]; exact hlt)
      obtain ⟨c, hc⟩ : ∃ x, x = cs.getD k default := ⟨_, rfl⟩
      rw [← hc] at e0 e1 e2 e3 e4 hy hn
      obtain ⟨x0, x1, x2, x3, x4⟩ := c
      simp only at e0 e1 e2 e3 e4 hy hn
      clear hb hg hc
      by_cases hq : x1 = v2
      · have hs := hide (hy hq)
        have t0 : (x1 == v2) = true := by simp [hq]
        clear hq hy hn
        go_wp2_with fail
        go_ret
        exact ⟨by rw [← he.out, hs.out]; rfl, hbb.out⟩
      · have hs := hide (hn hq)
        have t0 : (x1 == v2) = false := by simp [hq]
        clear hq hy hn
        go_wp2_with fail
        exact ⟨⟨k + 1, by omega, by go_num, hs.out.symm.trans he.out, hbb.out⟩, by simp [intOf]; omega⟩
    · have hkL : k = L := by omega
      subst hkL
      have he := hide (show cgO cs v2 = -1 by rw [← he.out, HL.out, List.drop_length]; rfl)
      go_wp2_with fail
      go_ret
      exact ⟨by rw [he.out]; rfl, hb⟩

set_option maxHeartbeats 2000000 in
theorem iOwO_any (v : Value) (cs : List Chg) (v2 : Int) (B : Nat) (w : World) (h : Cgs w B v cs) (hB : B ≤ w.heap.size) (hl : cs.length ≤ 1048576) :
    Calls Try.prog 31 #[v, .int .i64 v2] w (RetI1 w (cgO cs v2)) := by
  obtain ⟨a, c, rfl⟩ := h.form
  have HA := hide (fun (W : World) (hb : Below w.heap.size w W) k hk => (h.below hb hB).at' k hk)
  have HG := hide (fun (k : Nat) (hk : k < cs.length) => getD_at hk)
  have HY := hide (fun (k : Nat) (hk : k < cs.length) => cgO_yes (v := v2) hk)
  have HN := hide (fun (k : Nat) (hk : k < cs.length) => cgO_no (v := v2) hk)
  obtain ⟨L, hL⟩ : ∃ L, L = cs.length := ⟨_, rfl⟩
  have HL := hide hL
  rw [← hL] at hl ⊢
  clear h hL
  go_enter Try.func31, Try.ntmps31
  go_wp2_with fail
  go_loopw [9] (fun x wr => ∃ k : Nat, k ≤ L ∧ x = .int .i64 (k : Int) ∧ Hid (cgO (cs.drop k) v2 = cgO cs v2) ∧ Below w.heap.size w wr) (fun x _ => L - (intOf x).toNat)
  case atStart => exact ⟨0, by omega, rfl, by simp [Hid], Below.refl _ _⟩
  case round =>
    obtain ⟨k, hk, rfl, he, hb⟩ := hrel
    by_cases hlt : k < L
    · obtain ⟨g, o, rfl, -, e0, e1, e2, e3, e4⟩ := HA.out wr hb k (by rw [← HL.out]; exact hlt)
      have hg := HG.out k (by rw [← HL.out]; exact hlt)
      rw [hg] at e0 e1 e2 e3 e4
      have hbb := hide hb
      have hy := HY.out k (by rw [← HL.out]; exact hlt)
      have hn := HN.out k (by rw [← HL.out]; exact hlt)
      obtain ⟨c, hc⟩ : ∃ x, x = cs.getD k default := ⟨_, rfl⟩
      rw [← hc] at e0 e1 e2 e3 e4 hy hn
      obtain ⟨x0, x1, x2, x3, x4⟩ := c
      simp only at e0 e1 e2 e3 e4 hy hn
      clear hb hg hc
      by_cases hq : x1 = v2
      · have hs := hide (hy hq)
        have t0 : (x1 == v2) = true := by simp [hq]
        clear hq hy hn
        go_wp2_with fail
        go_ret
        exact ⟨by rw [← he.out, hs.out]; rfl, hbb.out.alloc hbb.out.size _⟩
      · have hs := hide (hn hq)
        have t0 : (x1 == v2) = false := by simp [hq]
        clear hq hy hn
        go_wp2_with fail
        exact ⟨⟨k + 1, by omega, by go_num, hs.out.symm.trans he.out, hbb.out.alloc hbb.out.size _⟩, by simp [intOf]; omega⟩
    · have hkL : k = L := by omega
      subst hkL
      have he := hide (show cgO cs v2 = -1 by rw [← he.out, HL.out, List.drop_length]; rfl)
      go_wp2_with fail
      go_ret
      exact ⟨by rw [he.out]; rfl, hb⟩

theorem sTo2_any (v : Value) (cs : List Chg) (B : Nat) (w : World) (h : Cgs w B v cs) (hB : B ≤ w.heap.size) (hl : cs.length ≤ 1048576) :
    Calls Try.prog 26 #[v] w (RetI1 w (cgW cs cs.length)) := by
  have C := hide (sTot_any v cs B w h hB hl)
  clear h
  go_enter Try.func26, Try.ntmps26
  go_wp2_with fail
  go_at_call 39
  refine C.out.mono ?_
  rintro e w1 ⟨rfl, hb⟩
  go_wp2_with fail
  go_ret
  exact ⟨rfl, hb⟩

end Go.Proofs.Ytdjhnamofmcmjaa
