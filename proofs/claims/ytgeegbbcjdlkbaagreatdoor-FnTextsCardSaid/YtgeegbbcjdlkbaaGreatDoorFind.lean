/- What FindColumn returns: of the reference and of the program (promise 2). -/
import Derived.Test.YtgeegbbcjdlkbaaGreatDoorTblIn
namespace Go.Proofs.YtgeegbbcjdlkbaaGreatDoor
open Go.RowKit Go.ChangeShapes
set_option linter.unusedSimpArgs false
set_option linter.unusedVariables false
set_option maxRecDepth 100000

/-- The first column of a name, or -1. -/
def findC (cs : List Col) (n : ByteArray) : Int := match cs.findIdx? (fun c => decide (c.1 = n)) with | some i => i | none => -1

theorem findC_at {cs : List Col} {n : ByteArray} {k : Nat} (hk : k < cs.length) (he : cs[k].1 = n) (hp : ∀ j (_ : j < k) (h : j < cs.length), cs[j].1 ≠ n) : findC cs n = k := by
  have h : cs.findIdx? (fun c => decide (c.1 = n)) = some k := by
    rw [List.findIdx?_eq_some_iff_getElem]
    exact ⟨hk, by simp [he], fun j hj => by simpa using hp j hj (by omega)⟩
  simp [findC, h]

theorem findC_no {cs : List Col} {n : ByteArray} (hp : ∀ j (h : j < cs.length), cs[j].1 ≠ n) : findC cs n = -1 := by
  have h : cs.findIdx? (fun c => decide (c.1 = n)) = none := by
    rw [List.findIdx?_eq_none_iff]
    intro x hx
    obtain ⟨j, hj, rfl⟩ := List.getElem_of_mem hx
    simpa using hp j hj
  simp [findC, h]

theorem findC_range (cs : List Col) (n : ByteArray) : -1 ≤ findC cs n ∧ findC cs n < cs.length ∧ (0 ≤ findC cs n → ∃ k : Nat, k < cs.length ∧ findC cs n = k) := by
  unfold findC
  cases h : cs.findIdx? (fun c => decide (c.1 = n)) with
  | none => simp; omega
  | some i =>
    rw [List.findIdx?_eq_some_iff_getElem] at h
    obtain ⟨hi, _⟩ := h
    exact ⟨by show (-1 : Int) ≤ (i : Int); omega, by show (i : Int) < cs.length; omega, fun _ => ⟨i, hi, rfl⟩⟩

theorem ne_step {cs : List Col} {n : ByteArray} {k : Nat} {c : Col} (hp : ∀ j (_ : j < k) (h : j < cs.length), cs[j].1 ≠ n) (hk : k < cs.length) (hc : c = cs[k]) (he : c.1 ≠ n) : ∀ j (_ : j < k + 1) (h : j < cs.length), cs[j].1 ≠ n := by
  intro j hj h
  by_cases hjk : j = k
  · subst hjk; rw [← hc]; exact he
  · exact hp j (by omega) h

theorem str_ne {n m : ByteArray} (h : n ≠ m) : (n.toList == m.toList) = false := by rw [beq_eq_false_iff_ne]; exact fun hh => h (bytes_inj hh)

set_option maxHeartbeats 1000000 in
theorem sFind_any (v : Value) (cs : List Col) (n : ByteArray) (w : World) (B : Nat) (hv : Tbl w B v cs) (hB : B ≤ w.heap.size) (hn : n.size ≤ 9223372036854775807) :
    Calls Tryz.prog 27 #[v, .string n] w (RetI1 w (findC cs n)) := by
  obtain ⟨u, rfl, hu⟩ := hv
  obtain ⟨a, cap, rfl, hlen, hcell⟩ := hu
  have HC := hide hcell
  clear hcell
  obtain ⟨z, hz⟩ : ∃ z, z = findC cs n := ⟨_, rfl⟩
  have HZ := hide hz
  rw [← hz]
  clear hz
  have tcell := cell_new w #[.slice a cs.length cap] 26 0
  go_enter Tryz.func27, Tryz.ntmps27
  go_wp2
  go_loopw [5] (fun i wr => ∃ (k : Nat), k ≤ cs.length ∧ i = .int .i64 k ∧ Hid (∀ j (_ : j < k) (h : j < cs.length), cs[j].1 ≠ n) ∧ Below w.heap.size w wr ∧ wr.cell? ⟨w.heap.size, 0, none⟩ = some (.slice a cs.length cap)) (fun i _ => cs.length - (intOf i).toNat)
  case atStart => exact ⟨0, by omega, rfl, fun j hj => by omega, (Below.refl _ _).alloc (Nat.le_refl _) _, tcell⟩
  case round =>
    clear tcell
    obtain ⟨k, hk, rfl, hpre, hb, tc⟩ := hrel
    by_cases hlt : k < cs.length
    · obtain ⟨b, o, u, rfl, hbB, hc, hc2, hs, hi⟩ := HC.out k hlt
      obtain ⟨c, hcc⟩ : ∃ c, c = cs[k] := ⟨_, rfl⟩
      rw [← hcc] at hc hs
      obtain ⟨m, l⟩ := c
      simp only at hc hs
      have d1 : wr.cell? ⟨b, o + k * 2, none⟩ = some (.string m) := by rw [hb.cell (p := ⟨b, o + k * 2, none⟩) (Nat.lt_of_lt_of_le hbB hB)]; exact hc
      have HCC := hide hcc
      have HB := hide hb
      clear hc hc2 hi hcc hb
      by_cases he : m = n
      · have ht : (m.toList == n.toList) = true := by subst he; simp
        have hfin := hide (show z = k by rw [HZ.out]; exact findC_at hlt (by rw [← HCC.out]; exact he) hpre.out)
        clear he
        go_wp2
        go_ret
        exact ⟨by rw [hfin.out]; rfl, HB.out⟩
      · have ht := str_ne he
        have hstep := hide (ne_step hpre.out hlt HCC.out he)
        clear he
        go_wp2
        go_roundw
        case rel => exact ⟨k + 1, by omega, by go_num, hstep, HB.out, tc⟩
        case measure => simp [intOf]; omega
    · have hke : k = cs.length := by omega
      subst hke
      have hfin := hide (show z = -1 by rw [HZ.out]; exact findC_no fun j h => hpre.out j h h)
      go_wp2
      go_ret
      exact ⟨by rw [hfin.out]; rfl, hb⟩

set_option maxHeartbeats 1000000 in
theorem iFind_any (v : Value) (cs : List Col) (n : ByteArray) (w : World) (B : Nat) (hv : Tbl w B v cs) (hB : B ≤ w.heap.size) (hn : n.size ≤ 9223372036854775807) :
    Calls Tryz.prog 26 #[v, .string n] w (RetI1 w (findC cs n)) := by
  obtain ⟨u, rfl, hu⟩ := hv
  obtain ⟨a, cap, rfl, hlen, hcell⟩ := hu
  have HC := hide hcell
  clear hcell
  obtain ⟨z, hz⟩ : ∃ z, z = findC cs n := ⟨_, rfl⟩
  have HZ := hide hz
  rw [← hz]
  clear hz
  go_enter Tryz.func26, Tryz.ntmps26
  go_wp2
  go_loopw [10] (fun i wr => ∃ (k : Nat), k ≤ cs.length ∧ i = .int .i64 k ∧ Hid (∀ j (_ : j < k) (h : j < cs.length), cs[j].1 ≠ n) ∧ Below w.heap.size w wr) (fun i _ => cs.length - (intOf i).toNat)
  case atStart => exact ⟨0, by omega, rfl, fun j hj => by omega, (Below.refl _ _).alloc (Nat.le_refl _) _⟩
  case round =>
    obtain ⟨k, hk, rfl, hpre, hb⟩ := hrel
    by_cases hlt : k < cs.length
    · obtain ⟨b, o, u, rfl, hbB, hc, hc2, hs, hi⟩ := HC.out k hlt
      obtain ⟨c, hcc⟩ : ∃ c, c = cs[k] := ⟨_, rfl⟩
      rw [← hcc] at hc hs hi
      obtain ⟨m, l⟩ := c
      simp only at hc hs hi
      have d1 : wr.cell? ⟨b, o + k * 2, none⟩ = some (.string m) := by rw [hb.cell (p := ⟨b, o + k * 2, none⟩) (Nat.lt_of_lt_of_le hbB hB)]; exact hc
      have d2 : wr.cell? ⟨b, o + k * 2 + 1, none⟩ = some u := by rw [hb.cell (p := ⟨b, o + k * 2 + 1, none⟩) (Nat.lt_of_lt_of_le hbB hB)]; exact hc2
      obtain ⟨a3, c3, rfl, -, -, -⟩ := hi
      have HCC := hide hcc
      have HB := hide hb
      clear hc hc2 hcc hb
      by_cases he : m = n
      · have ht : (m.toList == n.toList) = true := by subst he; simp
        have hfin := hide (show z = k by rw [HZ.out]; exact findC_at hlt (by rw [← HCC.out]; exact he) hpre.out)
        clear he
        go_wp2
        go_ret
        exact ⟨by rw [hfin.out]; rfl, HB.out.alloc HB.out.size _⟩
      · have ht := str_ne he
        have hstep := hide (ne_step hpre.out hlt HCC.out he)
        clear he
        go_wp2
        go_roundw
        case rel => exact ⟨k + 1, by omega, by go_num, hstep, HB.out.alloc HB.out.size _⟩
        case measure => simp [intOf]; omega
    · have hke : k = cs.length := by omega
      subst hke
      have hfin := hide (show z = -1 by rw [HZ.out]; exact findC_no fun j h => hpre.out j h h)
      go_wp2
      go_ret
      exact ⟨by rw [hfin.out]; rfl, hb⟩

end Go.Proofs.YtgeegbbcjdlkbaaGreatDoor
