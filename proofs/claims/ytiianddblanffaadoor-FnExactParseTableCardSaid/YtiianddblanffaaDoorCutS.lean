/- What l2Cut and l2Num of the reference return. -/
import Derived.Test.YtiianddblanffaaDoorFmtI
import Derived.Test.YtiianddblanffaaDoorParT
namespace Go.Proofs.YtiianddblanffaaDoor
open Go.RowKit Go.ChangeShapes
set_option linter.unusedSimpArgs false
set_option linter.unusedVariables false
set_option maxRecDepth 100000

/-- out = append(out, b): b lies in a block of one cell that was just made. -/
theorem ss_append {P : Program} (W : World) {ops : Array Oper} {rest : List Oper} {o : Oper} {a : Act} {Q : Exit → Act → World → Prop} (hgd : o.guard = none) (s x : Operand) (t : TypeId)
    (ho : o.op = .call { callee := .builtin .append, args := #[s, x], argTypes := #[t, t] })
    (base : Nat) (e : TypeId) (ht : P.underlying t = some (.slice e)) (hinf : (P.info? e).map (fun i => (i.zero, i.size, i.bytes)) = some (some (.string ⟨#[]⟩), 1, 16))
    (v : Value) (l : List ByteArray) (hown : Ss W base e v l) (hs : a.eval s = v) (b : ByteArray) (c : Nat)
    (hx : a.eval x = .slice (some ⟨W.heap.size, 0, none⟩) 1 c) (hlen : l.length < 1099511627776) (hbase : base ≤ W.heap.size)
    (h : ∀ v' w', Ss w' base e v' (l ++ [b]) → Below base W w' → wpList P ops Q rest (a.put o.dst v') w') :
    wpList P ops Q (o :: rest) a (W.alloc (.cells #[.string b] e)) := by
  obtain ⟨i0, hi, hz0, hz1, hz2⟩ := info_parts hinf
  refine wpList_append_own _ hgd s x t ho base e i0 (.string ⟨#[]⟩) 1 16 ht hi hz0 hz1 hz2 rfl (by decide) v l.length (l.map Value.string) hs (hown.alloc _) ⟨W.heap.size, 0, none⟩ 1 c [.string b] hx rfl ?_ ?_ ?_ ?_ ?_ ?_
  · intro j u hj
    match j, hj with
    | 0, hj => simp at hj; subst hj; simp [Addr.add]
  · intro u hu; simp at hu; subst hu; rfl
  · unfold maxLen; omega
  · omega
  · simp; omega
  · intro v' w' hown' hgrow _
    refine h v' w' ?_ ?_
    · unfold Ss
      rw [List.map_append, List.length_append]
      exact hown'
    · exact (((Below.refl base W).alloc hbase _).grown hgrow (by simp; omega) (fun k hk => (World.ownsRow.lt hown k hk).1))

theorem extract_one (s : ByteArray) (k : Nat) (h : k < s.size) : s.extract k (k + 1) = ⟨#[s[k]]⟩ := by
  apply ByteArray.ext
  apply Array.toList_inj.1
  have hk : k < s.data.toList.length := by simpa using h
  rw [Lib.extract_data]
  rw [show k + 1 - k = 1 by omega, List.drop_eq_getElem_cons hk]
  simp
  rfl

theorem take_snocB (s : ByteArray) (k : Nat) (h : k < s.size) : s.data.toList.take (k + 1) = s.data.toList.take k ++ [s[k]] := by
  have hk : k < s.data.toList.length := by simpa using h
  rw [List.take_succ_eq_append_getElem hk]
  rfl

theorem cutP_len (c : UInt8) (l : List UInt8) : (cutP c ([], []) l).1.length ≤ l.length ∧ (cutP c ([], []) l).2.length ≤ l.length := by
  have key : ∀ (l : List UInt8) (p : List (List UInt8) × List UInt8), (cutP c p l).1.length ≤ p.1.length + l.length ∧ (cutP c p l).2.length ≤ p.2.length + l.length := by
    intro l
    induction l with
    | nil => intro p; simp [cutP]
    | cons x l ih =>
      intro p
      have := ih (cutStep c p x)
      simp only [cutP, List.foldl_cons] at this ⊢
      unfold cutStep at this ⊢
      split at this
      · rename_i hx
        rw [if_pos hx]
        simp at this ⊢
        omega
      · rename_i hx
        rw [if_neg hx]
        simp at this ⊢
        omega
  simpa using key l ([], [])

set_option maxHeartbeats 2000000 in
theorem sCut_any (s : ByteArray) (c : UInt8) (x : Int) (hxc : x = (c.toNat : Int)) (w : World) (hs : s.size ≤ 1048576) :
    Calls Tryd.prog 26 #[.string s, .int .u8 x] w (RetSs w (wB (cutL c s.data.toList))) := by
  obtain ⟨res, hres⟩ : ∃ res, res = wB (cutL c s.data.toList) := ⟨_, rfl⟩
  have HRES := hide hres
  have HXC := hide hxc
  rw [← hres]
  clear hres hxc
  have H0 := hide (show Ss (w.alloc (.cells #[] 9)) w.heap.size 9 (.slice (some ⟨w.heap.size, 0, none⟩) 0 0) [] from World.ownsRow_made w #[] 0 (Nat.le_refl _) (by unfold maxLen; omega) rfl)
  have B0 := hide ((Below.refl w.heap.size w).alloc (Nat.le_refl _) (.cells #[] 9))
  go_enter Tryd.func26, Tryd.ntmps26
  go_wp2_with fail
  go_loopw [5, 6, 7] (fun out part i wr => ∃ (k : Nat) (ws : List (List UInt8)) (p : List UInt8), k ≤ s.size ∧ i = .int .i64 k ∧ part = .string ⟨p.toArray⟩ ∧ Hid ((ws, p) = cutP c ([], []) (s.data.toList.take k)) ∧ ws.length ≤ k ∧ p.length ≤ k ∧ Hid (Ss wr w.heap.size 9 out (wB ws)) ∧ Hid (Below w.heap.size w wr)) (fun _ _ i _ => s.size - (intOf i).toNat)
  case atStart => exact ⟨0, [], [], by omega, rfl, rfl, by show _ = _; simp [cutP], by simp, by simp, H0.out, B0.out⟩
  case round =>
    clear H0 B0
    obtain ⟨k, ws, p, hk, rfl, rfl, hp, hwl, hpl, ho, hb⟩ := hrel
    by_cases hlt : k < s.size
    · have hsn := take_snocB s k hlt
      have hnext : cutP c ([], []) (s.data.toList.take (k + 1)) = cutStep c (ws, p) s[k] := by rw [hsn, cutP_snoc, ← hp.out]
      have HN := hide hnext
      have HEX := hide (extract_one s k hlt)
      clear hsn hnext
      by_cases hc : s[k] = c
      · have ht : ((s[k].toNat : Int) == x) = true := by rw [HXC.out, hc]; simp
        have HC := hide hc
        clear hc
        go_wp2_with (first | (at_builtin; refine ss_append _ rfl _ _ 45 rfl w.heap.size 9 Tryd.underlying45 infoStr _ (wB ws) ho.out rfl ⟨p.toArray⟩ 1 rfl (by rw [wB_length]; omega) hb.out.size ?_; intro v' w' hown hbb))
        have B1 := hide (hb.out.trans hbb)
        have O1 := hide (show Ss w' w.heap.size 9 v' (wB (ws ++ [p])) by simpa [wB] using hown)
        clear hown hbb
        go_roundw
        case rel =>
          refine ⟨k + 1, ws ++ [p], [], by omega, by go_num, rfl, ?_, by simp; omega, by simp, O1.out, B1.out⟩
          show _ = _
          rw [HN.out, cutStep, if_pos HC.out]
        case measure => simp [intOf]; omega
      · have ht : ((s[k].toNat : Int) == x) = false := by
          rw [HXC.out, beq_eq_false_iff_ne]
          intro e
          exact hc (UInt8.toNat_inj.1 (by omega))
        have HC := hide hc
        clear hc
        go_wp2_with fail
        go_roundw
        case rel =>
          refine ⟨k + 1, ws, p ++ [s[k]], by omega, by go_num, ?_, ?_, by omega, by simp; omega, ho.out, hb.out⟩
          · rw [HEX.out]
            exact congrArg Value.string (str_app p [s[k]])
          · show _ = _
            rw [HN.out, cutStep, if_neg HC.out]
        case measure => simp [intOf]; omega
    · have hke : k = s.size := by omega
      subst hke
      have HF := hide (show res = wB (ws ++ [p]) by
        rw [HRES.out, cutL]
        have h1 := hp.out
        rw [List.take_of_length_le (by simp)] at h1
        rw [← h1])
      go_wp2_with (first | (at_builtin; refine ss_append _ rfl _ _ 45 rfl w.heap.size 9 Tryd.underlying45 infoStr _ (wB ws) ho.out rfl ⟨p.toArray⟩ 1 rfl (by rw [wB_length]; omega) hb.out.size ?_; intro v' w' hown hbb))
      have B1 := hide (hb.out.trans hbb)
      have O1 := hide (show Ss w' w.heap.size 9 v' (wB (ws ++ [p])) by simpa [wB] using hown)
      clear hown hbb
      go_ret
      exact ⟨v', rfl, by rw [HF.out]; exact O1.out, B1.out⟩

theorem sNum_any (s : ByteArray) (w : World) (hs : s.size ≤ 1048576) :
    Calls Tryd.prog 27 #[.string s] w (RetI1 w (numP s.data.toList)) := by
  obtain ⟨⟨x, t⟩, hd⟩ : ∃ p, p = ParI s.data.toList := ⟨_, rfl⟩
  have HS := hide (sPI_any s w hs)
  have hn : numP s.data.toList = if t = true then x else -100000 := by unfold numP; rw [← hd]
  rw [hn]
  rw [← hd] at HS
  clear hd hn
  cases t
  all_goals
    go_enter Tryd.func27, Tryd.ntmps27
    go_wp2_with (go_at_call 46; refine HS.out.mono ?_; rintro e wa ⟨rfl, ha⟩)
    go_ret
    exact ⟨rfl, ha⟩

end Go.Proofs.YtiianddblanffaaDoor
