/- What l2Cut and l2Num of the reference return. -/
import Derived.Test.YtgeegbbcjdlkbaaGreatDoorFmtI
import Derived.Test.YtgeegbbcjdlkbaaGreatDoorParT
namespace Go.Proofs.YtgeegbbcjdlkbaaGreatDoor
open Go.RowKit Go.ChangeShapes
set_option linter.unusedSimpArgs false
set_option linter.unusedVariables false
set_option maxRecDepth 100000

/-- out = append(out, b): b lies in a block of one cell that was just made. -/
theorem ss_append {P : Program} (W : World) {ops : Array Oper} {rest : List Oper} {o : Oper} {a : Act} {Q : Exit → Act → World → Prop} (hgd : o.guard = none) (s x : Operand) (t : TypeId)
    (ho : o.op = .call { callee := .builtin .append, args := #[s, x], argTypes := #[t, t] })
    (base : Nat) (e : TypeId) (ht : P.underlying t = some (.slice e)) (hinf : (P.info? e).map (fun i => (i.zero, i.size, i.bytes)) = some (some (.string ⟨#[]⟩), 1, 16))
    (v : Value) (l : List ByteArray) (hown : Ss W base e v l) (hs : a.eval s = v) (b : ByteArray) (c : Nat)
    (hx : a.eval x = .slice (some ⟨W.heap.size, 0, none⟩) 1 c) (hlen : l.length < 1099511627776) (hbase : base ≤ W.heap.size)
    (h : ∀ v' w', Ss w' base e v' (l ++ [b]) → Below base W w' → wpList P ops Q rest (a.put o.dst v') w') :
    wpList P ops Q (o :: rest) a (W.alloc (.cells #[.string b] e)) := by
  obtain ⟨i0, hi, hz0, hz1, hz2⟩ := info_parts hinf
  refine wpList_append_own _ hgd s x t ho base e i0 (.string ⟨#[]⟩) 1 16 ht hi hz0 hz1 hz2 rfl (by decide) v l.length (l.map Value.string) hs (hown.alloc _) ⟨W.heap.size, 0, none⟩ 1 c [.string b] hx rfl ?_ ?_ ?_ ?_ ?_ ?_
  · intro j u hj
    match j, hj with
    | 0, hj => simp at hj; subst hj; simp [Addr.add]
  · intro u hu; simp at hu; subst hu; rfl
  · unfold maxLen; omega
  · omega
  · simp; omega
  · intro v' w' hown' hgrow _
    refine h v' w' ?_ ?_
    · unfold Ss
      rw [List.map_append, List.length_append]
      exact hown'
    · exact (((Below.refl base W).alloc hbase _).grown hgrow (by simp; omega) (fun k hk => (World.ownsRow.lt hown k hk).1))

theorem extract_one (s : ByteArray) (k : Nat) (h : k < s.size) : s.extract k (k + 1) = ⟨#[s[k]]⟩ := by
  apply ByteArray.ext
  apply Array.toList_inj.1
  have hk : k < s.data.toList.length := by simpa using h
  rw [Lib.extract_data]
  rw [show k + 1 - k = 1 by omega, List.drop_eq_getElem_cons hk]
  simp
  rfl

theorem take_snocB (s : ByteArray) (k : Nat) (h : k < s.size) : s.data.toList.take (k + 1) = s.data.toList.take k ++ [s[k]] := by
  have hk : k < s.data.toList.length := by simpa using h
  rw [List.take_succ_eq_append_getElem hk]
  rfl

theorem cutP_len (c : UInt8) (l : List UInt8) : (cutP c ([], []) l).1.length ≤ l.length ∧ (cutP c ([], []) l).2.length ≤ l.length := by
  have key : ∀ (l : List UInt8) (p : List (List UInt8) × List UInt8), (cutP c p l).1.length ≤ p.1.length + l.length ∧ (cutP c p l).2.length ≤ p.2.length + l.length := by
    intro l
    induction l with
    | nil => intro p; simp [cutP]
    | cons x l ih =>
      intro p
      have := ih (cutStep c p x)
      simp only [cutP, List.foldl_cons] at this ⊢
      unfold cutStep at this ⊢
      split at this
      · rename_i hx
        rw [if_pos hx]
        simp at this ⊢
        omega
      · rename_i hx
        rw [if_neg hx]
        simp at this ⊢
        omega
  simpa using key l ([], [])

end Go.Proofs.YtgeegbbcjdlkbaaGreatDoor
