/-
  No cell of these rows narrows 'for every input' (looked for: loops, veiled, ifaces, maps, wideKeys, modest, calm, conditions, laid).
  DERIVED. THE GIVEN ROWS OF THIS SEAT. 5 by the template 'for every input the law returns true; each argument reads behind the call as it read before'; 0 by the template 'total and deterministic' (their statements: YtdjhnamofmcmjaaTotals.lean).
  GIVEN WITH THE SEED: the statements are not yours to turn. If you find one false, say at which input.
  Laid BY PROGRAM, IN A SANDBOX (cutbox-rows.mjs): the forced cells as the released guide's own fill.sh prints them over the translation 1a1c56b5ed2d6fe6… (all of the seat's roots in one cut). By AI agents, Wed Nov 11 2026. No macro, syntax, notation, axiom, sorry.
-/
import Derived.Test.YtdjhnamofmcmjaaChecked
import GoSem.Claim
import GoSem.ClaimJoined
import GoSem.ClaimMapViews
import Derived.JoinedTies
import Derived.KernelRfl
namespace Go.Proofs.Ytdjhnamofmcmjaa
/- THE CELL 'sum', in the pinned program and in every row, IS THE sha256 OF THE DUMP (.gsa) THAT YtdjhnamofmcmjaaProg.lean LOADS. Nothing in Lean hashes anything: it is a label: what it is worth is what the hold of that sum in a sandbox is worth. -/
noncomputable def Try.pinned : Pinned := { name := "ytdjhnamofmcmjaa", sum := "1a1c56b5ed2d6fe6f6e9ea3a4ae57832303ee629578b77898a1c1153985e7668", checked := Try.checked }
namespace Rows
def none {H : Type} : Left H := { results := [], args := [] }

/-- 'laws.FnExactCrackWith': WHATEVER THE INPUT: true; the input reads as it did. -/
def fnExactCrackWithSpec : ChangeSpec := { name := "fnExactCrackWith", fn := fun _ => fun
  | [d1, d2, d3] => { results := [.lit (.bool true)], args := [d1, d2, d3] }
  | _ => none }
def fnExactCrackWithRow : OpenClaim := { program := "ytdjhnamofmcmjaa", sum := "1a1c56b5ed2d6fe6f6e9ea3a4ae57832303ee629578b77898a1c1153985e7668", func := "loop.example/g01984/laws.FnExactCrackWith", spec := "fnExactCrackWith", inPlace := ["slices.overlaps[loop.example/g01984/impl.Pivot]"], unfollowed := true, recurses := true, apart := false }
def FnExactCrackWithSaid : Prop := fnExactCrackWithRow.holds Try.pinned (OpenSpec.ofChange fnExactCrackWithSpec)

/-- ITS FALSE NEIGHBOUR: 'it returns false'. Refute it at one input. -/
def fnExactCrackWithWrong : ChangeSpec := { name := "fnExactCrackWith", fn := fun _ => fun
  | [d1, d2, d3] => { results := [.lit (.bool false)], args := [d1, d2, d3] }
  | _ => none }
def FnExactCrackWithWrongFalsely : Prop := fnExactCrackWithRow.holds Try.pinned (OpenSpec.ofChange fnExactCrackWithWrong)

/-- 'laws.FnExactReplayLedger': WHATEVER THE INPUT: true; the input reads as it did. -/
def fnExactReplayLedgerSpec : ChangeSpec := { name := "fnExactReplayLedger", fn := fun _ => fun
  | [d1, d2] => { results := [.lit (.bool true)], args := [d1, d2] }
  | _ => none }
def fnExactReplayLedgerRow : OpenClaim := { program := "ytdjhnamofmcmjaa", sum := "1a1c56b5ed2d6fe6f6e9ea3a4ae57832303ee629578b77898a1c1153985e7668", func := "loop.example/g01984/laws.FnExactReplayLedger", spec := "fnExactReplayLedger", inPlace := ["slices.overlaps[loop.example/g01984/impl.Pivot]"], unfollowed := true, recurses := true, apart := false }
def FnExactReplayLedgerSaid : Prop := fnExactReplayLedgerRow.holds Try.pinned (OpenSpec.ofChange fnExactReplayLedgerSpec)

/-- ITS FALSE NEIGHBOUR: 'it returns false'. Refute it at one input. -/
def fnExactReplayLedgerWrong : ChangeSpec := { name := "fnExactReplayLedger", fn := fun _ => fun
  | [d1, d2] => { results := [.lit (.bool false)], args := [d1, d2] }
  | _ => none }
def FnExactReplayLedgerWrongFalsely : Prop := fnExactReplayLedgerRow.holds Try.pinned (OpenSpec.ofChange fnExactReplayLedgerWrong)

/-- 'laws.FnExactTotalSwaps': WHATEVER THE INPUT: true; the input reads as it did. -/
def fnExactTotalSwapsSpec : ChangeSpec := { name := "fnExactTotalSwaps", fn := fun _ => fun
  | [d] => { results := [.lit (.bool true)], args := [d] }
  | _ => none }
def fnExactTotalSwapsRow : OpenClaim := { program := "ytdjhnamofmcmjaa", sum := "1a1c56b5ed2d6fe6f6e9ea3a4ae57832303ee629578b77898a1c1153985e7668", func := "loop.example/g01984/laws.FnExactTotalSwaps", spec := "fnExactTotalSwaps", apart := false }
def FnExactTotalSwapsSaid : Prop := fnExactTotalSwapsRow.holds Try.pinned (OpenSpec.ofChange fnExactTotalSwapsSpec)

/-- ITS FALSE NEIGHBOUR: 'it returns false'. Refute it at one input. -/
def fnExactTotalSwapsWrong : ChangeSpec := { name := "fnExactTotalSwaps", fn := fun _ => fun
  | [d] => { results := [.lit (.bool false)], args := [d] }
  | _ => none }
def FnExactTotalSwapsWrongFalsely : Prop := fnExactTotalSwapsRow.holds Try.pinned (OpenSpec.ofChange fnExactTotalSwapsWrong)

/-- 'laws.FnExactSwapsOf': WHATEVER THE INPUT: true; the input reads as it did. -/
def fnExactSwapsOfSpec : ChangeSpec := { name := "fnExactSwapsOf", fn := fun _ => fun
  | [d1, d2] => { results := [.lit (.bool true)], args := [d1, d2] }
  | _ => none }
def fnExactSwapsOfRow : OpenClaim := { program := "ytdjhnamofmcmjaa", sum := "1a1c56b5ed2d6fe6f6e9ea3a4ae57832303ee629578b77898a1c1153985e7668", func := "loop.example/g01984/laws.FnExactSwapsOf", spec := "fnExactSwapsOf", apart := false }
def FnExactSwapsOfSaid : Prop := fnExactSwapsOfRow.holds Try.pinned (OpenSpec.ofChange fnExactSwapsOfSpec)

/-- ITS FALSE NEIGHBOUR: 'it returns false'. Refute it at one input. -/
def fnExactSwapsOfWrong : ChangeSpec := { name := "fnExactSwapsOf", fn := fun _ => fun
  | [d1, d2] => { results := [.lit (.bool false)], args := [d1, d2] }
  | _ => none }
def FnExactSwapsOfWrongFalsely : Prop := fnExactSwapsOfRow.holds Try.pinned (OpenSpec.ofChange fnExactSwapsOfWrong)

/-- 'laws.FnExactOwnerOf': WHATEVER THE INPUT: true; the input reads as it did. -/
def fnExactOwnerOfSpec : ChangeSpec := { name := "fnExactOwnerOf", fn := fun _ => fun
  | [d1, d2] => { results := [.lit (.bool true)], args := [d1, d2] }
  | _ => none }
def fnExactOwnerOfRow : OpenClaim := { program := "ytdjhnamofmcmjaa", sum := "1a1c56b5ed2d6fe6f6e9ea3a4ae57832303ee629578b77898a1c1153985e7668", func := "loop.example/g01984/laws.FnExactOwnerOf", spec := "fnExactOwnerOf", apart := false }
def FnExactOwnerOfSaid : Prop := fnExactOwnerOfRow.holds Try.pinned (OpenSpec.ofChange fnExactOwnerOfSpec)

/-- ITS FALSE NEIGHBOUR: 'it returns false'. Refute it at one input. -/
def fnExactOwnerOfWrong : ChangeSpec := { name := "fnExactOwnerOf", fn := fun _ => fun
  | [d1, d2] => { results := [.lit (.bool false)], args := [d1, d2] }
  | _ => none }
def FnExactOwnerOfWrongFalsely : Prop := fnExactOwnerOfRow.holds Try.pinned (OpenSpec.ofChange fnExactOwnerOfWrong)

/- THE SECOND FORM. 'bulk': how many values and letters a reading holds, each counted each time it is reached (what is shared counts as often as it is met; a slice's spare places count too). A statement '..UptoSaid' is the law's where the arguments, and the package variables that the reading takes, are together of bulk at most 1048576: NARROWER than '..Said'. Prove '..Said' where nothing that the law and all that it calls make is longer than what came in: it says more and counts as full. Else prove '..UptoSaid'. A law counts once. -/
mutual
def uptoBulk {H : Type} : DataW H → Nat
  | .lit (.string bytes) => bytes.length + 1
  | .lit _ => 1
  | .nil => 1
  | .ptr d => uptoBulk d + 1
  | .slice elems spare => uptoBulkAll elems + uptoBulkAll spare + 1
  | .agg parts => uptoBulkAll parts + 1
  | .iface _ d => uptoBulk d + 1
  | .map entries => uptoBulkEntries entries + 1
  | .held _ => 1
def uptoBulkAll {H : Type} : List (DataW H) → Nat
  | [] => 0
  | d :: r => uptoBulk d + uptoBulkAll r
def uptoBulkEntries {H : Type} : List (Lit × DataW H) → Nat
  | [] => 0
  | x :: r => uptoBulkEntry x + uptoBulkEntries r
def uptoBulkEntry {H : Type} : Lit × DataW H → Nat
  | (.string bytes, d) => bytes.length + uptoBulk d + 1
  | (_, d) => uptoBulk d + 1
 end
def uptoSmall : (H : Type) → List (DataW H) → Bool := fun _ ds => decide (uptoBulkAll ds ≤ 1048576)
def OpenSpec.upto (s : _root_.Go.ChangeSpec) : _root_.Go.OpenSpec := { _root_.Go.OpenSpec.ofChange s with cond := some uptoSmall }

/-- 'laws.FnExactCrackWith', WHERE WHAT IT READS IS OF BULK AT MOST 1048576: true; the input reads as it did. -/
def fnExactCrackWithUptoRow : OpenClaim := { program := "ytdjhnamofmcmjaa", sum := "1a1c56b5ed2d6fe6f6e9ea3a4ae57832303ee629578b77898a1c1153985e7668", func := "loop.example/g01984/laws.FnExactCrackWith", spec := "fnExactCrackWith", inPlace := ["slices.overlaps[loop.example/g01984/impl.Pivot]"], unfollowed := true, recurses := true, apart := false, narrowed := true }
def FnExactCrackWithUptoSaid : Prop := fnExactCrackWithUptoRow.holds Try.pinned (OpenSpec.upto fnExactCrackWithSpec)

/-- 'laws.FnExactReplayLedger', WHERE WHAT IT READS IS OF BULK AT MOST 1048576: true; the input reads as it did. -/
def fnExactReplayLedgerUptoRow : OpenClaim := { program := "ytdjhnamofmcmjaa", sum := "1a1c56b5ed2d6fe6f6e9ea3a4ae57832303ee629578b77898a1c1153985e7668", func := "loop.example/g01984/laws.FnExactReplayLedger", spec := "fnExactReplayLedger", inPlace := ["slices.overlaps[loop.example/g01984/impl.Pivot]"], unfollowed := true, recurses := true, apart := false, narrowed := true }
def FnExactReplayLedgerUptoSaid : Prop := fnExactReplayLedgerUptoRow.holds Try.pinned (OpenSpec.upto fnExactReplayLedgerSpec)

/-- 'laws.FnExactTotalSwaps', WHERE WHAT IT READS IS OF BULK AT MOST 1048576: true; the input reads as it did. -/
def fnExactTotalSwapsUptoRow : OpenClaim := { program := "ytdjhnamofmcmjaa", sum := "1a1c56b5ed2d6fe6f6e9ea3a4ae57832303ee629578b77898a1c1153985e7668", func := "loop.example/g01984/laws.FnExactTotalSwaps", spec := "fnExactTotalSwaps", apart := false, narrowed := true }
def FnExactTotalSwapsUptoSaid : Prop := fnExactTotalSwapsUptoRow.holds Try.pinned (OpenSpec.upto fnExactTotalSwapsSpec)

/-- 'laws.FnExactSwapsOf', WHERE WHAT IT READS IS OF BULK AT MOST 1048576: true; the input reads as it did. -/
def fnExactSwapsOfUptoRow : OpenClaim := { program := "ytdjhnamofmcmjaa", sum := "1a1c56b5ed2d6fe6f6e9ea3a4ae57832303ee629578b77898a1c1153985e7668", func := "loop.example/g01984/laws.FnExactSwapsOf", spec := "fnExactSwapsOf", apart := false, narrowed := true }
def FnExactSwapsOfUptoSaid : Prop := fnExactSwapsOfUptoRow.holds Try.pinned (OpenSpec.upto fnExactSwapsOfSpec)

/-- 'laws.FnExactOwnerOf', WHERE WHAT IT READS IS OF BULK AT MOST 1048576: true; the input reads as it did. -/
def fnExactOwnerOfUptoRow : OpenClaim := { program := "ytdjhnamofmcmjaa", sum := "1a1c56b5ed2d6fe6f6e9ea3a4ae57832303ee629578b77898a1c1153985e7668", func := "loop.example/g01984/laws.FnExactOwnerOf", spec := "fnExactOwnerOf", apart := false, narrowed := true }
def FnExactOwnerOfUptoSaid : Prop := fnExactOwnerOfUptoRow.holds Try.pinned (OpenSpec.upto fnExactOwnerOfSpec)

end Rows
end Go.Proofs.Ytdjhnamofmcmjaa
