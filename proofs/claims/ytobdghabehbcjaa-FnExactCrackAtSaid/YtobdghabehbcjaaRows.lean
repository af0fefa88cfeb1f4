/-
  No cell of these rows narrows 'for every input' (looked for: loops, veiled, ifaces, maps, wideKeys, modest, calm, conditions, laid).
  DERIVED. THE GIVEN ROWS OF THIS SEAT. 7 by the template 'for every input the law returns true; each argument reads behind the call as it read before'; 0 by the template 'total and deterministic' (their statements: YtobdghabehbcjaaTotals.lean).
  GIVEN WITH THE SEED: the statements are not yours to turn. If you find one false, say at which input.
  Laid BY PROGRAM, IN A SANDBOX (cutbox-rows.mjs): the forced cells as the released guide's own fill.sh prints them over the translation 8c29563a2b089708… (all of the seat's roots in one cut). By AI agents, Wed Nov 11 2026. No macro, syntax, notation, axiom, sorry.
-/
import Derived.Test.YtobdghabehbcjaaChecked
import GoSem.Claim
import GoSem.ClaimJoined
import GoSem.ClaimMapViews
import Derived.JoinedTies
import Derived.KernelRfl
namespace Go.Proofs.Ytobdghabehbcjaa
/- THE CELL 'sum', in the pinned program and in every row, IS THE sha256 OF THE DUMP (.gsa) THAT YtobdghabehbcjaaProg.lean LOADS. Nothing in Lean hashes anything: it is a label: what it is worth is what the hold of that sum in a sandbox is worth. -/
noncomputable def Try.pinned : Pinned := { name := "ytobdghabehbcjaa", sum := "8c29563a2b0897089c835a16eabe49373d7cca1b2dcae72aa526ffe0eba01a54", checked := Try.checked }
namespace Rows
def none {H : Type} : Left H := { results := [], args := [] }

/-- 'laws.FnPartitions': WHATEVER THE INPUT: true; the input reads as it did. -/
def fnPartitionsSpec : ChangeSpec := { name := "fnPartitions", fn := fun _ => fun
  | [d] => { results := [.lit (.bool true)], args := [d] }
  | _ => none }
def fnPartitionsRow : OpenClaim := { program := "ytobdghabehbcjaa", sum := "8c29563a2b0897089c835a16eabe49373d7cca1b2dcae72aa526ffe0eba01a54", func := "loop.example/g01984/laws.FnPartitions", spec := "fnPartitions", apart := false }
def FnPartitionsSaid : Prop := fnPartitionsRow.holds Try.pinned (OpenSpec.ofChange fnPartitionsSpec)

/-- ITS FALSE NEIGHBOUR: 'it returns false'. Refute it at one input. -/
def fnPartitionsWrong : ChangeSpec := { name := "fnPartitions", fn := fun _ => fun
  | [d] => { results := [.lit (.bool false)], args := [d] }
  | _ => none }
def FnPartitionsWrongFalsely : Prop := fnPartitionsRow.holds Try.pinned (OpenSpec.ofChange fnPartitionsWrong)

/-- 'laws.FnCracks': WHATEVER THE INPUT: true; the input reads as it did. -/
def fnCracksSpec : ChangeSpec := { name := "fnCracks", fn := fun _ => fun
  | [d] => { results := [.lit (.bool true)], args := [d] }
  | _ => none }
def fnCracksRow : OpenClaim := { program := "ytobdghabehbcjaa", sum := "8c29563a2b0897089c835a16eabe49373d7cca1b2dcae72aa526ffe0eba01a54", func := "loop.example/g01984/laws.FnCracks", spec := "fnCracks", inPlace := ["slices.overlaps[loop.example/g01984/impl.Pivot]"], apart := false }
def FnCracksSaid : Prop := fnCracksRow.holds Try.pinned (OpenSpec.ofChange fnCracksSpec)

/-- ITS FALSE NEIGHBOUR: 'it returns false'. Refute it at one input. -/
def fnCracksWrong : ChangeSpec := { name := "fnCracks", fn := fun _ => fun
  | [d] => { results := [.lit (.bool false)], args := [d] }
  | _ => none }
def FnCracksWrongFalsely : Prop := fnCracksRow.holds Try.pinned (OpenSpec.ofChange fnCracksWrong)

/-- 'laws.FnExactPartition': WHATEVER THE INPUT: true; the input reads as it did. -/
def fnExactPartitionSpec : ChangeSpec := { name := "fnExactPartition", fn := fun _ => fun
  | [d1, d2, d3, d4] => { results := [.lit (.bool true)], args := [d1, d2, d3, d4] }
  | _ => none }
def fnExactPartitionRow : OpenClaim := { program := "ytobdghabehbcjaa", sum := "8c29563a2b0897089c835a16eabe49373d7cca1b2dcae72aa526ffe0eba01a54", func := "loop.example/g01984/laws.FnExactPartition", spec := "fnExactPartition", apart := false }
def FnExactPartitionSaid : Prop := fnExactPartitionRow.holds Try.pinned (OpenSpec.ofChange fnExactPartitionSpec)

/-- ITS FALSE NEIGHBOUR: 'it returns false'. Refute it at one input. -/
def fnExactPartitionWrong : ChangeSpec := { name := "fnExactPartition", fn := fun _ => fun
  | [d1, d2, d3, d4] => { results := [.lit (.bool false)], args := [d1, d2, d3, d4] }
  | _ => none }
def FnExactPartitionWrongFalsely : Prop := fnExactPartitionRow.holds Try.pinned (OpenSpec.ofChange fnExactPartitionWrong)

/-- 'laws.FnExactApplySwaps': WHATEVER THE INPUT: true; the input reads as it did. -/
def fnExactApplySwapsSpec : ChangeSpec := { name := "fnExactApplySwaps", fn := fun _ => fun
  | [d1, d2] => { results := [.lit (.bool true)], args := [d1, d2] }
  | _ => none }
def fnExactApplySwapsRow : OpenClaim := { program := "ytobdghabehbcjaa", sum := "8c29563a2b0897089c835a16eabe49373d7cca1b2dcae72aa526ffe0eba01a54", func := "loop.example/g01984/laws.FnExactApplySwaps", spec := "fnExactApplySwaps", apart := false }
def FnExactApplySwapsSaid : Prop := fnExactApplySwapsRow.holds Try.pinned (OpenSpec.ofChange fnExactApplySwapsSpec)

/-- ITS FALSE NEIGHBOUR: 'it returns false'. Refute it at one input. -/
def fnExactApplySwapsWrong : ChangeSpec := { name := "fnExactApplySwaps", fn := fun _ => fun
  | [d1, d2] => { results := [.lit (.bool false)], args := [d1, d2] }
  | _ => none }
def FnExactApplySwapsWrongFalsely : Prop := fnExactApplySwapsRow.holds Try.pinned (OpenSpec.ofChange fnExactApplySwapsWrong)

/-- 'laws.FnExactUndoSwaps': WHATEVER THE INPUT: true; the input reads as it did. -/
def fnExactUndoSwapsSpec : ChangeSpec := { name := "fnExactUndoSwaps", fn := fun _ => fun
  | [d1, d2] => { results := [.lit (.bool true)], args := [d1, d2] }
  | _ => none }
def fnExactUndoSwapsRow : OpenClaim := { program := "ytobdghabehbcjaa", sum := "8c29563a2b0897089c835a16eabe49373d7cca1b2dcae72aa526ffe0eba01a54", func := "loop.example/g01984/laws.FnExactUndoSwaps", spec := "fnExactUndoSwaps", apart := false }
def FnExactUndoSwapsSaid : Prop := fnExactUndoSwapsRow.holds Try.pinned (OpenSpec.ofChange fnExactUndoSwapsSpec)

/-- ITS FALSE NEIGHBOUR: 'it returns false'. Refute it at one input. -/
def fnExactUndoSwapsWrong : ChangeSpec := { name := "fnExactUndoSwaps", fn := fun _ => fun
  | [d1, d2] => { results := [.lit (.bool false)], args := [d1, d2] }
  | _ => none }
def FnExactUndoSwapsWrongFalsely : Prop := fnExactUndoSwapsRow.holds Try.pinned (OpenSpec.ofChange fnExactUndoSwapsWrong)

/-- 'laws.FnExactAddPivot': WHATEVER THE INPUT: true; the input reads as it did. -/
def fnExactAddPivotSpec : ChangeSpec := { name := "fnExactAddPivot", fn := fun _ => fun
  | [d1, d2] => { results := [.lit (.bool true)], args := [d1, d2] }
  | _ => none }
def fnExactAddPivotRow : OpenClaim := { program := "ytobdghabehbcjaa", sum := "8c29563a2b0897089c835a16eabe49373d7cca1b2dcae72aa526ffe0eba01a54", func := "loop.example/g01984/laws.FnExactAddPivot", spec := "fnExactAddPivot", inPlace := ["slices.overlaps[loop.example/g01984/impl.Pivot]"], apart := false }
def FnExactAddPivotSaid : Prop := fnExactAddPivotRow.holds Try.pinned (OpenSpec.ofChange fnExactAddPivotSpec)

/-- ITS FALSE NEIGHBOUR: 'it returns false'. Refute it at one input. -/
def fnExactAddPivotWrong : ChangeSpec := { name := "fnExactAddPivot", fn := fun _ => fun
  | [d1, d2] => { results := [.lit (.bool false)], args := [d1, d2] }
  | _ => none }
def FnExactAddPivotWrongFalsely : Prop := fnExactAddPivotRow.holds Try.pinned (OpenSpec.ofChange fnExactAddPivotWrong)

/-- 'laws.FnExactCrackAt': WHATEVER THE INPUT: true; the input reads as it did. -/
def fnExactCrackAtSpec : ChangeSpec := { name := "fnExactCrackAt", fn := fun _ => fun
  | [d1, d2] => { results := [.lit (.bool true)], args := [d1, d2] }
  | _ => none }
def fnExactCrackAtRow : OpenClaim := { program := "ytobdghabehbcjaa", sum := "8c29563a2b0897089c835a16eabe49373d7cca1b2dcae72aa526ffe0eba01a54", func := "loop.example/g01984/laws.FnExactCrackAt", spec := "fnExactCrackAt", inPlace := ["slices.overlaps[loop.example/g01984/impl.Pivot]"], apart := false }
def FnExactCrackAtSaid : Prop := fnExactCrackAtRow.holds Try.pinned (OpenSpec.ofChange fnExactCrackAtSpec)

/-- ITS FALSE NEIGHBOUR: 'it returns false'. Refute it at one input. -/
def fnExactCrackAtWrong : ChangeSpec := { name := "fnExactCrackAt", fn := fun _ => fun
  | [d1, d2] => { results := [.lit (.bool false)], args := [d1, d2] }
  | _ => none }
def FnExactCrackAtWrongFalsely : Prop := fnExactCrackAtRow.holds Try.pinned (OpenSpec.ofChange fnExactCrackAtWrong)

/- THE SECOND FORM. 'bulk': how many values and letters a reading holds, each counted each time it is reached (what is shared counts as often as it is met; a slice's spare places count too). A statement '..UptoSaid' is the law's where the arguments, and the package variables that the reading takes, are together of bulk at most 1048576: NARROWER than '..Said'. Prove '..Said' where nothing that the law and all that it calls make is longer than what came in: it says more and counts as full. Else prove '..UptoSaid'. A law counts once. -/
mutual
def uptoBulk {H : Type} : DataW H → Nat
  | .lit (.string bytes) => bytes.length + 1
  | .lit _ => 1
  | .nil => 1
  | .ptr d => uptoBulk d + 1
  | .slice elems spare => uptoBulkAll elems + uptoBulkAll spare + 1
  | .agg parts => uptoBulkAll parts + 1
  | .iface _ d => uptoBulk d + 1
  | .map entries => uptoBulkEntries entries + 1
  | .held _ => 1
def uptoBulkAll {H : Type} : List (DataW H) → Nat
  | [] => 0
  | d :: r => uptoBulk d + uptoBulkAll r
def uptoBulkEntries {H : Type} : List (Lit × DataW H) → Nat
  | [] => 0
  | x :: r => uptoBulkEntry x + uptoBulkEntries r
def uptoBulkEntry {H : Type} : Lit × DataW H → Nat
  | (.string bytes, d) => bytes.length + uptoBulk d + 1
  | (_, d) => uptoBulk d + 1
 end
def uptoSmall : (H : Type) → List (DataW H) → Bool := fun _ ds => decide (uptoBulkAll ds ≤ 1048576)
def OpenSpec.upto (s : _root_.Go.ChangeSpec) : _root_.Go.OpenSpec := { _root_.Go.OpenSpec.ofChange s with cond := some uptoSmall }

/-- 'laws.FnPartitions', WHERE WHAT IT READS IS OF BULK AT MOST 1048576: true; the input reads as it did. -/
def fnPartitionsUptoRow : OpenClaim := { program := "ytobdghabehbcjaa", sum := "8c29563a2b0897089c835a16eabe49373d7cca1b2dcae72aa526ffe0eba01a54", func := "loop.example/g01984/laws.FnPartitions", spec := "fnPartitions", apart := false, narrowed := true }
def FnPartitionsUptoSaid : Prop := fnPartitionsUptoRow.holds Try.pinned (OpenSpec.upto fnPartitionsSpec)

/-- 'laws.FnCracks', WHERE WHAT IT READS IS OF BULK AT MOST 1048576: true; the input reads as it did. -/
def fnCracksUptoRow : OpenClaim := { program := "ytobdghabehbcjaa", sum := "8c29563a2b0897089c835a16eabe49373d7cca1b2dcae72aa526ffe0eba01a54", func := "loop.example/g01984/laws.FnCracks", spec := "fnCracks", inPlace := ["slices.overlaps[loop.example/g01984/impl.Pivot]"], apart := false, narrowed := true }
def FnCracksUptoSaid : Prop := fnCracksUptoRow.holds Try.pinned (OpenSpec.upto fnCracksSpec)

/-- 'laws.FnExactPartition', WHERE WHAT IT READS IS OF BULK AT MOST 1048576: true; the input reads as it did. -/
def fnExactPartitionUptoRow : OpenClaim := { program := "ytobdghabehbcjaa", sum := "8c29563a2b0897089c835a16eabe49373d7cca1b2dcae72aa526ffe0eba01a54", func := "loop.example/g01984/laws.FnExactPartition", spec := "fnExactPartition", apart := false, narrowed := true }
def FnExactPartitionUptoSaid : Prop := fnExactPartitionUptoRow.holds Try.pinned (OpenSpec.upto fnExactPartitionSpec)

/-- 'laws.FnExactApplySwaps', WHERE WHAT IT READS IS OF BULK AT MOST 1048576: true; the input reads as it did. -/
def fnExactApplySwapsUptoRow : OpenClaim := { program := "ytobdghabehbcjaa", sum := "8c29563a2b0897089c835a16eabe49373d7cca1b2dcae72aa526ffe0eba01a54", func := "loop.example/g01984/laws.FnExactApplySwaps", spec := "fnExactApplySwaps", apart := false, narrowed := true }
def FnExactApplySwapsUptoSaid : Prop := fnExactApplySwapsUptoRow.holds Try.pinned (OpenSpec.upto fnExactApplySwapsSpec)

/-- 'laws.FnExactUndoSwaps', WHERE WHAT IT READS IS OF BULK AT MOST 1048576: true; the input reads as it did. -/
def fnExactUndoSwapsUptoRow : OpenClaim := { program := "ytobdghabehbcjaa", sum := "8c29563a2b0897089c835a16eabe49373d7cca1b2dcae72aa526ffe0eba01a54", func := "loop.example/g01984/laws.FnExactUndoSwaps", spec := "fnExactUndoSwaps", apart := false, narrowed := true }
def FnExactUndoSwapsUptoSaid : Prop := fnExactUndoSwapsUptoRow.holds Try.pinned (OpenSpec.upto fnExactUndoSwapsSpec)

/-- 'laws.FnExactAddPivot', WHERE WHAT IT READS IS OF BULK AT MOST 1048576: true; the input reads as it did. -/
def fnExactAddPivotUptoRow : OpenClaim := { program := "ytobdghabehbcjaa", sum := "8c29563a2b0897089c835a16eabe49373d7cca1b2dcae72aa526ffe0eba01a54", func := "loop.example/g01984/laws.FnExactAddPivot", spec := "fnExactAddPivot", inPlace := ["slices.overlaps[loop.example/g01984/impl.Pivot]"], apart := false, narrowed := true }
def FnExactAddPivotUptoSaid : Prop := fnExactAddPivotUptoRow.holds Try.pinned (OpenSpec.upto fnExactAddPivotSpec)

/-- 'laws.FnExactCrackAt', WHERE WHAT IT READS IS OF BULK AT MOST 1048576: true; the input reads as it did. -/
def fnExactCrackAtUptoRow : OpenClaim := { program := "ytobdghabehbcjaa", sum := "8c29563a2b0897089c835a16eabe49373d7cca1b2dcae72aa526ffe0eba01a54", func := "loop.example/g01984/laws.FnExactCrackAt", spec := "fnExactCrackAt", inPlace := ["slices.overlaps[loop.example/g01984/impl.Pivot]"], apart := false, narrowed := true }
def FnExactCrackAtUptoSaid : Prop := fnExactCrackAtUptoRow.holds Try.pinned (OpenSpec.upto fnExactCrackAtSpec)

end Rows
end Go.Proofs.Ytobdghabehbcjaa
