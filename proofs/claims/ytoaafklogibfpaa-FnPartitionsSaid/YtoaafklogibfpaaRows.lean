/-
  No cell of these rows narrows 'for every input' (looked for: loops, veiled, ifaces, maps, wideKeys, modest, calm, conditions, laid).
  DERIVED. THE GIVEN ROWS OF THIS SEAT. 8 by the template 'for every input the law returns true; each argument reads behind the call as it read before'; 0 by the template 'total and deterministic' (their statements: YtoaafklogibfpaaTotals.lean).
  GIVEN WITH THE SEED: the statements are not yours to turn. If you find one false, say at which input.
  Laid BY PROGRAM, IN A SANDBOX (cutbox-rows.mjs): the forced cells as the released guide's own fill.sh prints them over the translation 4be43a1aa316d4d3… (all of the seat's roots in one cut). By AI agents, Wed Nov 11 2026. No macro, syntax, notation, axiom, sorry.
-/
import Derived.Test.YtoaafklogibfpaaChecked
import GoSem.Claim
import GoSem.ClaimJoined
import GoSem.ClaimMapViews
import Derived.JoinedTies
import Derived.KernelRfl
namespace Go.Proofs.Ytoaafklogibfpaa
/- THE CELL 'sum', in the pinned program and in every row, IS THE sha256 OF THE DUMP (.gsa) THAT YtoaafklogibfpaaProg.lean LOADS. Nothing in Lean hashes anything: it is a label: what it is worth is what the hold of that sum in a sandbox is worth. -/
noncomputable def Try.pinned : Pinned := { name := "ytoaafklogibfpaa", sum := "4be43a1aa316d4d34a82246196d2ea1a189975c7d98a2bd405610886cbf40a8b", checked := Try.checked }
namespace Rows
def none {H : Type} : Left H := { results := [], args := [] }

/-- 'laws.FnExactAddPivot': WHATEVER THE INPUT: true; the input reads as it did. -/
def fnExactAddPivotSpec : ChangeSpec := { name := "fnExactAddPivot", fn := fun _ => fun
  | [d1, d2] => { results := [.lit (.bool true)], args := [d1, d2] }
  | _ => none }
def fnExactAddPivotRow : OpenClaim := { program := "ytoaafklogibfpaa", sum := "4be43a1aa316d4d34a82246196d2ea1a189975c7d98a2bd405610886cbf40a8b", func := "loop.example/g01984/laws.FnExactAddPivot", spec := "fnExactAddPivot", inPlace := ["slices.overlaps[loop.example/g01984/impl.Pivot]"], apart := false }
def FnExactAddPivotSaid : Prop := fnExactAddPivotRow.holds Try.pinned (OpenSpec.ofChange fnExactAddPivotSpec)

/-- ITS FALSE NEIGHBOUR: 'it returns false'. Refute it at one input. -/
def fnExactAddPivotWrong : ChangeSpec := { name := "fnExactAddPivot", fn := fun _ => fun
  | [d1, d2] => { results := [.lit (.bool false)], args := [d1, d2] }
  | _ => none }
def FnExactAddPivotWrongFalsely : Prop := fnExactAddPivotRow.holds Try.pinned (OpenSpec.ofChange fnExactAddPivotWrong)

/-- 'laws.FnPartitions': WHATEVER THE INPUT: true; the input reads as it did. -/
def fnPartitionsSpec : ChangeSpec := { name := "fnPartitions", fn := fun _ => fun
  | [d] => { results := [.lit (.bool true)], args := [d] }
  | _ => none }
def fnPartitionsRow : OpenClaim := { program := "ytoaafklogibfpaa", sum := "4be43a1aa316d4d34a82246196d2ea1a189975c7d98a2bd405610886cbf40a8b", func := "loop.example/g01984/laws.FnPartitions", spec := "fnPartitions", apart := false }
def FnPartitionsSaid : Prop := fnPartitionsRow.holds Try.pinned (OpenSpec.ofChange fnPartitionsSpec)

/-- ITS FALSE NEIGHBOUR: 'it returns false'. Refute it at one input. -/
def fnPartitionsWrong : ChangeSpec := { name := "fnPartitions", fn := fun _ => fun
  | [d] => { results := [.lit (.bool false)], args := [d] }
  | _ => none }
def FnPartitionsWrongFalsely : Prop := fnPartitionsRow.holds Try.pinned (OpenSpec.ofChange fnPartitionsWrong)

/-- 'laws.FnCracks': WHATEVER THE INPUT: true; the input reads as it did. -/
def fnCracksSpec : ChangeSpec := { name := "fnCracks", fn := fun _ => fun
  | [d] => { results := [.lit (.bool true)], args := [d] }
  | _ => none }
def fnCracksRow : OpenClaim := { program := "ytoaafklogibfpaa", sum := "4be43a1aa316d4d34a82246196d2ea1a189975c7d98a2bd405610886cbf40a8b", func := "loop.example/g01984/laws.FnCracks", spec := "fnCracks", inPlace := ["slices.overlaps[loop.example/g01984/impl.Pivot]"], apart := false }
def FnCracksSaid : Prop := fnCracksRow.holds Try.pinned (OpenSpec.ofChange fnCracksSpec)

/-- ITS FALSE NEIGHBOUR: 'it returns false'. Refute it at one input. -/
def fnCracksWrong : ChangeSpec := { name := "fnCracks", fn := fun _ => fun
  | [d] => { results := [.lit (.bool false)], args := [d] }
  | _ => none }
def FnCracksWrongFalsely : Prop := fnCracksRow.holds Try.pinned (OpenSpec.ofChange fnCracksWrong)

/-- 'laws.FnExactSelectRange': WHATEVER THE INPUT: true; the input reads as it did. -/
def fnExactSelectRangeSpec : ChangeSpec := { name := "fnExactSelectRange", fn := fun _ => fun
  | [d1, d2] => { results := [.lit (.bool true)], args := [d1, d2] }
  | _ => none }
def fnExactSelectRangeRow : OpenClaim := { program := "ytoaafklogibfpaa", sum := "4be43a1aa316d4d34a82246196d2ea1a189975c7d98a2bd405610886cbf40a8b", func := "loop.example/g01984/laws.FnExactSelectRange", spec := "fnExactSelectRange", inPlace := ["slices.overlaps[loop.example/g01984/impl.Pivot]"], unfollowed := true, recurses := true, apart := false }
def FnExactSelectRangeSaid : Prop := fnExactSelectRangeRow.holds Try.pinned (OpenSpec.ofChange fnExactSelectRangeSpec)

/-- ITS FALSE NEIGHBOUR: 'it returns false'. Refute it at one input. -/
def fnExactSelectRangeWrong : ChangeSpec := { name := "fnExactSelectRange", fn := fun _ => fun
  | [d1, d2] => { results := [.lit (.bool false)], args := [d1, d2] }
  | _ => none }
def FnExactSelectRangeWrongFalsely : Prop := fnExactSelectRangeRow.holds Try.pinned (OpenSpec.ofChange fnExactSelectRangeWrong)

/-- 'laws.FnExactRowsBetween': WHATEVER THE INPUT: true; the input reads as it did. -/
def fnExactRowsBetweenSpec : ChangeSpec := { name := "fnExactRowsBetween", fn := fun _ => fun
  | [d1, d2, d3] => { results := [.lit (.bool true)], args := [d1, d2, d3] }
  | _ => none }
def fnExactRowsBetweenRow : OpenClaim := { program := "ytoaafklogibfpaa", sum := "4be43a1aa316d4d34a82246196d2ea1a189975c7d98a2bd405610886cbf40a8b", func := "loop.example/g01984/laws.FnExactRowsBetween", spec := "fnExactRowsBetween", recurses := true, apart := false }
def FnExactRowsBetweenSaid : Prop := fnExactRowsBetweenRow.holds Try.pinned (OpenSpec.ofChange fnExactRowsBetweenSpec)

/-- ITS FALSE NEIGHBOUR: 'it returns false'. Refute it at one input. -/
def fnExactRowsBetweenWrong : ChangeSpec := { name := "fnExactRowsBetween", fn := fun _ => fun
  | [d1, d2, d3] => { results := [.lit (.bool false)], args := [d1, d2, d3] }
  | _ => none }
def FnExactRowsBetweenWrongFalsely : Prop := fnExactRowsBetweenRow.holds Try.pinned (OpenSpec.ofChange fnExactRowsBetweenWrong)

/-- 'laws.FnExactAnswerRange': WHATEVER THE INPUT: true; the input reads as it did. -/
def fnExactAnswerRangeSpec : ChangeSpec := { name := "fnExactAnswerRange", fn := fun _ => fun
  | [d1, d2] => { results := [.lit (.bool true)], args := [d1, d2] }
  | _ => none }
def fnExactAnswerRangeRow : OpenClaim := { program := "ytoaafklogibfpaa", sum := "4be43a1aa316d4d34a82246196d2ea1a189975c7d98a2bd405610886cbf40a8b", func := "loop.example/g01984/laws.FnExactAnswerRange", spec := "fnExactAnswerRange", inPlace := ["slices.overlaps[loop.example/g01984/impl.Pivot]"], unfollowed := true, recurses := true, apart := false }
def FnExactAnswerRangeSaid : Prop := fnExactAnswerRangeRow.holds Try.pinned (OpenSpec.ofChange fnExactAnswerRangeSpec)

/-- ITS FALSE NEIGHBOUR: 'it returns false'. Refute it at one input. -/
def fnExactAnswerRangeWrong : ChangeSpec := { name := "fnExactAnswerRange", fn := fun _ => fun
  | [d1, d2] => { results := [.lit (.bool false)], args := [d1, d2] }
  | _ => none }
def FnExactAnswerRangeWrongFalsely : Prop := fnExactAnswerRangeRow.holds Try.pinned (OpenSpec.ofChange fnExactAnswerRangeWrong)

/-- 'laws.FnExactSortInts': WHATEVER THE INPUT: true; the input reads as it did. -/
def fnExactSortIntsSpec : ChangeSpec := { name := "fnExactSortInts", fn := fun _ => fun
  | [d] => { results := [.lit (.bool true)], args := [d] }
  | _ => none }
def fnExactSortIntsRow : OpenClaim := { program := "ytoaafklogibfpaa", sum := "4be43a1aa316d4d34a82246196d2ea1a189975c7d98a2bd405610886cbf40a8b", func := "loop.example/g01984/laws.FnExactSortInts", spec := "fnExactSortInts", recurses := true, apart := false }
def FnExactSortIntsSaid : Prop := fnExactSortIntsRow.holds Try.pinned (OpenSpec.ofChange fnExactSortIntsSpec)

/-- ITS FALSE NEIGHBOUR: 'it returns false'. Refute it at one input. -/
def fnExactSortIntsWrong : ChangeSpec := { name := "fnExactSortInts", fn := fun _ => fun
  | [d] => { results := [.lit (.bool false)], args := [d] }
  | _ => none }
def FnExactSortIntsWrongFalsely : Prop := fnExactSortIntsRow.holds Try.pinned (OpenSpec.ofChange fnExactSortIntsWrong)

/-- 'laws.FnSelects': WHATEVER THE INPUT: true; the input reads as it did. -/
def fnSelectsSpec : ChangeSpec := { name := "fnSelects", fn := fun _ => fun
  | [d] => { results := [.lit (.bool true)], args := [d] }
  | _ => none }
def fnSelectsRow : OpenClaim := { program := "ytoaafklogibfpaa", sum := "4be43a1aa316d4d34a82246196d2ea1a189975c7d98a2bd405610886cbf40a8b", func := "loop.example/g01984/laws.FnSelects", spec := "fnSelects", inPlace := ["slices.overlaps[loop.example/g01984/impl.Pivot]"], unfollowed := true, recurses := true, apart := false }
def FnSelectsSaid : Prop := fnSelectsRow.holds Try.pinned (OpenSpec.ofChange fnSelectsSpec)

/-- ITS FALSE NEIGHBOUR: 'it returns false'. Refute it at one input. -/
def fnSelectsWrong : ChangeSpec := { name := "fnSelects", fn := fun _ => fun
  | [d] => { results := [.lit (.bool false)], args := [d] }
  | _ => none }
def FnSelectsWrongFalsely : Prop := fnSelectsRow.holds Try.pinned (OpenSpec.ofChange fnSelectsWrong)

/- THE SECOND FORM. 'bulk': how many values and letters a reading holds, each counted each time it is reached (what is shared counts as often as it is met; a slice's spare places count too). A statement '..UptoSaid' is the law's where the arguments, and the package variables that the reading takes, are together of bulk at most 1048576: NARROWER than '..Said'. Prove '..Said' where nothing that the law and all that it calls make is longer than what came in: it says more and counts as full. Else prove '..UptoSaid'. A law counts once. -/
mutual
def uptoBulk {H : Type} : DataW H → Nat
  | .lit (.string bytes) => bytes.length + 1
  | .lit _ => 1
  | .nil => 1
  | .ptr d => uptoBulk d + 1
  | .slice elems spare => uptoBulkAll elems + uptoBulkAll spare + 1
  | .agg parts => uptoBulkAll parts + 1
  | .iface _ d => uptoBulk d + 1
  | .map entries => uptoBulkEntries entries + 1
  | .held _ => 1
def uptoBulkAll {H : Type} : List (DataW H) → Nat
  | [] => 0
  | d :: r => uptoBulk d + uptoBulkAll r
def uptoBulkEntries {H : Type} : List (Lit × DataW H) → Nat
  | [] => 0
  | x :: r => uptoBulkEntry x + uptoBulkEntries r
def uptoBulkEntry {H : Type} : Lit × DataW H → Nat
  | (.string bytes, d) => bytes.length + uptoBulk d + 1
  | (_, d) => uptoBulk d + 1
 end
def uptoSmall : (H : Type) → List (DataW H) → Bool := fun _ ds => decide (uptoBulkAll ds ≤ 1048576)
def OpenSpec.upto (s : _root_.Go.ChangeSpec) : _root_.Go.OpenSpec := { _root_.Go.OpenSpec.ofChange s with cond := some uptoSmall }

/-- 'laws.FnExactAddPivot', WHERE WHAT IT READS IS OF BULK AT MOST 1048576: true; the input reads as it did. -/
def fnExactAddPivotUptoRow : OpenClaim := { program := "ytoaafklogibfpaa", sum := "4be43a1aa316d4d34a82246196d2ea1a189975c7d98a2bd405610886cbf40a8b", func := "loop.example/g01984/laws.FnExactAddPivot", spec := "fnExactAddPivot", inPlace := ["slices.overlaps[loop.example/g01984/impl.Pivot]"], apart := false, narrowed := true }
def FnExactAddPivotUptoSaid : Prop := fnExactAddPivotUptoRow.holds Try.pinned (OpenSpec.upto fnExactAddPivotSpec)

/-- 'laws.FnPartitions', WHERE WHAT IT READS IS OF BULK AT MOST 1048576: true; the input reads as it did. -/
def fnPartitionsUptoRow : OpenClaim := { program := "ytoaafklogibfpaa", sum := "4be43a1aa316d4d34a82246196d2ea1a189975c7d98a2bd405610886cbf40a8b", func := "loop.example/g01984/laws.FnPartitions", spec := "fnPartitions", apart := false, narrowed := true }
def FnPartitionsUptoSaid : Prop := fnPartitionsUptoRow.holds Try.pinned (OpenSpec.upto fnPartitionsSpec)

/-- 'laws.FnCracks', WHERE WHAT IT READS IS OF BULK AT MOST 1048576: true; the input reads as it did. -/
def fnCracksUptoRow : OpenClaim := { program := "ytoaafklogibfpaa", sum := "4be43a1aa316d4d34a82246196d2ea1a189975c7d98a2bd405610886cbf40a8b", func := "loop.example/g01984/laws.FnCracks", spec := "fnCracks", inPlace := ["slices.overlaps[loop.example/g01984/impl.Pivot]"], apart := false, narrowed := true }
def FnCracksUptoSaid : Prop := fnCracksUptoRow.holds Try.pinned (OpenSpec.upto fnCracksSpec)

/-- 'laws.FnExactSelectRange', WHERE WHAT IT READS IS OF BULK AT MOST 1048576: true; the input reads as it did. -/
def fnExactSelectRangeUptoRow : OpenClaim := { program := "ytoaafklogibfpaa", sum := "4be43a1aa316d4d34a82246196d2ea1a189975c7d98a2bd405610886cbf40a8b", func := "loop.example/g01984/laws.FnExactSelectRange", spec := "fnExactSelectRange", inPlace := ["slices.overlaps[loop.example/g01984/impl.Pivot]"], unfollowed := true, recurses := true, apart := false, narrowed := true }
def FnExactSelectRangeUptoSaid : Prop := fnExactSelectRangeUptoRow.holds Try.pinned (OpenSpec.upto fnExactSelectRangeSpec)

/-- 'laws.FnExactRowsBetween', WHERE WHAT IT READS IS OF BULK AT MOST 1048576: true; the input reads as it did. -/
def fnExactRowsBetweenUptoRow : OpenClaim := { program := "ytoaafklogibfpaa", sum := "4be43a1aa316d4d34a82246196d2ea1a189975c7d98a2bd405610886cbf40a8b", func := "loop.example/g01984/laws.FnExactRowsBetween", spec := "fnExactRowsBetween", recurses := true, apart := false, narrowed := true }
def FnExactRowsBetweenUptoSaid : Prop := fnExactRowsBetweenUptoRow.holds Try.pinned (OpenSpec.upto fnExactRowsBetweenSpec)

/-- 'laws.FnExactAnswerRange', WHERE WHAT IT READS IS OF BULK AT MOST 1048576: true; the input reads as it did. -/
def fnExactAnswerRangeUptoRow : OpenClaim := { program := "ytoaafklogibfpaa", sum := "4be43a1aa316d4d34a82246196d2ea1a189975c7d98a2bd405610886cbf40a8b", func := "loop.example/g01984/laws.FnExactAnswerRange", spec := "fnExactAnswerRange", inPlace := ["slices.overlaps[loop.example/g01984/impl.Pivot]"], unfollowed := true, recurses := true, apart := false, narrowed := true }
def FnExactAnswerRangeUptoSaid : Prop := fnExactAnswerRangeUptoRow.holds Try.pinned (OpenSpec.upto fnExactAnswerRangeSpec)

/-- 'laws.FnExactSortInts', WHERE WHAT IT READS IS OF BULK AT MOST 1048576: true; the input reads as it did. -/
def fnExactSortIntsUptoRow : OpenClaim := { program := "ytoaafklogibfpaa", sum := "4be43a1aa316d4d34a82246196d2ea1a189975c7d98a2bd405610886cbf40a8b", func := "loop.example/g01984/laws.FnExactSortInts", spec := "fnExactSortInts", recurses := true, apart := false, narrowed := true }
def FnExactSortIntsUptoSaid : Prop := fnExactSortIntsUptoRow.holds Try.pinned (OpenSpec.upto fnExactSortIntsSpec)

/-- 'laws.FnSelects', WHERE WHAT IT READS IS OF BULK AT MOST 1048576: true; the input reads as it did. -/
def fnSelectsUptoRow : OpenClaim := { program := "ytoaafklogibfpaa", sum := "4be43a1aa316d4d34a82246196d2ea1a189975c7d98a2bd405610886cbf40a8b", func := "loop.example/g01984/laws.FnSelects", spec := "fnSelects", inPlace := ["slices.overlaps[loop.example/g01984/impl.Pivot]"], unfollowed := true, recurses := true, apart := false, narrowed := true }
def FnSelectsUptoSaid : Prop := fnSelectsUptoRow.holds Try.pinned (OpenSpec.upto fnSelectsSpec)

end Rows
end Go.Proofs.Ytoaafklogibfpaa
