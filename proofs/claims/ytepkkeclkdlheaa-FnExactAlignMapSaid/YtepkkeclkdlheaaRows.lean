/-
  No cell of these rows narrows 'for every input' (looked for: loops, veiled, ifaces, maps, wideKeys, modest, calm, conditions, laid).
  DERIVED. THE GIVEN ROWS OF THIS SEAT. 12 by the template 'for every input the law returns true; each argument reads behind the call as it read before'; 0 by the template 'total and deterministic' (their statements: YtepkkeclkdlheaaTotals.lean).
  GIVEN WITH THE SEED: the statements are not yours to turn. If you find one false, say at which input.
  Laid BY PROGRAM, IN A SANDBOX (cutbox-rows.mjs): the forced cells as the released guide's own fill.sh prints them over the translation 916bc92bea1adafe… (all of the seat's roots in one cut). By AI agents, Wed Nov 11 2026. No macro, syntax, notation, axiom, sorry.
-/
import Derived.Test.YtepkkeclkdlheaaChecked
import GoSem.Claim
import GoSem.ClaimJoined
import GoSem.ClaimMapViews
import Derived.JoinedTies
import Derived.KernelRfl
namespace Go.Proofs.Ytepkkeclkdlheaa
/- THE CELL 'sum', in the pinned program and in every row, IS THE sha256 OF THE DUMP (.gsa) THAT YtepkkeclkdlheaaProg.lean LOADS. Nothing in Lean hashes anything: it is a label: what it is worth is what the hold of that sum in a sandbox is worth. -/
noncomputable def Try.pinned : Pinned := { name := "ytepkkeclkdlheaa", sum := "916bc92bea1adafe24ca88ebbf523b1f240652e5c3ea8e6ede4e3ca39eba94aa", checked := Try.checked }
namespace Rows
def none {H : Type} : Left H := { results := [], args := [] }

/-- 'laws.FnExactNewMap': WHATEVER THE INPUT: true; the input reads as it did. -/
def fnExactNewMapSpec : ChangeSpec := { name := "fnExactNewMap", fn := fun _ => fun
  | [d1, d2] => { results := [.lit (.bool true)], args := [d1, d2] }
  | _ => none }
def fnExactNewMapRow : OpenClaim := { program := "ytepkkeclkdlheaa", sum := "916bc92bea1adafe24ca88ebbf523b1f240652e5c3ea8e6ede4e3ca39eba94aa", func := "loop.example/g01984/laws.FnExactNewMap", spec := "fnExactNewMap", apart := false }
def FnExactNewMapSaid : Prop := fnExactNewMapRow.holds Try.pinned (OpenSpec.ofChange fnExactNewMapSpec)

/-- ITS FALSE NEIGHBOUR: 'it returns false'. Refute it at one input. -/
def fnExactNewMapWrong : ChangeSpec := { name := "fnExactNewMap", fn := fun _ => fun
  | [d1, d2] => { results := [.lit (.bool false)], args := [d1, d2] }
  | _ => none }
def FnExactNewMapWrongFalsely : Prop := fnExactNewMapRow.holds Try.pinned (OpenSpec.ofChange fnExactNewMapWrong)

/-- 'laws.FnExactIsMap': WHATEVER THE INPUT: true; the input reads as it did. -/
def fnExactIsMapSpec : ChangeSpec := { name := "fnExactIsMap", fn := fun _ => fun
  | [d] => { results := [.lit (.bool true)], args := [d] }
  | _ => none }
def fnExactIsMapRow : OpenClaim := { program := "ytepkkeclkdlheaa", sum := "916bc92bea1adafe24ca88ebbf523b1f240652e5c3ea8e6ede4e3ca39eba94aa", func := "loop.example/g01984/laws.FnExactIsMap", spec := "fnExactIsMap", apart := false }
def FnExactIsMapSaid : Prop := fnExactIsMapRow.holds Try.pinned (OpenSpec.ofChange fnExactIsMapSpec)

/-- ITS FALSE NEIGHBOUR: 'it returns false'. Refute it at one input. -/
def fnExactIsMapWrong : ChangeSpec := { name := "fnExactIsMap", fn := fun _ => fun
  | [d] => { results := [.lit (.bool false)], args := [d] }
  | _ => none }
def FnExactIsMapWrongFalsely : Prop := fnExactIsMapRow.holds Try.pinned (OpenSpec.ofChange fnExactIsMapWrong)

/-- 'laws.FnExactCrackMap': WHATEVER THE INPUT: true; the input reads as it did. -/
def fnExactCrackMapSpec : ChangeSpec := { name := "fnExactCrackMap", fn := fun _ => fun
  | [d1, d2] => { results := [.lit (.bool true)], args := [d1, d2] }
  | _ => none }
def fnExactCrackMapRow : OpenClaim := { program := "ytepkkeclkdlheaa", sum := "916bc92bea1adafe24ca88ebbf523b1f240652e5c3ea8e6ede4e3ca39eba94aa", func := "loop.example/g01984/laws.FnExactCrackMap", spec := "fnExactCrackMap", inPlace := ["slices.overlaps[loop.example/g01984/impl.Pivot]"], apart := false }
def FnExactCrackMapSaid : Prop := fnExactCrackMapRow.holds Try.pinned (OpenSpec.ofChange fnExactCrackMapSpec)

/-- ITS FALSE NEIGHBOUR: 'it returns false'. Refute it at one input. -/
def fnExactCrackMapWrong : ChangeSpec := { name := "fnExactCrackMap", fn := fun _ => fun
  | [d1, d2] => { results := [.lit (.bool false)], args := [d1, d2] }
  | _ => none }
def FnExactCrackMapWrongFalsely : Prop := fnExactCrackMapRow.holds Try.pinned (OpenSpec.ofChange fnExactCrackMapWrong)

/-- 'laws.FnExactAlignMap': WHATEVER THE INPUT: true; the input reads as it did. -/
def fnExactAlignMapSpec : ChangeSpec := { name := "fnExactAlignMap", fn := fun _ => fun
  | [d1, d2] => { results := [.lit (.bool true)], args := [d1, d2] }
  | _ => none }
def fnExactAlignMapRow : OpenClaim := { program := "ytepkkeclkdlheaa", sum := "916bc92bea1adafe24ca88ebbf523b1f240652e5c3ea8e6ede4e3ca39eba94aa", func := "loop.example/g01984/laws.FnExactAlignMap", spec := "fnExactAlignMap", inPlace := ["slices.overlaps[loop.example/g01984/impl.Pivot]"], unfollowed := true, recurses := true, apart := false }
def FnExactAlignMapSaid : Prop := fnExactAlignMapRow.holds Try.pinned (OpenSpec.ofChange fnExactAlignMapSpec)

/-- ITS FALSE NEIGHBOUR: 'it returns false'. Refute it at one input. -/
def fnExactAlignMapWrong : ChangeSpec := { name := "fnExactAlignMap", fn := fun _ => fun
  | [d1, d2] => { results := [.lit (.bool false)], args := [d1, d2] }
  | _ => none }
def FnExactAlignMapWrongFalsely : Prop := fnExactAlignMapRow.holds Try.pinned (OpenSpec.ofChange fnExactAlignMapWrong)

/-- 'laws.FnExactAreAligned': WHATEVER THE INPUT: true; the input reads as it did. -/
def fnExactAreAlignedSpec : ChangeSpec := { name := "fnExactAreAligned", fn := fun _ => fun
  | [d1, d2] => { results := [.lit (.bool true)], args := [d1, d2] }
  | _ => none }
def fnExactAreAlignedRow : OpenClaim := { program := "ytepkkeclkdlheaa", sum := "916bc92bea1adafe24ca88ebbf523b1f240652e5c3ea8e6ede4e3ca39eba94aa", func := "loop.example/g01984/laws.FnExactAreAligned", spec := "fnExactAreAligned", apart := false }
def FnExactAreAlignedSaid : Prop := fnExactAreAlignedRow.holds Try.pinned (OpenSpec.ofChange fnExactAreAlignedSpec)

/-- ITS FALSE NEIGHBOUR: 'it returns false'. Refute it at one input. -/
def fnExactAreAlignedWrong : ChangeSpec := { name := "fnExactAreAligned", fn := fun _ => fun
  | [d1, d2] => { results := [.lit (.bool false)], args := [d1, d2] }
  | _ => none }
def FnExactAreAlignedWrongFalsely : Prop := fnExactAreAlignedRow.holds Try.pinned (OpenSpec.ofChange fnExactAreAlignedWrong)

/-- 'laws.FnExactEqualMaps': WHATEVER THE INPUT: true; the input reads as it did. -/
def fnExactEqualMapsSpec : ChangeSpec := { name := "fnExactEqualMaps", fn := fun _ => fun
  | [d1, d2] => { results := [.lit (.bool true)], args := [d1, d2] }
  | _ => none }
def fnExactEqualMapsRow : OpenClaim := { program := "ytepkkeclkdlheaa", sum := "916bc92bea1adafe24ca88ebbf523b1f240652e5c3ea8e6ede4e3ca39eba94aa", func := "loop.example/g01984/laws.FnExactEqualMaps", spec := "fnExactEqualMaps", apart := false }
def FnExactEqualMapsSaid : Prop := fnExactEqualMapsRow.holds Try.pinned (OpenSpec.ofChange fnExactEqualMapsSpec)

/-- ITS FALSE NEIGHBOUR: 'it returns false'. Refute it at one input. -/
def fnExactEqualMapsWrong : ChangeSpec := { name := "fnExactEqualMaps", fn := fun _ => fun
  | [d1, d2] => { results := [.lit (.bool false)], args := [d1, d2] }
  | _ => none }
def FnExactEqualMapsWrongFalsely : Prop := fnExactEqualMapsRow.holds Try.pinned (OpenSpec.ofChange fnExactEqualMapsWrong)

/-- 'laws.FnExactMergeRange': WHATEVER THE INPUT: true; the input reads as it did. -/
def fnExactMergeRangeSpec : ChangeSpec := { name := "fnExactMergeRange", fn := fun _ => fun
  | [d1, d2, d3] => { results := [.lit (.bool true)], args := [d1, d2, d3] }
  | _ => none }
def fnExactMergeRangeRow : OpenClaim := { program := "ytepkkeclkdlheaa", sum := "916bc92bea1adafe24ca88ebbf523b1f240652e5c3ea8e6ede4e3ca39eba94aa", func := "loop.example/g01984/laws.FnExactMergeRange", spec := "fnExactMergeRange", apart := false }
def FnExactMergeRangeSaid : Prop := fnExactMergeRangeRow.holds Try.pinned (OpenSpec.ofChange fnExactMergeRangeSpec)

/-- ITS FALSE NEIGHBOUR: 'it returns false'. Refute it at one input. -/
def fnExactMergeRangeWrong : ChangeSpec := { name := "fnExactMergeRange", fn := fun _ => fun
  | [d1, d2, d3] => { results := [.lit (.bool false)], args := [d1, d2, d3] }
  | _ => none }
def FnExactMergeRangeWrongFalsely : Prop := fnExactMergeRangeRow.holds Try.pinned (OpenSpec.ofChange fnExactMergeRangeWrong)

/-- 'laws.FnExactLiveRows': WHATEVER THE INPUT: true; the input reads as it did. -/
def fnExactLiveRowsSpec : ChangeSpec := { name := "fnExactLiveRows", fn := fun _ => fun
  | [d1, d2, d3] => { results := [.lit (.bool true)], args := [d1, d2, d3] }
  | _ => none }
def fnExactLiveRowsRow : OpenClaim := { program := "ytepkkeclkdlheaa", sum := "916bc92bea1adafe24ca88ebbf523b1f240652e5c3ea8e6ede4e3ca39eba94aa", func := "loop.example/g01984/laws.FnExactLiveRows", spec := "fnExactLiveRows", recurses := true, apart := false }
def FnExactLiveRowsSaid : Prop := fnExactLiveRowsRow.holds Try.pinned (OpenSpec.ofChange fnExactLiveRowsSpec)

/-- ITS FALSE NEIGHBOUR: 'it returns false'. Refute it at one input. -/
def fnExactLiveRowsWrong : ChangeSpec := { name := "fnExactLiveRows", fn := fun _ => fun
  | [d1, d2, d3] => { results := [.lit (.bool false)], args := [d1, d2, d3] }
  | _ => none }
def FnExactLiveRowsWrongFalsely : Prop := fnExactLiveRowsRow.holds Try.pinned (OpenSpec.ofChange fnExactLiveRowsWrong)

/-- 'laws.FnMapCracks': WHATEVER THE INPUT: true; the input reads as it did. -/
def fnMapCracksSpec : ChangeSpec := { name := "fnMapCracks", fn := fun _ => fun
  | [d] => { results := [.lit (.bool true)], args := [d] }
  | _ => none }
def fnMapCracksRow : OpenClaim := { program := "ytepkkeclkdlheaa", sum := "916bc92bea1adafe24ca88ebbf523b1f240652e5c3ea8e6ede4e3ca39eba94aa", func := "loop.example/g01984/laws.FnMapCracks", spec := "fnMapCracks", inPlace := ["slices.overlaps[loop.example/g01984/impl.Pivot]"], apart := false }
def FnMapCracksSaid : Prop := fnMapCracksRow.holds Try.pinned (OpenSpec.ofChange fnMapCracksSpec)

/-- ITS FALSE NEIGHBOUR: 'it returns false'. Refute it at one input. -/
def fnMapCracksWrong : ChangeSpec := { name := "fnMapCracks", fn := fun _ => fun
  | [d] => { results := [.lit (.bool false)], args := [d] }
  | _ => none }
def FnMapCracksWrongFalsely : Prop := fnMapCracksRow.holds Try.pinned (OpenSpec.ofChange fnMapCracksWrong)

/-- 'laws.FnUpdates': WHATEVER THE INPUT: true; the input reads as it did. -/
def fnUpdatesSpec : ChangeSpec := { name := "fnUpdates", fn := fun _ => fun
  | [d] => { results := [.lit (.bool true)], args := [d] }
  | _ => none }
def fnUpdatesRow : OpenClaim := { program := "ytepkkeclkdlheaa", sum := "916bc92bea1adafe24ca88ebbf523b1f240652e5c3ea8e6ede4e3ca39eba94aa", func := "loop.example/g01984/laws.FnUpdates", spec := "fnUpdates", unfollowed := true, recurses := true, apart := false }
def FnUpdatesSaid : Prop := fnUpdatesRow.holds Try.pinned (OpenSpec.ofChange fnUpdatesSpec)

/-- ITS FALSE NEIGHBOUR: 'it returns false'. Refute it at one input. -/
def fnUpdatesWrong : ChangeSpec := { name := "fnUpdates", fn := fun _ => fun
  | [d] => { results := [.lit (.bool false)], args := [d] }
  | _ => none }
def FnUpdatesWrongFalsely : Prop := fnUpdatesRow.holds Try.pinned (OpenSpec.ofChange fnUpdatesWrong)

/-- 'laws.FnExactReplayLedger': WHATEVER THE INPUT: true; the input reads as it did. -/
def fnExactReplayLedgerSpec : ChangeSpec := { name := "fnExactReplayLedger", fn := fun _ => fun
  | [d1, d2] => { results := [.lit (.bool true)], args := [d1, d2] }
  | _ => none }
def fnExactReplayLedgerRow : OpenClaim := { program := "ytepkkeclkdlheaa", sum := "916bc92bea1adafe24ca88ebbf523b1f240652e5c3ea8e6ede4e3ca39eba94aa", func := "loop.example/g01984/laws.FnExactReplayLedger", spec := "fnExactReplayLedger", inPlace := ["slices.overlaps[loop.example/g01984/impl.Pivot]"], unfollowed := true, recurses := true, apart := false }
def FnExactReplayLedgerSaid : Prop := fnExactReplayLedgerRow.holds Try.pinned (OpenSpec.ofChange fnExactReplayLedgerSpec)

/-- ITS FALSE NEIGHBOUR: 'it returns false'. Refute it at one input. -/
def fnExactReplayLedgerWrong : ChangeSpec := { name := "fnExactReplayLedger", fn := fun _ => fun
  | [d1, d2] => { results := [.lit (.bool false)], args := [d1, d2] }
  | _ => none }
def FnExactReplayLedgerWrongFalsely : Prop := fnExactReplayLedgerRow.holds Try.pinned (OpenSpec.ofChange fnExactReplayLedgerWrong)

/-- 'laws.FnMaps': WHATEVER THE INPUT: true; the input reads as it did. -/
def fnMapsSpec : ChangeSpec := { name := "fnMaps", fn := fun _ => fun
  | [d] => { results := [.lit (.bool true)], args := [d] }
  | _ => none }
def fnMapsRow : OpenClaim := { program := "ytepkkeclkdlheaa", sum := "916bc92bea1adafe24ca88ebbf523b1f240652e5c3ea8e6ede4e3ca39eba94aa", func := "loop.example/g01984/laws.FnMaps", spec := "fnMaps", inPlace := ["slices.overlaps[loop.example/g01984/impl.Pivot]"], unfollowed := true, recurses := true, apart := false }
def FnMapsSaid : Prop := fnMapsRow.holds Try.pinned (OpenSpec.ofChange fnMapsSpec)

/-- ITS FALSE NEIGHBOUR: 'it returns false'. Refute it at one input. -/
def fnMapsWrong : ChangeSpec := { name := "fnMaps", fn := fun _ => fun
  | [d] => { results := [.lit (.bool false)], args := [d] }
  | _ => none }
def FnMapsWrongFalsely : Prop := fnMapsRow.holds Try.pinned (OpenSpec.ofChange fnMapsWrong)

/- THE SECOND FORM. 'bulk': how many values and letters a reading holds, each counted each time it is reached (what is shared counts as often as it is met; a slice's spare places count too). A statement '..UptoSaid' is the law's where the arguments, and the package variables that the reading takes, are together of bulk at most 1048576: NARROWER than '..Said'. Prove '..Said' where nothing that the law and all that it calls make is longer than what came in: it says more and counts as full. Else prove '..UptoSaid'. A law counts once. -/
mutual
def uptoBulk {H : Type} : DataW H → Nat
  | .lit (.string bytes) => bytes.length + 1
  | .lit _ => 1
  | .nil => 1
  | .ptr d => uptoBulk d + 1
  | .slice elems spare => uptoBulkAll elems + uptoBulkAll spare + 1
  | .agg parts => uptoBulkAll parts + 1
  | .iface _ d => uptoBulk d + 1
  | .map entries => uptoBulkEntries entries + 1
  | .held _ => 1
def uptoBulkAll {H : Type} : List (DataW H) → Nat
  | [] => 0
  | d :: r => uptoBulk d + uptoBulkAll r
def uptoBulkEntries {H : Type} : List (Lit × DataW H) → Nat
  | [] => 0
  | x :: r => uptoBulkEntry x + uptoBulkEntries r
def uptoBulkEntry {H : Type} : Lit × DataW H → Nat
  | (.string bytes, d) => bytes.length + uptoBulk d + 1
  | (_, d) => uptoBulk d + 1
 end
def uptoSmall : (H : Type) → List (DataW H) → Bool := fun _ ds => decide (uptoBulkAll ds ≤ 1048576)
def OpenSpec.upto (s : _root_.Go.ChangeSpec) : _root_.Go.OpenSpec := { _root_.Go.OpenSpec.ofChange s with cond := some uptoSmall }

/-- 'laws.FnExactNewMap', WHERE WHAT IT READS IS OF BULK AT MOST 1048576: true; the input reads as it did. -/
def fnExactNewMapUptoRow : OpenClaim := { program := "ytepkkeclkdlheaa", sum := "916bc92bea1adafe24ca88ebbf523b1f240652e5c3ea8e6ede4e3ca39eba94aa", func := "loop.example/g01984/laws.FnExactNewMap", spec := "fnExactNewMap", apart := false, narrowed := true }
def FnExactNewMapUptoSaid : Prop := fnExactNewMapUptoRow.holds Try.pinned (OpenSpec.upto fnExactNewMapSpec)

/-- 'laws.FnExactIsMap', WHERE WHAT IT READS IS OF BULK AT MOST 1048576: true; the input reads as it did. -/
def fnExactIsMapUptoRow : OpenClaim := { program := "ytepkkeclkdlheaa", sum := "916bc92bea1adafe24ca88ebbf523b1f240652e5c3ea8e6ede4e3ca39eba94aa", func := "loop.example/g01984/laws.FnExactIsMap", spec := "fnExactIsMap", apart := false, narrowed := true }
def FnExactIsMapUptoSaid : Prop := fnExactIsMapUptoRow.holds Try.pinned (OpenSpec.upto fnExactIsMapSpec)

/-- 'laws.FnExactCrackMap', WHERE WHAT IT READS IS OF BULK AT MOST 1048576: true; the input reads as it did. -/
def fnExactCrackMapUptoRow : OpenClaim := { program := "ytepkkeclkdlheaa", sum := "916bc92bea1adafe24ca88ebbf523b1f240652e5c3ea8e6ede4e3ca39eba94aa", func := "loop.example/g01984/laws.FnExactCrackMap", spec := "fnExactCrackMap", inPlace := ["slices.overlaps[loop.example/g01984/impl.Pivot]"], apart := false, narrowed := true }
def FnExactCrackMapUptoSaid : Prop := fnExactCrackMapUptoRow.holds Try.pinned (OpenSpec.upto fnExactCrackMapSpec)

/-- 'laws.FnExactAlignMap', WHERE WHAT IT READS IS OF BULK AT MOST 1048576: true; the input reads as it did. -/
def fnExactAlignMapUptoRow : OpenClaim := { program := "ytepkkeclkdlheaa", sum := "916bc92bea1adafe24ca88ebbf523b1f240652e5c3ea8e6ede4e3ca39eba94aa", func := "loop.example/g01984/laws.FnExactAlignMap", spec := "fnExactAlignMap", inPlace := ["slices.overlaps[loop.example/g01984/impl.Pivot]"], unfollowed := true, recurses := true, apart := false, narrowed := true }
def FnExactAlignMapUptoSaid : Prop := fnExactAlignMapUptoRow.holds Try.pinned (OpenSpec.upto fnExactAlignMapSpec)

/-- 'laws.FnExactAreAligned', WHERE WHAT IT READS IS OF BULK AT MOST 1048576: true; the input reads as it did. -/
def fnExactAreAlignedUptoRow : OpenClaim := { program := "ytepkkeclkdlheaa", sum := "916bc92bea1adafe24ca88ebbf523b1f240652e5c3ea8e6ede4e3ca39eba94aa", func := "loop.example/g01984/laws.FnExactAreAligned", spec := "fnExactAreAligned", apart := false, narrowed := true }
def FnExactAreAlignedUptoSaid : Prop := fnExactAreAlignedUptoRow.holds Try.pinned (OpenSpec.upto fnExactAreAlignedSpec)

/-- 'laws.FnExactEqualMaps', WHERE WHAT IT READS IS OF BULK AT MOST 1048576: true; the input reads as it did. -/
def fnExactEqualMapsUptoRow : OpenClaim := { program := "ytepkkeclkdlheaa", sum := "916bc92bea1adafe24ca88ebbf523b1f240652e5c3ea8e6ede4e3ca39eba94aa", func := "loop.example/g01984/laws.FnExactEqualMaps", spec := "fnExactEqualMaps", apart := false, narrowed := true }
def FnExactEqualMapsUptoSaid : Prop := fnExactEqualMapsUptoRow.holds Try.pinned (OpenSpec.upto fnExactEqualMapsSpec)

/-- 'laws.FnExactMergeRange', WHERE WHAT IT READS IS OF BULK AT MOST 1048576: true; the input reads as it did. -/
def fnExactMergeRangeUptoRow : OpenClaim := { program := "ytepkkeclkdlheaa", sum := "916bc92bea1adafe24ca88ebbf523b1f240652e5c3ea8e6ede4e3ca39eba94aa", func := "loop.example/g01984/laws.FnExactMergeRange", spec := "fnExactMergeRange", apart := false, narrowed := true }
def FnExactMergeRangeUptoSaid : Prop := fnExactMergeRangeUptoRow.holds Try.pinned (OpenSpec.upto fnExactMergeRangeSpec)

/-- 'laws.FnExactLiveRows', WHERE WHAT IT READS IS OF BULK AT MOST 1048576: true; the input reads as it did. -/
def fnExactLiveRowsUptoRow : OpenClaim := { program := "ytepkkeclkdlheaa", sum := "916bc92bea1adafe24ca88ebbf523b1f240652e5c3ea8e6ede4e3ca39eba94aa", func := "loop.example/g01984/laws.FnExactLiveRows", spec := "fnExactLiveRows", recurses := true, apart := false, narrowed := true }
def FnExactLiveRowsUptoSaid : Prop := fnExactLiveRowsUptoRow.holds Try.pinned (OpenSpec.upto fnExactLiveRowsSpec)

/-- 'laws.FnMapCracks', WHERE WHAT IT READS IS OF BULK AT MOST 1048576: true; the input reads as it did. -/
def fnMapCracksUptoRow : OpenClaim := { program := "ytepkkeclkdlheaa", sum := "916bc92bea1adafe24ca88ebbf523b1f240652e5c3ea8e6ede4e3ca39eba94aa", func := "loop.example/g01984/laws.FnMapCracks", spec := "fnMapCracks", inPlace := ["slices.overlaps[loop.example/g01984/impl.Pivot]"], apart := false, narrowed := true }
def FnMapCracksUptoSaid : Prop := fnMapCracksUptoRow.holds Try.pinned (OpenSpec.upto fnMapCracksSpec)

/-- 'laws.FnUpdates', WHERE WHAT IT READS IS OF BULK AT MOST 1048576: true; the input reads as it did. -/
def fnUpdatesUptoRow : OpenClaim := { program := "ytepkkeclkdlheaa", sum := "916bc92bea1adafe24ca88ebbf523b1f240652e5c3ea8e6ede4e3ca39eba94aa", func := "loop.example/g01984/laws.FnUpdates", spec := "fnUpdates", unfollowed := true, recurses := true, apart := false, narrowed := true }
def FnUpdatesUptoSaid : Prop := fnUpdatesUptoRow.holds Try.pinned (OpenSpec.upto fnUpdatesSpec)

/-- 'laws.FnExactReplayLedger', WHERE WHAT IT READS IS OF BULK AT MOST 1048576: true; the input reads as it did. -/
def fnExactReplayLedgerUptoRow : OpenClaim := { program := "ytepkkeclkdlheaa", sum := "916bc92bea1adafe24ca88ebbf523b1f240652e5c3ea8e6ede4e3ca39eba94aa", func := "loop.example/g01984/laws.FnExactReplayLedger", spec := "fnExactReplayLedger", inPlace := ["slices.overlaps[loop.example/g01984/impl.Pivot]"], unfollowed := true, recurses := true, apart := false, narrowed := true }
def FnExactReplayLedgerUptoSaid : Prop := fnExactReplayLedgerUptoRow.holds Try.pinned (OpenSpec.upto fnExactReplayLedgerSpec)

/-- 'laws.FnMaps', WHERE WHAT IT READS IS OF BULK AT MOST 1048576: true; the input reads as it did. -/
def fnMapsUptoRow : OpenClaim := { program := "ytepkkeclkdlheaa", sum := "916bc92bea1adafe24ca88ebbf523b1f240652e5c3ea8e6ede4e3ca39eba94aa", func := "loop.example/g01984/laws.FnMaps", spec := "fnMaps", inPlace := ["slices.overlaps[loop.example/g01984/impl.Pivot]"], unfollowed := true, recurses := true, apart := false, narrowed := true }
def FnMapsUptoSaid : Prop := fnMapsUptoRow.holds Try.pinned (OpenSpec.upto fnMapsSpec)

end Rows
end Go.Proofs.Ytepkkeclkdlheaa
