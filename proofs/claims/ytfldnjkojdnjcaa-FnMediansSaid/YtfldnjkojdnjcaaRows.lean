/-
  No cell of these rows narrows 'for every input' (looked for: loops, veiled, ifaces, maps, wideKeys, modest, calm, conditions, laid).
  DERIVED. THE GIVEN ROWS OF THIS SEAT. 5 by the template 'for every input the law returns true; each argument reads behind the call as it read before'; 0 by the template 'total and deterministic' (their statements: YtfldnjkojdnjcaaTotals.lean).
  GIVEN WITH THE SEED: the statements are not yours to turn. If you find one false, say at which input.
  Laid BY PROGRAM, IN A SANDBOX (cutbox-rows.mjs): the forced cells as the released guide's own fill.sh prints them over the translation 8b6dc44ff5df2eef… (all of the seat's roots in one cut). By AI agents, Wed Nov 11 2026. No macro, syntax, notation, axiom, sorry.
-/
import Derived.Test.YtfldnjkojdnjcaaChecked
import GoSem.Claim
import GoSem.ClaimJoined
import GoSem.ClaimMapViews
import Derived.JoinedTies
import Derived.KernelRfl
namespace Go.Proofs.Ytfldnjkojdnjcaa
/- THE CELL 'sum', in the pinned program and in every row, IS THE sha256 OF THE DUMP (.gsa) THAT YtfldnjkojdnjcaaProg.lean LOADS. Nothing in Lean hashes anything: it is a label: what it is worth is what the hold of that sum in a sandbox is worth. -/
noncomputable def Try.pinned : Pinned := { name := "ytfldnjkojdnjcaa", sum := "8b6dc44ff5df2eef5798bc3c8ef2610123d5a88516978087bb357f82c272cc6b", checked := Try.checked }
namespace Rows
def none {H : Type} : Left H := { results := [], args := [] }

/-- 'laws.FnMedians': WHATEVER THE INPUT: true; the input reads as it did. -/
def fnMediansSpec : ChangeSpec := { name := "fnMedians", fn := fun _ => fun
  | [d] => { results := [.lit (.bool true)], args := [d] }
  | _ => none }
def fnMediansRow : OpenClaim := { program := "ytfldnjkojdnjcaa", sum := "8b6dc44ff5df2eef5798bc3c8ef2610123d5a88516978087bb357f82c272cc6b", func := "loop.example/g01984/laws.FnMedians", spec := "fnMedians", unfollowed := true, recurses := true, apart := false }
def FnMediansSaid : Prop := fnMediansRow.holds Try.pinned (OpenSpec.ofChange fnMediansSpec)

/-- ITS FALSE NEIGHBOUR: 'it returns false'. Refute it at one input. -/
def fnMediansWrong : ChangeSpec := { name := "fnMedians", fn := fun _ => fun
  | [d] => { results := [.lit (.bool false)], args := [d] }
  | _ => none }
def FnMediansWrongFalsely : Prop := fnMediansRow.holds Try.pinned (OpenSpec.ofChange fnMediansWrong)

/-- 'laws.FnExactCrackWith': WHATEVER THE INPUT: true; the input reads as it did. -/
def fnExactCrackWithSpec : ChangeSpec := { name := "fnExactCrackWith", fn := fun _ => fun
  | [d1, d2, d3] => { results := [.lit (.bool true)], args := [d1, d2, d3] }
  | _ => none }
def fnExactCrackWithRow : OpenClaim := { program := "ytfldnjkojdnjcaa", sum := "8b6dc44ff5df2eef5798bc3c8ef2610123d5a88516978087bb357f82c272cc6b", func := "loop.example/g01984/laws.FnExactCrackWith", spec := "fnExactCrackWith", inPlace := ["slices.overlaps[loop.example/g01984/impl.Pivot]"], unfollowed := true, recurses := true, apart := false }
def FnExactCrackWithSaid : Prop := fnExactCrackWithRow.holds Try.pinned (OpenSpec.ofChange fnExactCrackWithSpec)

/-- ITS FALSE NEIGHBOUR: 'it returns false'. Refute it at one input. -/
def fnExactCrackWithWrong : ChangeSpec := { name := "fnExactCrackWith", fn := fun _ => fun
  | [d1, d2, d3] => { results := [.lit (.bool false)], args := [d1, d2, d3] }
  | _ => none }
def FnExactCrackWithWrongFalsely : Prop := fnExactCrackWithRow.holds Try.pinned (OpenSpec.ofChange fnExactCrackWithWrong)

/-- 'laws.FnExactLevels': WHATEVER THE INPUT: true; the input reads as it did. -/
def fnExactLevelsSpec : ChangeSpec := { name := "fnExactLevels", fn := fun _ => fun
  | [d1, d2] => { results := [.lit (.bool true)], args := [d1, d2] }
  | _ => none }
def fnExactLevelsRow : OpenClaim := { program := "ytfldnjkojdnjcaa", sum := "8b6dc44ff5df2eef5798bc3c8ef2610123d5a88516978087bb357f82c272cc6b", func := "loop.example/g01984/laws.FnExactLevels", spec := "fnExactLevels", apart := false }
def FnExactLevelsSaid : Prop := fnExactLevelsRow.holds Try.pinned (OpenSpec.ofChange fnExactLevelsSpec)

/-- ITS FALSE NEIGHBOUR: 'it returns false'. Refute it at one input. -/
def fnExactLevelsWrong : ChangeSpec := { name := "fnExactLevels", fn := fun _ => fun
  | [d1, d2] => { results := [.lit (.bool false)], args := [d1, d2] }
  | _ => none }
def FnExactLevelsWrongFalsely : Prop := fnExactLevelsRow.holds Try.pinned (OpenSpec.ofChange fnExactLevelsWrong)

/-- 'laws.FnExactSwapBound': WHATEVER THE INPUT: true; the input reads as it did. -/
def fnExactSwapBoundSpec : ChangeSpec := { name := "fnExactSwapBound", fn := fun _ => fun
  | [d1, d2, d3] => { results := [.lit (.bool true)], args := [d1, d2, d3] }
  | _ => none }
def fnExactSwapBoundRow : OpenClaim := { program := "ytfldnjkojdnjcaa", sum := "8b6dc44ff5df2eef5798bc3c8ef2610123d5a88516978087bb357f82c272cc6b", func := "loop.example/g01984/laws.FnExactSwapBound", spec := "fnExactSwapBound", recurses := true, apart := false }
def FnExactSwapBoundSaid : Prop := fnExactSwapBoundRow.holds Try.pinned (OpenSpec.ofChange fnExactSwapBoundSpec)

/-- ITS FALSE NEIGHBOUR: 'it returns false'. Refute it at one input. -/
def fnExactSwapBoundWrong : ChangeSpec := { name := "fnExactSwapBound", fn := fun _ => fun
  | [d1, d2, d3] => { results := [.lit (.bool false)], args := [d1, d2, d3] }
  | _ => none }
def FnExactSwapBoundWrongFalsely : Prop := fnExactSwapBoundRow.holds Try.pinned (OpenSpec.ofChange fnExactSwapBoundWrong)

/-- 'laws.FnExactWorstQuery': WHATEVER THE INPUT: true; the input reads as it did. -/
def fnExactWorstQuerySpec : ChangeSpec := { name := "fnExactWorstQuery", fn := fun _ => fun
  | [d] => { results := [.lit (.bool true)], args := [d] }
  | _ => none }
def fnExactWorstQueryRow : OpenClaim := { program := "ytfldnjkojdnjcaa", sum := "8b6dc44ff5df2eef5798bc3c8ef2610123d5a88516978087bb357f82c272cc6b", func := "loop.example/g01984/laws.FnExactWorstQuery", spec := "fnExactWorstQuery", apart := false }
def FnExactWorstQuerySaid : Prop := fnExactWorstQueryRow.holds Try.pinned (OpenSpec.ofChange fnExactWorstQuerySpec)

/-- ITS FALSE NEIGHBOUR: 'it returns false'. Refute it at one input. -/
def fnExactWorstQueryWrong : ChangeSpec := { name := "fnExactWorstQuery", fn := fun _ => fun
  | [d] => { results := [.lit (.bool false)], args := [d] }
  | _ => none }
def FnExactWorstQueryWrongFalsely : Prop := fnExactWorstQueryRow.holds Try.pinned (OpenSpec.ofChange fnExactWorstQueryWrong)

/- THE SECOND FORM. 'bulk': how many values and letters a reading holds, each counted each time it is reached (what is shared counts as often as it is met; a slice's spare places count too). A statement '..UptoSaid' is the law's where the arguments, and the package variables that the reading takes, are together of bulk at most 1048576: NARROWER than '..Said'. Prove '..Said' where nothing that the law and all that it calls make is longer than what came in: it says more and counts as full. Else prove '..UptoSaid'. A law counts once. -/
mutual
def uptoBulk {H : Type} : DataW H → Nat
  | .lit (.string bytes) => bytes.length + 1
  | .lit _ => 1
  | .nil => 1
  | .ptr d => uptoBulk d + 1
  | .slice elems spare => uptoBulkAll elems + uptoBulkAll spare + 1
  | .agg parts => uptoBulkAll parts + 1
  | .iface _ d => uptoBulk d + 1
  | .map entries => uptoBulkEntries entries + 1
  | .held _ => 1
def uptoBulkAll {H : Type} : List (DataW H) → Nat
  | [] => 0
  | d :: r => uptoBulk d + uptoBulkAll r
def uptoBulkEntries {H : Type} : List (Lit × DataW H) → Nat
  | [] => 0
  | x :: r => uptoBulkEntry x + uptoBulkEntries r
def uptoBulkEntry {H : Type} : Lit × DataW H → Nat
  | (.string bytes, d) => bytes.length + uptoBulk d + 1
  | (_, d) => uptoBulk d + 1
 end
def uptoSmall : (H : Type) → List (DataW H) → Bool := fun _ ds => decide (uptoBulkAll ds ≤ 1048576)
def OpenSpec.upto (s : _root_.Go.ChangeSpec) : _root_.Go.OpenSpec := { _root_.Go.OpenSpec.ofChange s with cond := some uptoSmall }

/-- 'laws.FnMedians', WHERE WHAT IT READS IS OF BULK AT MOST 1048576: true; the input reads as it did. -/
def fnMediansUptoRow : OpenClaim := { program := "ytfldnjkojdnjcaa", sum := "8b6dc44ff5df2eef5798bc3c8ef2610123d5a88516978087bb357f82c272cc6b", func := "loop.example/g01984/laws.FnMedians", spec := "fnMedians", unfollowed := true, recurses := true, apart := false, narrowed := true }
def FnMediansUptoSaid : Prop := fnMediansUptoRow.holds Try.pinned (OpenSpec.upto fnMediansSpec)

/-- 'laws.FnExactCrackWith', WHERE WHAT IT READS IS OF BULK AT MOST 1048576: true; the input reads as it did. -/
def fnExactCrackWithUptoRow : OpenClaim := { program := "ytfldnjkojdnjcaa", sum := "8b6dc44ff5df2eef5798bc3c8ef2610123d5a88516978087bb357f82c272cc6b", func := "loop.example/g01984/laws.FnExactCrackWith", spec := "fnExactCrackWith", inPlace := ["slices.overlaps[loop.example/g01984/impl.Pivot]"], unfollowed := true, recurses := true, apart := false, narrowed := true }
def FnExactCrackWithUptoSaid : Prop := fnExactCrackWithUptoRow.holds Try.pinned (OpenSpec.upto fnExactCrackWithSpec)

/-- 'laws.FnExactLevels', WHERE WHAT IT READS IS OF BULK AT MOST 1048576: true; the input reads as it did. -/
def fnExactLevelsUptoRow : OpenClaim := { program := "ytfldnjkojdnjcaa", sum := "8b6dc44ff5df2eef5798bc3c8ef2610123d5a88516978087bb357f82c272cc6b", func := "loop.example/g01984/laws.FnExactLevels", spec := "fnExactLevels", apart := false, narrowed := true }
def FnExactLevelsUptoSaid : Prop := fnExactLevelsUptoRow.holds Try.pinned (OpenSpec.upto fnExactLevelsSpec)

/-- 'laws.FnExactSwapBound', WHERE WHAT IT READS IS OF BULK AT MOST 1048576: true; the input reads as it did. -/
def fnExactSwapBoundUptoRow : OpenClaim := { program := "ytfldnjkojdnjcaa", sum := "8b6dc44ff5df2eef5798bc3c8ef2610123d5a88516978087bb357f82c272cc6b", func := "loop.example/g01984/laws.FnExactSwapBound", spec := "fnExactSwapBound", recurses := true, apart := false, narrowed := true }
def FnExactSwapBoundUptoSaid : Prop := fnExactSwapBoundUptoRow.holds Try.pinned (OpenSpec.upto fnExactSwapBoundSpec)

/-- 'laws.FnExactWorstQuery', WHERE WHAT IT READS IS OF BULK AT MOST 1048576: true; the input reads as it did. -/
def fnExactWorstQueryUptoRow : OpenClaim := { program := "ytfldnjkojdnjcaa", sum := "8b6dc44ff5df2eef5798bc3c8ef2610123d5a88516978087bb357f82c272cc6b", func := "loop.example/g01984/laws.FnExactWorstQuery", spec := "fnExactWorstQuery", apart := false, narrowed := true }
def FnExactWorstQueryUptoSaid : Prop := fnExactWorstQueryUptoRow.holds Try.pinned (OpenSpec.upto fnExactWorstQuerySpec)

end Rows
end Go.Proofs.Ytfldnjkojdnjcaa
