/-
  No cell of these rows narrows 'for every input' (looked for: loops, veiled, ifaces, maps, wideKeys, modest, calm, conditions, laid).
  DERIVED. THE GIVEN ROWS OF THIS SEAT. 6 by the template 'for every input the law returns true; each argument reads behind the call as it read before'; 0 by the template 'total and deterministic' (their statements: YtajfhalalnlejaaTotals.lean).
  GIVEN WITH THE SEED: the statements are not yours to turn. If you find one false, say at which input.
  Laid BY PROGRAM, IN A SANDBOX (cutbox-rows.mjs): the forced cells as the released guide's own fill.sh prints them over the translation 64ea0687d7bc59c9… (all of the seat's roots in one cut). By AI agents, Wed Nov 11 2026. No macro, syntax, notation, axiom, sorry.
-/
import Derived.Test.YtajfhalalnlejaaChecked
import GoSem.Claim
import GoSem.ClaimJoined
import GoSem.ClaimMapViews
import Derived.JoinedTies
import Derived.KernelRfl
namespace Go.Proofs.Ytajfhalalnlejaa
/- THE CELL 'sum', in the pinned program and in every row, IS THE sha256 OF THE DUMP (.gsa) THAT YtajfhalalnlejaaProg.lean LOADS. Nothing in Lean hashes anything: it is a label: what it is worth is what the hold of that sum in a sandbox is worth. -/
noncomputable def Try.pinned : Pinned := { name := "ytajfhalalnlejaa", sum := "64ea0687d7bc59c99628459a2e0a737f42d2b3dff7b898a8e7b7655a92650c6f", checked := Try.checked }
namespace Rows
def none {H : Type} : Left H := { results := [], args := [] }

/-- 'laws.FnExactReplayLedger': WHATEVER THE INPUT: true; the input reads as it did. -/
def fnExactReplayLedgerSpec : ChangeSpec := { name := "fnExactReplayLedger", fn := fun _ => fun
  | [d1, d2] => { results := [.lit (.bool true)], args := [d1, d2] }
  | _ => none }
def fnExactReplayLedgerRow : OpenClaim := { program := "ytajfhalalnlejaa", sum := "64ea0687d7bc59c99628459a2e0a737f42d2b3dff7b898a8e7b7655a92650c6f", func := "loop.example/g01984/laws.FnExactReplayLedger", spec := "fnExactReplayLedger", inPlace := ["slices.overlaps[loop.example/g01984/impl.Pivot]"], unfollowed := true, recurses := true, apart := false }
def FnExactReplayLedgerSaid : Prop := fnExactReplayLedgerRow.holds Try.pinned (OpenSpec.ofChange fnExactReplayLedgerSpec)

/-- ITS FALSE NEIGHBOUR: 'it returns false'. Refute it at one input. -/
def fnExactReplayLedgerWrong : ChangeSpec := { name := "fnExactReplayLedger", fn := fun _ => fun
  | [d1, d2] => { results := [.lit (.bool false)], args := [d1, d2] }
  | _ => none }
def FnExactReplayLedgerWrongFalsely : Prop := fnExactReplayLedgerRow.holds Try.pinned (OpenSpec.ofChange fnExactReplayLedgerWrong)

/-- 'laws.FnExactRippleInsert': WHATEVER THE INPUT: true; the input reads as it did. -/
def fnExactRippleInsertSpec : ChangeSpec := { name := "fnExactRippleInsert", fn := fun _ => fun
  | [d1, d2] => { results := [.lit (.bool true)], args := [d1, d2] }
  | _ => none }
def fnExactRippleInsertRow : OpenClaim := { program := "ytajfhalalnlejaa", sum := "64ea0687d7bc59c99628459a2e0a737f42d2b3dff7b898a8e7b7655a92650c6f", func := "loop.example/g01984/laws.FnExactRippleInsert", spec := "fnExactRippleInsert", apart := false }
def FnExactRippleInsertSaid : Prop := fnExactRippleInsertRow.holds Try.pinned (OpenSpec.ofChange fnExactRippleInsertSpec)

/-- ITS FALSE NEIGHBOUR: 'it returns false'. Refute it at one input. -/
def fnExactRippleInsertWrong : ChangeSpec := { name := "fnExactRippleInsert", fn := fun _ => fun
  | [d1, d2] => { results := [.lit (.bool false)], args := [d1, d2] }
  | _ => none }
def FnExactRippleInsertWrongFalsely : Prop := fnExactRippleInsertRow.holds Try.pinned (OpenSpec.ofChange fnExactRippleInsertWrong)

/-- 'laws.FnRipples': WHATEVER THE INPUT: true; the input reads as it did. -/
def fnRipplesSpec : ChangeSpec := { name := "fnRipples", fn := fun _ => fun
  | [d] => { results := [.lit (.bool true)], args := [d] }
  | _ => none }
def fnRipplesRow : OpenClaim := { program := "ytajfhalalnlejaa", sum := "64ea0687d7bc59c99628459a2e0a737f42d2b3dff7b898a8e7b7655a92650c6f", func := "loop.example/g01984/laws.FnRipples", spec := "fnRipples", apart := false }
def FnRipplesSaid : Prop := fnRipplesRow.holds Try.pinned (OpenSpec.ofChange fnRipplesSpec)

/-- ITS FALSE NEIGHBOUR: 'it returns false'. Refute it at one input. -/
def fnRipplesWrong : ChangeSpec := { name := "fnRipples", fn := fun _ => fun
  | [d] => { results := [.lit (.bool false)], args := [d] }
  | _ => none }
def FnRipplesWrongFalsely : Prop := fnRipplesRow.holds Try.pinned (OpenSpec.ofChange fnRipplesWrong)

/-- 'laws.FnExactIsPending': WHATEVER THE INPUT: true; the input reads as it did. -/
def fnExactIsPendingSpec : ChangeSpec := { name := "fnExactIsPending", fn := fun _ => fun
  | [d1, d2] => { results := [.lit (.bool true)], args := [d1, d2] }
  | _ => none }
def fnExactIsPendingRow : OpenClaim := { program := "ytajfhalalnlejaa", sum := "64ea0687d7bc59c99628459a2e0a737f42d2b3dff7b898a8e7b7655a92650c6f", func := "loop.example/g01984/laws.FnExactIsPending", spec := "fnExactIsPending", apart := false }
def FnExactIsPendingSaid : Prop := fnExactIsPendingRow.holds Try.pinned (OpenSpec.ofChange fnExactIsPendingSpec)

/-- ITS FALSE NEIGHBOUR: 'it returns false'. Refute it at one input. -/
def fnExactIsPendingWrong : ChangeSpec := { name := "fnExactIsPending", fn := fun _ => fun
  | [d1, d2] => { results := [.lit (.bool false)], args := [d1, d2] }
  | _ => none }
def FnExactIsPendingWrongFalsely : Prop := fnExactIsPendingRow.holds Try.pinned (OpenSpec.ofChange fnExactIsPendingWrong)

/-- 'laws.FnExactAddInsert': WHATEVER THE INPUT: true; the input reads as it did. -/
def fnExactAddInsertSpec : ChangeSpec := { name := "fnExactAddInsert", fn := fun _ => fun
  | [d1, d2, d3] => { results := [.lit (.bool true)], args := [d1, d2, d3] }
  | _ => none }
def fnExactAddInsertRow : OpenClaim := { program := "ytajfhalalnlejaa", sum := "64ea0687d7bc59c99628459a2e0a737f42d2b3dff7b898a8e7b7655a92650c6f", func := "loop.example/g01984/laws.FnExactAddInsert", spec := "fnExactAddInsert", apart := false }
def FnExactAddInsertSaid : Prop := fnExactAddInsertRow.holds Try.pinned (OpenSpec.ofChange fnExactAddInsertSpec)

/-- ITS FALSE NEIGHBOUR: 'it returns false'. Refute it at one input. -/
def fnExactAddInsertWrong : ChangeSpec := { name := "fnExactAddInsert", fn := fun _ => fun
  | [d1, d2, d3] => { results := [.lit (.bool false)], args := [d1, d2, d3] }
  | _ => none }
def FnExactAddInsertWrongFalsely : Prop := fnExactAddInsertRow.holds Try.pinned (OpenSpec.ofChange fnExactAddInsertWrong)

/-- 'laws.FnExactAddDelete': WHATEVER THE INPUT: true; the input reads as it did. -/
def fnExactAddDeleteSpec : ChangeSpec := { name := "fnExactAddDelete", fn := fun _ => fun
  | [d1, d2, d3] => { results := [.lit (.bool true)], args := [d1, d2, d3] }
  | _ => none }
def fnExactAddDeleteRow : OpenClaim := { program := "ytajfhalalnlejaa", sum := "64ea0687d7bc59c99628459a2e0a737f42d2b3dff7b898a8e7b7655a92650c6f", func := "loop.example/g01984/laws.FnExactAddDelete", spec := "fnExactAddDelete", unfollowed := true, recurses := true, apart := false }
def FnExactAddDeleteSaid : Prop := fnExactAddDeleteRow.holds Try.pinned (OpenSpec.ofChange fnExactAddDeleteSpec)

/-- ITS FALSE NEIGHBOUR: 'it returns false'. Refute it at one input. -/
def fnExactAddDeleteWrong : ChangeSpec := { name := "fnExactAddDelete", fn := fun _ => fun
  | [d1, d2, d3] => { results := [.lit (.bool false)], args := [d1, d2, d3] }
  | _ => none }
def FnExactAddDeleteWrongFalsely : Prop := fnExactAddDeleteRow.holds Try.pinned (OpenSpec.ofChange fnExactAddDeleteWrong)

/- THE SECOND FORM. 'bulk': how many values and letters a reading holds, each counted each time it is reached (what is shared counts as often as it is met; a slice's spare places count too). A statement '..UptoSaid' is the law's where the arguments, and the package variables that the reading takes, are together of bulk at most 1048576: NARROWER than '..Said'. Prove '..Said' where nothing that the law and all that it calls make is longer than what came in: it says more and counts as full. Else prove '..UptoSaid'. A law counts once. -/
mutual
def uptoBulk {H : Type} : DataW H → Nat
  | .lit (.string bytes) => bytes.length + 1
  | .lit _ => 1
  | .nil => 1
  | .ptr d => uptoBulk d + 1
  | .slice elems spare => uptoBulkAll elems + uptoBulkAll spare + 1
  | .agg parts => uptoBulkAll parts + 1
  | .iface _ d => uptoBulk d + 1
  | .map entries => uptoBulkEntries entries + 1
  | .held _ => 1
def uptoBulkAll {H : Type} : List (DataW H) → Nat
  | [] => 0
  | d :: r => uptoBulk d + uptoBulkAll r
def uptoBulkEntries {H : Type} : List (Lit × DataW H) → Nat
  | [] => 0
  | x :: r => uptoBulkEntry x + uptoBulkEntries r
def uptoBulkEntry {H : Type} : Lit × DataW H → Nat
  | (.string bytes, d) => bytes.length + uptoBulk d + 1
  | (_, d) => uptoBulk d + 1
 end
def uptoSmall : (H : Type) → List (DataW H) → Bool := fun _ ds => decide (uptoBulkAll ds ≤ 1048576)
def OpenSpec.upto (s : _root_.Go.ChangeSpec) : _root_.Go.OpenSpec := { _root_.Go.OpenSpec.ofChange s with cond := some uptoSmall }

/-- 'laws.FnExactReplayLedger', WHERE WHAT IT READS IS OF BULK AT MOST 1048576: true; the input reads as it did. -/
def fnExactReplayLedgerUptoRow : OpenClaim := { program := "ytajfhalalnlejaa", sum := "64ea0687d7bc59c99628459a2e0a737f42d2b3dff7b898a8e7b7655a92650c6f", func := "loop.example/g01984/laws.FnExactReplayLedger", spec := "fnExactReplayLedger", inPlace := ["slices.overlaps[loop.example/g01984/impl.Pivot]"], unfollowed := true, recurses := true, apart := false, narrowed := true }
def FnExactReplayLedgerUptoSaid : Prop := fnExactReplayLedgerUptoRow.holds Try.pinned (OpenSpec.upto fnExactReplayLedgerSpec)

/-- 'laws.FnExactRippleInsert', WHERE WHAT IT READS IS OF BULK AT MOST 1048576: true; the input reads as it did. -/
def fnExactRippleInsertUptoRow : OpenClaim := { program := "ytajfhalalnlejaa", sum := "64ea0687d7bc59c99628459a2e0a737f42d2b3dff7b898a8e7b7655a92650c6f", func := "loop.example/g01984/laws.FnExactRippleInsert", spec := "fnExactRippleInsert", apart := false, narrowed := true }
def FnExactRippleInsertUptoSaid : Prop := fnExactRippleInsertUptoRow.holds Try.pinned (OpenSpec.upto fnExactRippleInsertSpec)

/-- 'laws.FnRipples', WHERE WHAT IT READS IS OF BULK AT MOST 1048576: true; the input reads as it did. -/
def fnRipplesUptoRow : OpenClaim := { program := "ytajfhalalnlejaa", sum := "64ea0687d7bc59c99628459a2e0a737f42d2b3dff7b898a8e7b7655a92650c6f", func := "loop.example/g01984/laws.FnRipples", spec := "fnRipples", apart := false, narrowed := true }
def FnRipplesUptoSaid : Prop := fnRipplesUptoRow.holds Try.pinned (OpenSpec.upto fnRipplesSpec)

/-- 'laws.FnExactIsPending', WHERE WHAT IT READS IS OF BULK AT MOST 1048576: true; the input reads as it did. -/
def fnExactIsPendingUptoRow : OpenClaim := { program := "ytajfhalalnlejaa", sum := "64ea0687d7bc59c99628459a2e0a737f42d2b3dff7b898a8e7b7655a92650c6f", func := "loop.example/g01984/laws.FnExactIsPending", spec := "fnExactIsPending", apart := false, narrowed := true }
def FnExactIsPendingUptoSaid : Prop := fnExactIsPendingUptoRow.holds Try.pinned (OpenSpec.upto fnExactIsPendingSpec)

/-- 'laws.FnExactAddInsert', WHERE WHAT IT READS IS OF BULK AT MOST 1048576: true; the input reads as it did. -/
def fnExactAddInsertUptoRow : OpenClaim := { program := "ytajfhalalnlejaa", sum := "64ea0687d7bc59c99628459a2e0a737f42d2b3dff7b898a8e7b7655a92650c6f", func := "loop.example/g01984/laws.FnExactAddInsert", spec := "fnExactAddInsert", apart := false, narrowed := true }
def FnExactAddInsertUptoSaid : Prop := fnExactAddInsertUptoRow.holds Try.pinned (OpenSpec.upto fnExactAddInsertSpec)

/-- 'laws.FnExactAddDelete', WHERE WHAT IT READS IS OF BULK AT MOST 1048576: true; the input reads as it did. -/
def fnExactAddDeleteUptoRow : OpenClaim := { program := "ytajfhalalnlejaa", sum := "64ea0687d7bc59c99628459a2e0a737f42d2b3dff7b898a8e7b7655a92650c6f", func := "loop.example/g01984/laws.FnExactAddDelete", spec := "fnExactAddDelete", unfollowed := true, recurses := true, apart := false, narrowed := true }
def FnExactAddDeleteUptoSaid : Prop := fnExactAddDeleteUptoRow.holds Try.pinned (OpenSpec.upto fnExactAddDeleteSpec)

end Rows
end Go.Proofs.Ytajfhalalnlejaa
