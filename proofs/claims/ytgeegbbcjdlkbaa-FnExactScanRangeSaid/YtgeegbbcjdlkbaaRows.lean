/-
  No cell of these rows narrows 'for every input' (looked for: loops, veiled, ifaces, maps, wideKeys, modest, calm, conditions, laid).
  DERIVED. THE GIVEN ROWS OF THIS SEAT. 4 by the template 'for every input the law returns true; each argument reads behind the call as it read before'; 0 by the template 'total and deterministic' (their statements: YtgeegbbcjdlkbaaTotals.lean).
  GIVEN WITH THE SEED: the statements are not yours to turn. If you find one false, say at which input.
  Laid BY PROGRAM, IN A SANDBOX (cutbox-rows.mjs): the forced cells as the released guide's own fill.sh prints them over the translation a1c4a5c5672f0040… (all of the seat's roots in one cut). By AI agents, Wed Nov 11 2026. No macro, syntax, notation, axiom, sorry.
-/
import Derived.Test.YtgeegbbcjdlkbaaChecked
import GoSem.Claim
import GoSem.ClaimJoined
import GoSem.ClaimMapViews
import Derived.JoinedTies
import Derived.KernelRfl
namespace Go.Proofs.Ytgeegbbcjdlkbaa
/- THE CELL 'sum', in the pinned program and in every row, IS THE sha256 OF THE DUMP (.gsa) THAT YtgeegbbcjdlkbaaProg.lean LOADS. Nothing in Lean hashes anything: it is a label: what it is worth is what the hold of that sum in a sandbox is worth. -/
noncomputable def Try.pinned : Pinned := { name := "ytgeegbbcjdlkbaa", sum := "a1c4a5c5672f0040bf9c91da08af7a711a6dd757956f7431fd179ccde718491e", checked := Try.checked }
namespace Rows
def none {H : Type} : Left H := { results := [], args := [] }

/-- 'laws.FnExactIsRange': WHATEVER THE INPUT: true; the input reads as it did. -/
def fnExactIsRangeSpec : ChangeSpec := { name := "fnExactIsRange", fn := fun _ => fun
  | [d] => { results := [.lit (.bool true)], args := [d] }
  | _ => none }
def fnExactIsRangeRow : OpenClaim := { program := "ytgeegbbcjdlkbaa", sum := "a1c4a5c5672f0040bf9c91da08af7a711a6dd757956f7431fd179ccde718491e", func := "loop.example/g01984/laws.FnExactIsRange", spec := "fnExactIsRange", apart := false }
def FnExactIsRangeSaid : Prop := fnExactIsRangeRow.holds Try.pinned (OpenSpec.ofChange fnExactIsRangeSpec)

/-- ITS FALSE NEIGHBOUR: 'it returns false'. Refute it at one input. -/
def fnExactIsRangeWrong : ChangeSpec := { name := "fnExactIsRange", fn := fun _ => fun
  | [d] => { results := [.lit (.bool false)], args := [d] }
  | _ => none }
def FnExactIsRangeWrongFalsely : Prop := fnExactIsRangeRow.holds Try.pinned (OpenSpec.ofChange fnExactIsRangeWrong)

/-- 'laws.FnExactInRange': WHATEVER THE INPUT: true; the input reads as it did. -/
def fnExactInRangeSpec : ChangeSpec := { name := "fnExactInRange", fn := fun _ => fun
  | [d1, d2] => { results := [.lit (.bool true)], args := [d1, d2] }
  | _ => none }
def fnExactInRangeRow : OpenClaim := { program := "ytgeegbbcjdlkbaa", sum := "a1c4a5c5672f0040bf9c91da08af7a711a6dd757956f7431fd179ccde718491e", func := "loop.example/g01984/laws.FnExactInRange", spec := "fnExactInRange", apart := false }
def FnExactInRangeSaid : Prop := fnExactInRangeRow.holds Try.pinned (OpenSpec.ofChange fnExactInRangeSpec)

/-- ITS FALSE NEIGHBOUR: 'it returns false'. Refute it at one input. -/
def fnExactInRangeWrong : ChangeSpec := { name := "fnExactInRange", fn := fun _ => fun
  | [d1, d2] => { results := [.lit (.bool false)], args := [d1, d2] }
  | _ => none }
def FnExactInRangeWrongFalsely : Prop := fnExactInRangeRow.holds Try.pinned (OpenSpec.ofChange fnExactInRangeWrong)

/-- 'laws.FnExactMeetRanges': WHATEVER THE INPUT: true; the input reads as it did. -/
def fnExactMeetRangesSpec : ChangeSpec := { name := "fnExactMeetRanges", fn := fun _ => fun
  | [d1, d2] => { results := [.lit (.bool true)], args := [d1, d2] }
  | _ => none }
def fnExactMeetRangesRow : OpenClaim := { program := "ytgeegbbcjdlkbaa", sum := "a1c4a5c5672f0040bf9c91da08af7a711a6dd757956f7431fd179ccde718491e", func := "loop.example/g01984/laws.FnExactMeetRanges", spec := "fnExactMeetRanges", apart := false }
def FnExactMeetRangesSaid : Prop := fnExactMeetRangesRow.holds Try.pinned (OpenSpec.ofChange fnExactMeetRangesSpec)

/-- ITS FALSE NEIGHBOUR: 'it returns false'. Refute it at one input. -/
def fnExactMeetRangesWrong : ChangeSpec := { name := "fnExactMeetRanges", fn := fun _ => fun
  | [d1, d2] => { results := [.lit (.bool false)], args := [d1, d2] }
  | _ => none }
def FnExactMeetRangesWrongFalsely : Prop := fnExactMeetRangesRow.holds Try.pinned (OpenSpec.ofChange fnExactMeetRangesWrong)

/-- 'laws.FnExactScanRange': WHATEVER THE INPUT: true; the input reads as it did. -/
def fnExactScanRangeSpec : ChangeSpec := { name := "fnExactScanRange", fn := fun _ => fun
  | [d1, d2] => { results := [.lit (.bool true)], args := [d1, d2] }
  | _ => none }
def fnExactScanRangeRow : OpenClaim := { program := "ytgeegbbcjdlkbaa", sum := "a1c4a5c5672f0040bf9c91da08af7a711a6dd757956f7431fd179ccde718491e", func := "loop.example/g01984/laws.FnExactScanRange", spec := "fnExactScanRange", apart := false }
def FnExactScanRangeSaid : Prop := fnExactScanRangeRow.holds Try.pinned (OpenSpec.ofChange fnExactScanRangeSpec)

/-- ITS FALSE NEIGHBOUR: 'it returns false'. Refute it at one input. -/
def fnExactScanRangeWrong : ChangeSpec := { name := "fnExactScanRange", fn := fun _ => fun
  | [d1, d2] => { results := [.lit (.bool false)], args := [d1, d2] }
  | _ => none }
def FnExactScanRangeWrongFalsely : Prop := fnExactScanRangeRow.holds Try.pinned (OpenSpec.ofChange fnExactScanRangeWrong)

/- THE SECOND FORM. 'bulk': how many values and letters a reading holds, each counted each time it is reached (what is shared counts as often as it is met; a slice's spare places count too). A statement '..UptoSaid' is the law's where the arguments, and the package variables that the reading takes, are together of bulk at most 1048576: NARROWER than '..Said'. Prove '..Said' where nothing that the law and all that it calls make is longer than what came in: it says more and counts as full. Else prove '..UptoSaid'. A law counts once. -/
mutual
def uptoBulk {H : Type} : DataW H → Nat
  | .lit (.string bytes) => bytes.length + 1
  | .lit _ => 1
  | .nil => 1
  | .ptr d => uptoBulk d + 1
  | .slice elems spare => uptoBulkAll elems + uptoBulkAll spare + 1
  | .agg parts => uptoBulkAll parts + 1
  | .iface _ d => uptoBulk d + 1
  | .map entries => uptoBulkEntries entries + 1
  | .held _ => 1
def uptoBulkAll {H : Type} : List (DataW H) → Nat
  | [] => 0
  | d :: r => uptoBulk d + uptoBulkAll r
def uptoBulkEntries {H : Type} : List (Lit × DataW H) → Nat
  | [] => 0
  | x :: r => uptoBulkEntry x + uptoBulkEntries r
def uptoBulkEntry {H : Type} : Lit × DataW H → Nat
  | (.string bytes, d) => bytes.length + uptoBulk d + 1
  | (_, d) => uptoBulk d + 1
 end
def uptoSmall : (H : Type) → List (DataW H) → Bool := fun _ ds => decide (uptoBulkAll ds ≤ 1048576)
def OpenSpec.upto (s : _root_.Go.ChangeSpec) : _root_.Go.OpenSpec := { _root_.Go.OpenSpec.ofChange s with cond := some uptoSmall }

/-- 'laws.FnExactIsRange', WHERE WHAT IT READS IS OF BULK AT MOST 1048576: true; the input reads as it did. -/
def fnExactIsRangeUptoRow : OpenClaim := { program := "ytgeegbbcjdlkbaa", sum := "a1c4a5c5672f0040bf9c91da08af7a711a6dd757956f7431fd179ccde718491e", func := "loop.example/g01984/laws.FnExactIsRange", spec := "fnExactIsRange", apart := false, narrowed := true }
def FnExactIsRangeUptoSaid : Prop := fnExactIsRangeUptoRow.holds Try.pinned (OpenSpec.upto fnExactIsRangeSpec)

/-- 'laws.FnExactInRange', WHERE WHAT IT READS IS OF BULK AT MOST 1048576: true; the input reads as it did. -/
def fnExactInRangeUptoRow : OpenClaim := { program := "ytgeegbbcjdlkbaa", sum := "a1c4a5c5672f0040bf9c91da08af7a711a6dd757956f7431fd179ccde718491e", func := "loop.example/g01984/laws.FnExactInRange", spec := "fnExactInRange", apart := false, narrowed := true }
def FnExactInRangeUptoSaid : Prop := fnExactInRangeUptoRow.holds Try.pinned (OpenSpec.upto fnExactInRangeSpec)

/-- 'laws.FnExactMeetRanges', WHERE WHAT IT READS IS OF BULK AT MOST 1048576: true; the input reads as it did. -/
def fnExactMeetRangesUptoRow : OpenClaim := { program := "ytgeegbbcjdlkbaa", sum := "a1c4a5c5672f0040bf9c91da08af7a711a6dd757956f7431fd179ccde718491e", func := "loop.example/g01984/laws.FnExactMeetRanges", spec := "fnExactMeetRanges", apart := false, narrowed := true }
def FnExactMeetRangesUptoSaid : Prop := fnExactMeetRangesUptoRow.holds Try.pinned (OpenSpec.upto fnExactMeetRangesSpec)

/-- 'laws.FnExactScanRange', WHERE WHAT IT READS IS OF BULK AT MOST 1048576: true; the input reads as it did. -/
def fnExactScanRangeUptoRow : OpenClaim := { program := "ytgeegbbcjdlkbaa", sum := "a1c4a5c5672f0040bf9c91da08af7a711a6dd757956f7431fd179ccde718491e", func := "loop.example/g01984/laws.FnExactScanRange", spec := "fnExactScanRange", apart := false, narrowed := true }
def FnExactScanRangeUptoSaid : Prop := fnExactScanRangeUptoRow.holds Try.pinned (OpenSpec.upto fnExactScanRangeSpec)

end Rows
end Go.Proofs.Ytgeegbbcjdlkbaa
