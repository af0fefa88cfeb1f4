/-
  No cell of these rows narrows 'for every input' (looked for: loops, veiled, ifaces, maps, wideKeys, modest, calm, conditions, laid).
  DERIVED. THE GIVEN ROWS OF THIS SEAT. 7 by the template 'for every input the law returns true; each argument reads behind the call as it read before'; 0 by the template 'total and deterministic' (their statements: YtknmoinmfladbaaTotals.lean).
  GIVEN WITH THE SEED: the statements are not yours to turn. If you find one false, say at which input.
  Laid BY PROGRAM, IN A SANDBOX (cutbox-rows.mjs): the forced cells as the released guide's own fill.sh prints them over the translation cf4657eb1ad844eb… (all of the seat's roots in one cut). By AI agents, Wed Nov 11 2026. No macro, syntax, notation, axiom, sorry.
-/
import Derived.Test.YtknmoinmfladbaaChecked
import GoSem.Claim
import GoSem.ClaimJoined
import GoSem.ClaimMapViews
import Derived.JoinedTies
import Derived.KernelRfl
namespace Go.Proofs.Ytknmoinmfladbaa
/- THE CELL 'sum', in the pinned program and in every row, IS THE sha256 OF THE DUMP (.gsa) THAT YtknmoinmfladbaaProg.lean LOADS. Nothing in Lean hashes anything: it is a label: what it is worth is what the hold of that sum in a sandbox is worth. -/
noncomputable def Try.pinned : Pinned := { name := "ytknmoinmfladbaa", sum := "cf4657eb1ad844eb3d81a97b9817af71472a16b2c24112fbe94313222586837f", checked := Try.checked }
namespace Rows
def none {H : Type} : Left H := { results := [], args := [] }

/-- 'laws.FnExactNewCracker': WHATEVER THE INPUT: true; the input reads as it did. -/
def fnExactNewCrackerSpec : ChangeSpec := { name := "fnExactNewCracker", fn := fun _ => fun
  | [d] => { results := [.lit (.bool true)], args := [d] }
  | _ => none }
def fnExactNewCrackerRow : OpenClaim := { program := "ytknmoinmfladbaa", sum := "cf4657eb1ad844eb3d81a97b9817af71472a16b2c24112fbe94313222586837f", func := "loop.example/g01984/laws.FnExactNewCracker", spec := "fnExactNewCracker", apart := false }
def FnExactNewCrackerSaid : Prop := fnExactNewCrackerRow.holds Try.pinned (OpenSpec.ofChange fnExactNewCrackerSpec)

/-- ITS FALSE NEIGHBOUR: 'it returns false'. Refute it at one input. -/
def fnExactNewCrackerWrong : ChangeSpec := { name := "fnExactNewCracker", fn := fun _ => fun
  | [d] => { results := [.lit (.bool false)], args := [d] }
  | _ => none }
def FnExactNewCrackerWrongFalsely : Prop := fnExactNewCrackerRow.holds Try.pinned (OpenSpec.ofChange fnExactNewCrackerWrong)

/-- 'laws.FnExactIsCracker': WHATEVER THE INPUT: true; the input reads as it did. -/
def fnExactIsCrackerSpec : ChangeSpec := { name := "fnExactIsCracker", fn := fun _ => fun
  | [d] => { results := [.lit (.bool true)], args := [d] }
  | _ => none }
def fnExactIsCrackerRow : OpenClaim := { program := "ytknmoinmfladbaa", sum := "cf4657eb1ad844eb3d81a97b9817af71472a16b2c24112fbe94313222586837f", func := "loop.example/g01984/laws.FnExactIsCracker", spec := "fnExactIsCracker", apart := false }
def FnExactIsCrackerSaid : Prop := fnExactIsCrackerRow.holds Try.pinned (OpenSpec.ofChange fnExactIsCrackerSpec)

/-- ITS FALSE NEIGHBOUR: 'it returns false'. Refute it at one input. -/
def fnExactIsCrackerWrong : ChangeSpec := { name := "fnExactIsCracker", fn := fun _ => fun
  | [d] => { results := [.lit (.bool false)], args := [d] }
  | _ => none }
def FnExactIsCrackerWrongFalsely : Prop := fnExactIsCrackerRow.holds Try.pinned (OpenSpec.ofChange fnExactIsCrackerWrong)

/-- 'laws.FnExactFindPivot': WHATEVER THE INPUT: true; the input reads as it did. -/
def fnExactFindPivotSpec : ChangeSpec := { name := "fnExactFindPivot", fn := fun _ => fun
  | [d1, d2] => { results := [.lit (.bool true)], args := [d1, d2] }
  | _ => none }
def fnExactFindPivotRow : OpenClaim := { program := "ytknmoinmfladbaa", sum := "cf4657eb1ad844eb3d81a97b9817af71472a16b2c24112fbe94313222586837f", func := "loop.example/g01984/laws.FnExactFindPivot", spec := "fnExactFindPivot", apart := false }
def FnExactFindPivotSaid : Prop := fnExactFindPivotRow.holds Try.pinned (OpenSpec.ofChange fnExactFindPivotSpec)

/-- ITS FALSE NEIGHBOUR: 'it returns false'. Refute it at one input. -/
def fnExactFindPivotWrong : ChangeSpec := { name := "fnExactFindPivot", fn := fun _ => fun
  | [d1, d2] => { results := [.lit (.bool false)], args := [d1, d2] }
  | _ => none }
def FnExactFindPivotWrongFalsely : Prop := fnExactFindPivotRow.holds Try.pinned (OpenSpec.ofChange fnExactFindPivotWrong)

/-- 'laws.FnExactPieceOf': WHATEVER THE INPUT: true; the input reads as it did. -/
def fnExactPieceOfSpec : ChangeSpec := { name := "fnExactPieceOf", fn := fun _ => fun
  | [d1, d2] => { results := [.lit (.bool true)], args := [d1, d2] }
  | _ => none }
def fnExactPieceOfRow : OpenClaim := { program := "ytknmoinmfladbaa", sum := "cf4657eb1ad844eb3d81a97b9817af71472a16b2c24112fbe94313222586837f", func := "loop.example/g01984/laws.FnExactPieceOf", spec := "fnExactPieceOf", apart := false }
def FnExactPieceOfSaid : Prop := fnExactPieceOfRow.holds Try.pinned (OpenSpec.ofChange fnExactPieceOfSpec)

/-- ITS FALSE NEIGHBOUR: 'it returns false'. Refute it at one input. -/
def fnExactPieceOfWrong : ChangeSpec := { name := "fnExactPieceOf", fn := fun _ => fun
  | [d1, d2] => { results := [.lit (.bool false)], args := [d1, d2] }
  | _ => none }
def FnExactPieceOfWrongFalsely : Prop := fnExactPieceOfRow.holds Try.pinned (OpenSpec.ofChange fnExactPieceOfWrong)

/-- 'laws.FnExactCountPieces': WHATEVER THE INPUT: true; the input reads as it did. -/
def fnExactCountPiecesSpec : ChangeSpec := { name := "fnExactCountPieces", fn := fun _ => fun
  | [d] => { results := [.lit (.bool true)], args := [d] }
  | _ => none }
def fnExactCountPiecesRow : OpenClaim := { program := "ytknmoinmfladbaa", sum := "cf4657eb1ad844eb3d81a97b9817af71472a16b2c24112fbe94313222586837f", func := "loop.example/g01984/laws.FnExactCountPieces", spec := "fnExactCountPieces", apart := false }
def FnExactCountPiecesSaid : Prop := fnExactCountPiecesRow.holds Try.pinned (OpenSpec.ofChange fnExactCountPiecesSpec)

/-- ITS FALSE NEIGHBOUR: 'it returns false'. Refute it at one input. -/
def fnExactCountPiecesWrong : ChangeSpec := { name := "fnExactCountPieces", fn := fun _ => fun
  | [d] => { results := [.lit (.bool false)], args := [d] }
  | _ => none }
def FnExactCountPiecesWrongFalsely : Prop := fnExactCountPiecesRow.holds Try.pinned (OpenSpec.ofChange fnExactCountPiecesWrong)

/-- 'laws.FnExactLargestPiece': WHATEVER THE INPUT: true; the input reads as it did. -/
def fnExactLargestPieceSpec : ChangeSpec := { name := "fnExactLargestPiece", fn := fun _ => fun
  | [d] => { results := [.lit (.bool true)], args := [d] }
  | _ => none }
def fnExactLargestPieceRow : OpenClaim := { program := "ytknmoinmfladbaa", sum := "cf4657eb1ad844eb3d81a97b9817af71472a16b2c24112fbe94313222586837f", func := "loop.example/g01984/laws.FnExactLargestPiece", spec := "fnExactLargestPiece", apart := false }
def FnExactLargestPieceSaid : Prop := fnExactLargestPieceRow.holds Try.pinned (OpenSpec.ofChange fnExactLargestPieceSpec)

/-- ITS FALSE NEIGHBOUR: 'it returns false'. Refute it at one input. -/
def fnExactLargestPieceWrong : ChangeSpec := { name := "fnExactLargestPiece", fn := fun _ => fun
  | [d] => { results := [.lit (.bool false)], args := [d] }
  | _ => none }
def FnExactLargestPieceWrongFalsely : Prop := fnExactLargestPieceRow.holds Try.pinned (OpenSpec.ofChange fnExactLargestPieceWrong)

/-- 'laws.FnExactEqualCrackers': WHATEVER THE INPUT: true; the input reads as it did. -/
def fnExactEqualCrackersSpec : ChangeSpec := { name := "fnExactEqualCrackers", fn := fun _ => fun
  | [d1, d2] => { results := [.lit (.bool true)], args := [d1, d2] }
  | _ => none }
def fnExactEqualCrackersRow : OpenClaim := { program := "ytknmoinmfladbaa", sum := "cf4657eb1ad844eb3d81a97b9817af71472a16b2c24112fbe94313222586837f", func := "loop.example/g01984/laws.FnExactEqualCrackers", spec := "fnExactEqualCrackers", apart := false }
def FnExactEqualCrackersSaid : Prop := fnExactEqualCrackersRow.holds Try.pinned (OpenSpec.ofChange fnExactEqualCrackersSpec)

/-- ITS FALSE NEIGHBOUR: 'it returns false'. Refute it at one input. -/
def fnExactEqualCrackersWrong : ChangeSpec := { name := "fnExactEqualCrackers", fn := fun _ => fun
  | [d1, d2] => { results := [.lit (.bool false)], args := [d1, d2] }
  | _ => none }
def FnExactEqualCrackersWrongFalsely : Prop := fnExactEqualCrackersRow.holds Try.pinned (OpenSpec.ofChange fnExactEqualCrackersWrong)

/- THE SECOND FORM. 'bulk': how many values and letters a reading holds, each counted each time it is reached (what is shared counts as often as it is met; a slice's spare places count too). A statement '..UptoSaid' is the law's where the arguments, and the package variables that the reading takes, are together of bulk at most 1048576: NARROWER than '..Said'. Prove '..Said' where nothing that the law and all that it calls make is longer than what came in: it says more and counts as full. Else prove '..UptoSaid'. A law counts once. -/
mutual
def uptoBulk {H : Type} : DataW H → Nat
  | .lit (.string bytes) => bytes.length + 1
  | .lit _ => 1
  | .nil => 1
  | .ptr d => uptoBulk d + 1
  | .slice elems spare => uptoBulkAll elems + uptoBulkAll spare + 1
  | .agg parts => uptoBulkAll parts + 1
  | .iface _ d => uptoBulk d + 1
  | .map entries => uptoBulkEntries entries + 1
  | .held _ => 1
def uptoBulkAll {H : Type} : List (DataW H) → Nat
  | [] => 0
  | d :: r => uptoBulk d + uptoBulkAll r
def uptoBulkEntries {H : Type} : List (Lit × DataW H) → Nat
  | [] => 0
  | x :: r => uptoBulkEntry x + uptoBulkEntries r
def uptoBulkEntry {H : Type} : Lit × DataW H → Nat
  | (.string bytes, d) => bytes.length + uptoBulk d + 1
  | (_, d) => uptoBulk d + 1
 end
def uptoSmall : (H : Type) → List (DataW H) → Bool := fun _ ds => decide (uptoBulkAll ds ≤ 1048576)
def OpenSpec.upto (s : _root_.Go.ChangeSpec) : _root_.Go.OpenSpec := { _root_.Go.OpenSpec.ofChange s with cond := some uptoSmall }

/-- 'laws.FnExactNewCracker', WHERE WHAT IT READS IS OF BULK AT MOST 1048576: true; the input reads as it did. -/
def fnExactNewCrackerUptoRow : OpenClaim := { program := "ytknmoinmfladbaa", sum := "cf4657eb1ad844eb3d81a97b9817af71472a16b2c24112fbe94313222586837f", func := "loop.example/g01984/laws.FnExactNewCracker", spec := "fnExactNewCracker", apart := false, narrowed := true }
def FnExactNewCrackerUptoSaid : Prop := fnExactNewCrackerUptoRow.holds Try.pinned (OpenSpec.upto fnExactNewCrackerSpec)

/-- 'laws.FnExactIsCracker', WHERE WHAT IT READS IS OF BULK AT MOST 1048576: true; the input reads as it did. -/
def fnExactIsCrackerUptoRow : OpenClaim := { program := "ytknmoinmfladbaa", sum := "cf4657eb1ad844eb3d81a97b9817af71472a16b2c24112fbe94313222586837f", func := "loop.example/g01984/laws.FnExactIsCracker", spec := "fnExactIsCracker", apart := false, narrowed := true }
def FnExactIsCrackerUptoSaid : Prop := fnExactIsCrackerUptoRow.holds Try.pinned (OpenSpec.upto fnExactIsCrackerSpec)

/-- 'laws.FnExactFindPivot', WHERE WHAT IT READS IS OF BULK AT MOST 1048576: true; the input reads as it did. -/
def fnExactFindPivotUptoRow : OpenClaim := { program := "ytknmoinmfladbaa", sum := "cf4657eb1ad844eb3d81a97b9817af71472a16b2c24112fbe94313222586837f", func := "loop.example/g01984/laws.FnExactFindPivot", spec := "fnExactFindPivot", apart := false, narrowed := true }
def FnExactFindPivotUptoSaid : Prop := fnExactFindPivotUptoRow.holds Try.pinned (OpenSpec.upto fnExactFindPivotSpec)

/-- 'laws.FnExactPieceOf', WHERE WHAT IT READS IS OF BULK AT MOST 1048576: true; the input reads as it did. -/
def fnExactPieceOfUptoRow : OpenClaim := { program := "ytknmoinmfladbaa", sum := "cf4657eb1ad844eb3d81a97b9817af71472a16b2c24112fbe94313222586837f", func := "loop.example/g01984/laws.FnExactPieceOf", spec := "fnExactPieceOf", apart := false, narrowed := true }
def FnExactPieceOfUptoSaid : Prop := fnExactPieceOfUptoRow.holds Try.pinned (OpenSpec.upto fnExactPieceOfSpec)

/-- 'laws.FnExactCountPieces', WHERE WHAT IT READS IS OF BULK AT MOST 1048576: true; the input reads as it did. -/
def fnExactCountPiecesUptoRow : OpenClaim := { program := "ytknmoinmfladbaa", sum := "cf4657eb1ad844eb3d81a97b9817af71472a16b2c24112fbe94313222586837f", func := "loop.example/g01984/laws.FnExactCountPieces", spec := "fnExactCountPieces", apart := false, narrowed := true }
def FnExactCountPiecesUptoSaid : Prop := fnExactCountPiecesUptoRow.holds Try.pinned (OpenSpec.upto fnExactCountPiecesSpec)

/-- 'laws.FnExactLargestPiece', WHERE WHAT IT READS IS OF BULK AT MOST 1048576: true; the input reads as it did. -/
def fnExactLargestPieceUptoRow : OpenClaim := { program := "ytknmoinmfladbaa", sum := "cf4657eb1ad844eb3d81a97b9817af71472a16b2c24112fbe94313222586837f", func := "loop.example/g01984/laws.FnExactLargestPiece", spec := "fnExactLargestPiece", apart := false, narrowed := true }
def FnExactLargestPieceUptoSaid : Prop := fnExactLargestPieceUptoRow.holds Try.pinned (OpenSpec.upto fnExactLargestPieceSpec)

/-- 'laws.FnExactEqualCrackers', WHERE WHAT IT READS IS OF BULK AT MOST 1048576: true; the input reads as it did. -/
def fnExactEqualCrackersUptoRow : OpenClaim := { program := "ytknmoinmfladbaa", sum := "cf4657eb1ad844eb3d81a97b9817af71472a16b2c24112fbe94313222586837f", func := "loop.example/g01984/laws.FnExactEqualCrackers", spec := "fnExactEqualCrackers", apart := false, narrowed := true }
def FnExactEqualCrackersUptoSaid : Prop := fnExactEqualCrackersUptoRow.holds Try.pinned (OpenSpec.upto fnExactEqualCrackersSpec)

end Rows
end Go.Proofs.Ytknmoinmfladbaa
