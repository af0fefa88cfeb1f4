/-
  No cell of these rows narrows 'for every input' (looked for: loops, veiled, ifaces, maps, wideKeys, modest, calm, conditions, laid).
  DERIVED. THE GIVEN ROWS OF THIS SEAT. 8 by the template 'for every input the law returns true; each argument reads behind the call as it read before'; 0 by the template 'total and deterministic' (their statements: YtkhhlifnbelckaaTotals.lean).
  GIVEN WITH THE SEED: the statements are not yours to turn. If you find one false, say at which input.
  Laid BY PROGRAM, IN A SANDBOX (cutbox-rows.mjs): the forced cells as the released guide's own fill.sh prints them over the translation cdf50ee69dbd4793… (all of the seat's roots in one cut). By AI agents, Wed Nov 11 2026. No macro, syntax, notation, axiom, sorry.
-/
import Derived.Test.YtkhhlifnbelckaaChecked
import GoSem.Claim
import GoSem.ClaimJoined
import GoSem.ClaimMapViews
import Derived.JoinedTies
import Derived.KernelRfl
namespace Go.Proofs.Ytkhhlifnbelckaa
/- THE CELL 'sum', in the pinned program and in every row, IS THE sha256 OF THE DUMP (.gsa) THAT YtkhhlifnbelckaaProg.lean LOADS. Nothing in Lean hashes anything: it is a label: what it is worth is what the hold of that sum in a sandbox is worth. -/
noncomputable def Try.pinned : Pinned := { name := "ytkhhlifnbelckaa", sum := "cdf50ee69dbd479311ca7e6ddff971cf443e2d1e8b75413fb749e02fc950b448", checked := Try.checked }
namespace Rows
def none {H : Type} : Left H := { results := [], args := [] }

/-- 'laws.FnCracks': WHATEVER THE INPUT: true; the input reads as it did. -/
def fnCracksSpec : ChangeSpec := { name := "fnCracks", fn := fun _ => fun
  | [d] => { results := [.lit (.bool true)], args := [d] }
  | _ => none }
def fnCracksRow : OpenClaim := { program := "ytkhhlifnbelckaa", sum := "cdf50ee69dbd479311ca7e6ddff971cf443e2d1e8b75413fb749e02fc950b448", func := "loop.example/g01984/laws.FnCracks", spec := "fnCracks", inPlace := ["slices.overlaps[loop.example/g01984/impl.Pivot]"], apart := false }
def FnCracksSaid : Prop := fnCracksRow.holds Try.pinned (OpenSpec.ofChange fnCracksSpec)

/-- ITS FALSE NEIGHBOUR: 'it returns false'. Refute it at one input. -/
def fnCracksWrong : ChangeSpec := { name := "fnCracks", fn := fun _ => fun
  | [d] => { results := [.lit (.bool false)], args := [d] }
  | _ => none }
def FnCracksWrongFalsely : Prop := fnCracksRow.holds Try.pinned (OpenSpec.ofChange fnCracksWrong)

/-- 'laws.FnSelects': WHATEVER THE INPUT: true; the input reads as it did. -/
def fnSelectsSpec : ChangeSpec := { name := "fnSelects", fn := fun _ => fun
  | [d] => { results := [.lit (.bool true)], args := [d] }
  | _ => none }
def fnSelectsRow : OpenClaim := { program := "ytkhhlifnbelckaa", sum := "cdf50ee69dbd479311ca7e6ddff971cf443e2d1e8b75413fb749e02fc950b448", func := "loop.example/g01984/laws.FnSelects", spec := "fnSelects", inPlace := ["slices.overlaps[loop.example/g01984/impl.Pivot]"], unfollowed := true, recurses := true, apart := false }
def FnSelectsSaid : Prop := fnSelectsRow.holds Try.pinned (OpenSpec.ofChange fnSelectsSpec)

/-- ITS FALSE NEIGHBOUR: 'it returns false'. Refute it at one input. -/
def fnSelectsWrong : ChangeSpec := { name := "fnSelects", fn := fun _ => fun
  | [d] => { results := [.lit (.bool false)], args := [d] }
  | _ => none }
def FnSelectsWrongFalsely : Prop := fnSelectsRow.holds Try.pinned (OpenSpec.ofChange fnSelectsWrong)

/-- 'laws.FnExactIsSettings': WHATEVER THE INPUT: true; the input reads as it did. -/
def fnExactIsSettingsSpec : ChangeSpec := { name := "fnExactIsSettings", fn := fun _ => fun
  | [d] => { results := [.lit (.bool true)], args := [d] }
  | _ => none }
def fnExactIsSettingsRow : OpenClaim := { program := "ytkhhlifnbelckaa", sum := "cdf50ee69dbd479311ca7e6ddff971cf443e2d1e8b75413fb749e02fc950b448", func := "loop.example/g01984/laws.FnExactIsSettings", spec := "fnExactIsSettings", recurses := true, apart := false }
def FnExactIsSettingsSaid : Prop := fnExactIsSettingsRow.holds Try.pinned (OpenSpec.ofChange fnExactIsSettingsSpec)

/-- ITS FALSE NEIGHBOUR: 'it returns false'. Refute it at one input. -/
def fnExactIsSettingsWrong : ChangeSpec := { name := "fnExactIsSettings", fn := fun _ => fun
  | [d] => { results := [.lit (.bool false)], args := [d] }
  | _ => none }
def FnExactIsSettingsWrongFalsely : Prop := fnExactIsSettingsRow.holds Try.pinned (OpenSpec.ofChange fnExactIsSettingsWrong)

/-- 'laws.FnExactNextSeed': WHATEVER THE INPUT: true; the input reads as it did. -/
def fnExactNextSeedSpec : ChangeSpec := { name := "fnExactNextSeed", fn := fun _ => fun
  | [d] => { results := [.lit (.bool true)], args := [d] }
  | _ => none }
def fnExactNextSeedRow : OpenClaim := { program := "ytkhhlifnbelckaa", sum := "cdf50ee69dbd479311ca7e6ddff971cf443e2d1e8b75413fb749e02fc950b448", func := "loop.example/g01984/laws.FnExactNextSeed", spec := "fnExactNextSeed", apart := false }
def FnExactNextSeedSaid : Prop := fnExactNextSeedRow.holds Try.pinned (OpenSpec.ofChange fnExactNextSeedSpec)

/-- ITS FALSE NEIGHBOUR: 'it returns false'. Refute it at one input. -/
def fnExactNextSeedWrong : ChangeSpec := { name := "fnExactNextSeed", fn := fun _ => fun
  | [d] => { results := [.lit (.bool false)], args := [d] }
  | _ => none }
def FnExactNextSeedWrongFalsely : Prop := fnExactNextSeedRow.holds Try.pinned (OpenSpec.ofChange fnExactNextSeedWrong)

/-- 'laws.FnExactMedianOf': WHATEVER THE INPUT: true; the input reads as it did. -/
def fnExactMedianOfSpec : ChangeSpec := { name := "fnExactMedianOf", fn := fun _ => fun
  | [d] => { results := [.lit (.bool true)], args := [d] }
  | _ => none }
def fnExactMedianOfRow : OpenClaim := { program := "ytkhhlifnbelckaa", sum := "cdf50ee69dbd479311ca7e6ddff971cf443e2d1e8b75413fb749e02fc950b448", func := "loop.example/g01984/laws.FnExactMedianOf", spec := "fnExactMedianOf", recurses := true, apart := false }
def FnExactMedianOfSaid : Prop := fnExactMedianOfRow.holds Try.pinned (OpenSpec.ofChange fnExactMedianOfSpec)

/-- ITS FALSE NEIGHBOUR: 'it returns false'. Refute it at one input. -/
def fnExactMedianOfWrong : ChangeSpec := { name := "fnExactMedianOf", fn := fun _ => fun
  | [d] => { results := [.lit (.bool false)], args := [d] }
  | _ => none }
def FnExactMedianOfWrongFalsely : Prop := fnExactMedianOfRow.holds Try.pinned (OpenSpec.ofChange fnExactMedianOfWrong)

/-- 'laws.FnExactChoosePivot': WHATEVER THE INPUT: true; the input reads as it did. -/
def fnExactChoosePivotSpec : ChangeSpec := { name := "fnExactChoosePivot", fn := fun _ => fun
  | [d1, d2, d3, d4] => { results := [.lit (.bool true)], args := [d1, d2, d3, d4] }
  | _ => none }
def fnExactChoosePivotRow : OpenClaim := { program := "ytkhhlifnbelckaa", sum := "cdf50ee69dbd479311ca7e6ddff971cf443e2d1e8b75413fb749e02fc950b448", func := "loop.example/g01984/laws.FnExactChoosePivot", spec := "fnExactChoosePivot", unfollowed := true, recurses := true, apart := false }
def FnExactChoosePivotSaid : Prop := fnExactChoosePivotRow.holds Try.pinned (OpenSpec.ofChange fnExactChoosePivotSpec)

/-- ITS FALSE NEIGHBOUR: 'it returns false'. Refute it at one input. -/
def fnExactChoosePivotWrong : ChangeSpec := { name := "fnExactChoosePivot", fn := fun _ => fun
  | [d1, d2, d3, d4] => { results := [.lit (.bool false)], args := [d1, d2, d3, d4] }
  | _ => none }
def FnExactChoosePivotWrongFalsely : Prop := fnExactChoosePivotRow.holds Try.pinned (OpenSpec.ofChange fnExactChoosePivotWrong)

/-- 'laws.FnExactCrackWith': WHATEVER THE INPUT: true; the input reads as it did. -/
def fnExactCrackWithSpec : ChangeSpec := { name := "fnExactCrackWith", fn := fun _ => fun
  | [d1, d2, d3] => { results := [.lit (.bool true)], args := [d1, d2, d3] }
  | _ => none }
def fnExactCrackWithRow : OpenClaim := { program := "ytkhhlifnbelckaa", sum := "cdf50ee69dbd479311ca7e6ddff971cf443e2d1e8b75413fb749e02fc950b448", func := "loop.example/g01984/laws.FnExactCrackWith", spec := "fnExactCrackWith", inPlace := ["slices.overlaps[loop.example/g01984/impl.Pivot]"], unfollowed := true, recurses := true, apart := false }
def FnExactCrackWithSaid : Prop := fnExactCrackWithRow.holds Try.pinned (OpenSpec.ofChange fnExactCrackWithSpec)

/-- ITS FALSE NEIGHBOUR: 'it returns false'. Refute it at one input. -/
def fnExactCrackWithWrong : ChangeSpec := { name := "fnExactCrackWith", fn := fun _ => fun
  | [d1, d2, d3] => { results := [.lit (.bool false)], args := [d1, d2, d3] }
  | _ => none }
def FnExactCrackWithWrongFalsely : Prop := fnExactCrackWithRow.holds Try.pinned (OpenSpec.ofChange fnExactCrackWithWrong)

/-- 'laws.FnExactPolicyName': WHATEVER THE INPUT: true; the input reads as it did. -/
def fnExactPolicyNameSpec : ChangeSpec := { name := "fnExactPolicyName", fn := fun _ => fun
  | [d] => { results := [.lit (.bool true)], args := [d] }
  | _ => none }
def fnExactPolicyNameRow : OpenClaim := { program := "ytkhhlifnbelckaa", sum := "cdf50ee69dbd479311ca7e6ddff971cf443e2d1e8b75413fb749e02fc950b448", func := "loop.example/g01984/laws.FnExactPolicyName", spec := "fnExactPolicyName", recurses := true, apart := false }
def FnExactPolicyNameSaid : Prop := fnExactPolicyNameRow.holds Try.pinned (OpenSpec.ofChange fnExactPolicyNameSpec)

/-- ITS FALSE NEIGHBOUR: 'it returns false'. Refute it at one input. -/
def fnExactPolicyNameWrong : ChangeSpec := { name := "fnExactPolicyName", fn := fun _ => fun
  | [d] => { results := [.lit (.bool false)], args := [d] }
  | _ => none }
def FnExactPolicyNameWrongFalsely : Prop := fnExactPolicyNameRow.holds Try.pinned (OpenSpec.ofChange fnExactPolicyNameWrong)

/- THE SECOND FORM. 'bulk': how many values and letters a reading holds, each counted each time it is reached (what is shared counts as often as it is met; a slice's spare places count too). A statement '..UptoSaid' is the law's where the arguments, and the package variables that the reading takes, are together of bulk at most 1048576: NARROWER than '..Said'. Prove '..Said' where nothing that the law and all that it calls make is longer than what came in: it says more and counts as full. Else prove '..UptoSaid'. A law counts once. -/
mutual
def uptoBulk {H : Type} : DataW H → Nat
  | .lit (.string bytes) => bytes.length + 1
  | .lit _ => 1
  | .nil => 1
  | .ptr d => uptoBulk d + 1
  | .slice elems spare => uptoBulkAll elems + uptoBulkAll spare + 1
  | .agg parts => uptoBulkAll parts + 1
  | .iface _ d => uptoBulk d + 1
  | .map entries => uptoBulkEntries entries + 1
  | .held _ => 1
def uptoBulkAll {H : Type} : List (DataW H) → Nat
  | [] => 0
  | d :: r => uptoBulk d + uptoBulkAll r
def uptoBulkEntries {H : Type} : List (Lit × DataW H) → Nat
  | [] => 0
  | x :: r => uptoBulkEntry x + uptoBulkEntries r
def uptoBulkEntry {H : Type} : Lit × DataW H → Nat
  | (.string bytes, d) => bytes.length + uptoBulk d + 1
  | (_, d) => uptoBulk d + 1
 end
def uptoSmall : (H : Type) → List (DataW H) → Bool := fun _ ds => decide (uptoBulkAll ds ≤ 1048576)
def OpenSpec.upto (s : _root_.Go.ChangeSpec) : _root_.Go.OpenSpec := { _root_.Go.OpenSpec.ofChange s with cond := some uptoSmall }

/-- 'laws.FnCracks', WHERE WHAT IT READS IS OF BULK AT MOST 1048576: true; the input reads as it did. -/
def fnCracksUptoRow : OpenClaim := { program := "ytkhhlifnbelckaa", sum := "cdf50ee69dbd479311ca7e6ddff971cf443e2d1e8b75413fb749e02fc950b448", func := "loop.example/g01984/laws.FnCracks", spec := "fnCracks", inPlace := ["slices.overlaps[loop.example/g01984/impl.Pivot]"], apart := false, narrowed := true }
def FnCracksUptoSaid : Prop := fnCracksUptoRow.holds Try.pinned (OpenSpec.upto fnCracksSpec)

/-- 'laws.FnSelects', WHERE WHAT IT READS IS OF BULK AT MOST 1048576: true; the input reads as it did. -/
def fnSelectsUptoRow : OpenClaim := { program := "ytkhhlifnbelckaa", sum := "cdf50ee69dbd479311ca7e6ddff971cf443e2d1e8b75413fb749e02fc950b448", func := "loop.example/g01984/laws.FnSelects", spec := "fnSelects", inPlace := ["slices.overlaps[loop.example/g01984/impl.Pivot]"], unfollowed := true, recurses := true, apart := false, narrowed := true }
def FnSelectsUptoSaid : Prop := fnSelectsUptoRow.holds Try.pinned (OpenSpec.upto fnSelectsSpec)

/-- 'laws.FnExactIsSettings', WHERE WHAT IT READS IS OF BULK AT MOST 1048576: true; the input reads as it did. -/
def fnExactIsSettingsUptoRow : OpenClaim := { program := "ytkhhlifnbelckaa", sum := "cdf50ee69dbd479311ca7e6ddff971cf443e2d1e8b75413fb749e02fc950b448", func := "loop.example/g01984/laws.FnExactIsSettings", spec := "fnExactIsSettings", recurses := true, apart := false, narrowed := true }
def FnExactIsSettingsUptoSaid : Prop := fnExactIsSettingsUptoRow.holds Try.pinned (OpenSpec.upto fnExactIsSettingsSpec)

/-- 'laws.FnExactNextSeed', WHERE WHAT IT READS IS OF BULK AT MOST 1048576: true; the input reads as it did. -/
def fnExactNextSeedUptoRow : OpenClaim := { program := "ytkhhlifnbelckaa", sum := "cdf50ee69dbd479311ca7e6ddff971cf443e2d1e8b75413fb749e02fc950b448", func := "loop.example/g01984/laws.FnExactNextSeed", spec := "fnExactNextSeed", apart := false, narrowed := true }
def FnExactNextSeedUptoSaid : Prop := fnExactNextSeedUptoRow.holds Try.pinned (OpenSpec.upto fnExactNextSeedSpec)

/-- 'laws.FnExactMedianOf', WHERE WHAT IT READS IS OF BULK AT MOST 1048576: true; the input reads as it did. -/
def fnExactMedianOfUptoRow : OpenClaim := { program := "ytkhhlifnbelckaa", sum := "cdf50ee69dbd479311ca7e6ddff971cf443e2d1e8b75413fb749e02fc950b448", func := "loop.example/g01984/laws.FnExactMedianOf", spec := "fnExactMedianOf", recurses := true, apart := false, narrowed := true }
def FnExactMedianOfUptoSaid : Prop := fnExactMedianOfUptoRow.holds Try.pinned (OpenSpec.upto fnExactMedianOfSpec)

/-- 'laws.FnExactChoosePivot', WHERE WHAT IT READS IS OF BULK AT MOST 1048576: true; the input reads as it did. -/
def fnExactChoosePivotUptoRow : OpenClaim := { program := "ytkhhlifnbelckaa", sum := "cdf50ee69dbd479311ca7e6ddff971cf443e2d1e8b75413fb749e02fc950b448", func := "loop.example/g01984/laws.FnExactChoosePivot", spec := "fnExactChoosePivot", unfollowed := true, recurses := true, apart := false, narrowed := true }
def FnExactChoosePivotUptoSaid : Prop := fnExactChoosePivotUptoRow.holds Try.pinned (OpenSpec.upto fnExactChoosePivotSpec)

/-- 'laws.FnExactCrackWith', WHERE WHAT IT READS IS OF BULK AT MOST 1048576: true; the input reads as it did. -/
def fnExactCrackWithUptoRow : OpenClaim := { program := "ytkhhlifnbelckaa", sum := "cdf50ee69dbd479311ca7e6ddff971cf443e2d1e8b75413fb749e02fc950b448", func := "loop.example/g01984/laws.FnExactCrackWith", spec := "fnExactCrackWith", inPlace := ["slices.overlaps[loop.example/g01984/impl.Pivot]"], unfollowed := true, recurses := true, apart := false, narrowed := true }
def FnExactCrackWithUptoSaid : Prop := fnExactCrackWithUptoRow.holds Try.pinned (OpenSpec.upto fnExactCrackWithSpec)

/-- 'laws.FnExactPolicyName', WHERE WHAT IT READS IS OF BULK AT MOST 1048576: true; the input reads as it did. -/
def fnExactPolicyNameUptoRow : OpenClaim := { program := "ytkhhlifnbelckaa", sum := "cdf50ee69dbd479311ca7e6ddff971cf443e2d1e8b75413fb749e02fc950b448", func := "loop.example/g01984/laws.FnExactPolicyName", spec := "fnExactPolicyName", recurses := true, apart := false, narrowed := true }
def FnExactPolicyNameUptoSaid : Prop := fnExactPolicyNameUptoRow.holds Try.pinned (OpenSpec.upto fnExactPolicyNameSpec)

end Rows
end Go.Proofs.Ytkhhlifnbelckaa
