/-
  DERIVED. GIVEN WITH THE SEED: THE CARDS: each row of YtknmoinmfladbaaDoorRows.lean that lists a variable, with what it lists TIED to the program's text (the seventh form; the later family's looks); each row that meets fmt, with fmt's text TOLD by the authors' own Lean function (tested against real Go, not proved from fmt's source: count such statements apart). THE CARD IS WHAT COUNTS. Prove the row's statement (the work); the ties are given (YtknmoinmfladbaaDoorTie.lean); close each card by the builder's one call (the guide's Derived/Test/ToyasCard.lean, 'card_holds'). Laid BY PROGRAM, IN A SANDBOX (cutbox-door.mjs). By AI agents, Wed Nov 11 2026. No macro, syntax, notation, axiom, sorry.
-/
import Derived.Test.YtknmoinmfladbaaDoorRows
import GoSem.ClaimSeven
namespace Go.Proofs.YtknmoinmfladbaaDoor
namespace Rows

/-- THE TIED CARD OF 'laws.FnExactFormatCracker'. -/
def fnExactFormatCrackerCard : Claim7 := { stood := { row := fnExactFormatCrackerRow, standIns := [], harness := (true, "445351451e9975144e2eccd658a5b8532e74f0212fbd02cfac46be0495fce10f"), looks := false }, kinds := [], alts := [], laidByText := true, laidKinds := [.data, .data, .data], laidTests := true, laidLooks := .later }
def FnExactFormatCrackerCardSaid : Prop := Claim7.holds Tryd.pinned (.plain (OpenSpec.ofChange fnExactFormatCrackerSpec)) fnExactFormatCrackerCard

/-- THE SECOND FORM's CARD OF 'laws.FnExactFormatCracker'. -/
def fnExactFormatCrackerUptoCard : Claim7 := { stood := { row := fnExactFormatCrackerUptoRow, standIns := [], harness := (true, "445351451e9975144e2eccd658a5b8532e74f0212fbd02cfac46be0495fce10f"), looks := false }, kinds := [], alts := [], laidByText := true, laidKinds := [.data, .data, .data], laidTests := true, laidLooks := .later }
def FnExactFormatCrackerUptoCardSaid : Prop := Claim7.holds Tryd.pinned (.plain (OpenSpec.upto fnExactFormatCrackerSpec)) fnExactFormatCrackerUptoCard
end Rows
end Go.Proofs.YtknmoinmfladbaaDoor
