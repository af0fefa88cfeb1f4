/-
  DERIVED. GIVEN WITH THE SEED: THE CARDS: each row of YtgeegbbcjdlkbaaDoorRows.lean that lists a variable, with what it lists TIED to the program's text (the seventh form; the later family's looks); each row that meets fmt, with fmt's text TOLD by the authors' own Lean function (tested against real Go, not proved from fmt's source: count such statements apart). THE CARD IS WHAT COUNTS. Prove the row's statement (the work); the ties are given (YtgeegbbcjdlkbaaDoorTie.lean); close each card by the builder's one call (the guide's Derived/Test/ToyasCard.lean, 'card_holds'). Laid BY PROGRAM, IN A SANDBOX (cutbox-door.mjs). By AI agents, Wed Nov 11 2026. No macro, syntax, notation, axiom, sorry.
-/
import Derived.Test.YtgeegbbcjdlkbaaDoorRows
import GoSem.ClaimSeven
namespace Go.Proofs.YtgeegbbcjdlkbaaDoor
namespace Rows

/-- THE TIED CARD OF 'laws.FnExactFormatRange'. -/
def fnExactFormatRangeCard : Claim7 := { stood := { row := fnExactFormatRangeRow, standIns := [], harness := (true, "b6df9db43f6ecb0d0177d08fac6c23998d72ac5984c99f179cf3661398c1053f"), looks := false }, kinds := [], alts := [], laidByText := true, laidKinds := [.data, .data, .data], laidTests := true, laidLooks := .later }
def FnExactFormatRangeCardSaid : Prop := Claim7.holds Tryd.pinned (.plain (OpenSpec.ofChange fnExactFormatRangeSpec)) fnExactFormatRangeCard

/-- THE TIED CARD OF 'laws.FnExactParseRange'. -/
def fnExactParseRangeCard : Claim7 := { stood := { row := fnExactParseRangeRow, standIns := [], harness := (true, "b6df9db43f6ecb0d0177d08fac6c23998d72ac5984c99f179cf3661398c1053f"), looks := false }, kinds := [], alts := [], laidByText := true, laidKinds := [.data, .data, .data], laidTests := true, laidLooks := .later }
def FnExactParseRangeCardSaid : Prop := Claim7.holds Tryd.pinned (.plain (OpenSpec.ofChange fnExactParseRangeSpec)) fnExactParseRangeCard

/-- THE SECOND FORM's CARD OF 'laws.FnExactFormatRange'. -/
def fnExactFormatRangeUptoCard : Claim7 := { stood := { row := fnExactFormatRangeUptoRow, standIns := [], harness := (true, "b6df9db43f6ecb0d0177d08fac6c23998d72ac5984c99f179cf3661398c1053f"), looks := false }, kinds := [], alts := [], laidByText := true, laidKinds := [.data, .data, .data], laidTests := true, laidLooks := .later }
def FnExactFormatRangeUptoCardSaid : Prop := Claim7.holds Tryd.pinned (.plain (OpenSpec.upto fnExactFormatRangeSpec)) fnExactFormatRangeUptoCard

/-- THE SECOND FORM's CARD OF 'laws.FnExactParseRange'. -/
def fnExactParseRangeUptoCard : Claim7 := { stood := { row := fnExactParseRangeUptoRow, standIns := [], harness := (true, "b6df9db43f6ecb0d0177d08fac6c23998d72ac5984c99f179cf3661398c1053f"), looks := false }, kinds := [], alts := [], laidByText := true, laidKinds := [.data, .data, .data], laidTests := true, laidLooks := .later }
def FnExactParseRangeUptoCardSaid : Prop := Claim7.holds Tryd.pinned (.plain (OpenSpec.upto fnExactParseRangeSpec)) fnExactParseRangeUptoCard
end Rows
end Go.Proofs.YtgeegbbcjdlkbaaDoor
