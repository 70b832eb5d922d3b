/-
  DERIVED. GIVEN WITH THE SEED: THE CARDS: each row of YtipdmmncgenppaaGreatDoorRows.lean that lists a variable, with what it lists TIED to the program's text (the seventh form; the later family's looks); each row that meets fmt, with fmt's text TOLD by the authors' own Lean function (tested against real Go, not proved from fmt's source: count such statements apart). THE CARD IS WHAT COUNTS. Prove the row's statement (the work); the ties are given (YtipdmmncgenppaaGreatDoorTie.lean); close each card by the builder's one call (the guide's Derived/Test/ToyasCard.lean, 'card_holds'). Laid BY PROGRAM, IN A SANDBOX (cutbox-door.mjs). By AI agents, Wed Nov 11 2026. No macro, syntax, notation, axiom, sorry.
-/
import Derived.Test.YtipdmmncgenppaaGreatDoorRows
import GoSem.ClaimSeven
namespace Go.Proofs.YtipdmmncgenppaaGreatDoor
namespace Rows

/-- THE TIED CARD OF 'heddlelaw11.ParseBelow'. -/
def parseBelowCard : Claim7 := { stood := { row := parseBelowRow, standIns := [], harness := (true, "1818fad514c3ed05cfa756128a6085f485364b045051da0b391a57352ff4baee"), looks := true }, kinds := [], alts := [], laidByText := true, laidKinds := [.data, .data, .data, .data, .handle, .sentinel, .sentinel, .data, .pinned], laidTests := true, laidLooks := .later }
def ParseBelowCardSaid : Prop := Claim7.holds Tryz.pinned (.plain (OpenSpec.ofChange parseBelowSpec)) parseBelowCard

/-- THE TIED CARD OF 'heddlelaw11.ParseSame'. -/
def parseSameCard : Claim7 := { stood := { row := parseSameRow, standIns := [], harness := (true, "1818fad514c3ed05cfa756128a6085f485364b045051da0b391a57352ff4baee"), looks := true }, kinds := [], alts := [], laidByText := true, laidKinds := [.data, .data, .data, .data, .handle, .sentinel, .sentinel, .data, .pinned], laidTests := true, laidLooks := .later }
def ParseSameCardSaid : Prop := Claim7.holds Tryz.pinned (.plain (OpenSpec.ofChange parseSameSpec)) parseSameCard

/-- THE SECOND FORM's CARD OF 'heddlelaw11.ParseBelow'. -/
def parseBelowUptoCard : Claim7 := { stood := { row := parseBelowUptoRow, standIns := [], harness := (true, "1818fad514c3ed05cfa756128a6085f485364b045051da0b391a57352ff4baee"), looks := true }, kinds := [], alts := [], laidByText := true, laidKinds := [.data, .data, .data, .data, .handle, .sentinel, .sentinel, .data, .pinned], laidTests := true, laidLooks := .later }
def ParseBelowUptoCardSaid : Prop := Claim7.holds Tryz.pinned (.plain (OpenSpec.upto parseBelowSpec)) parseBelowUptoCard

/-- THE SECOND FORM's CARD OF 'heddlelaw11.ParseSame'. -/
def parseSameUptoCard : Claim7 := { stood := { row := parseSameUptoRow, standIns := [], harness := (true, "1818fad514c3ed05cfa756128a6085f485364b045051da0b391a57352ff4baee"), looks := true }, kinds := [], alts := [], laidByText := true, laidKinds := [.data, .data, .data, .data, .handle, .sentinel, .sentinel, .data, .pinned], laidTests := true, laidLooks := .later }
def ParseSameUptoCardSaid : Prop := Claim7.holds Tryz.pinned (.plain (OpenSpec.upto parseSameSpec)) parseSameUptoCard
end Rows
end Go.Proofs.YtipdmmncgenppaaGreatDoor
