/-
  DERIVED. GIVEN WITH THE SEED: THE CARDS: each row of YtmnibmgbicnamabGreatDoorRows.lean that lists a variable, with what it lists TIED to the program's text (the seventh form; the later family's looks); each row that meets fmt, with fmt's text TOLD by the authors' own Lean function (tested against real Go, not proved from fmt's source: count such statements apart). THE CARD IS WHAT COUNTS. Prove the row's statement (the work); the ties are given (YtmnibmgbicnamabGreatDoorTie.lean); close each card by the builder's one call (the guide's Derived/Test/ToyasCard.lean, 'card_holds'). Laid BY PROGRAM, IN A SANDBOX (cutbox-door.mjs). By AI agents, Wed Nov 11 2026. No macro, syntax, notation, axiom, sorry.
-/
import Derived.Test.YtmnibmgbicnamabGreatDoorRows
import GoSem.ClaimSeven
namespace Go.Proofs.YtmnibmgbicnamabGreatDoor
namespace Rows

/-- THE TIED CARD OF 'heddlelaw08.ShakeNobody'. -/
def shakeNobodyCard : Claim7 := { stood := { row := shakeNobodyRow, standIns := [], harness := (true, "57b0e9295596b3fb5446548a52959b65d5a3c7a9f8e2ca0b8bb2d7383c51a4ff"), looks := true }, kinds := [], alts := [], laidByText := true, laidKinds := [.data, .data, .data, .handle], laidTests := true, laidLooks := .later }
def ShakeNobodyCardSaid : Prop := Claim7.holds Tryz.pinned (.plain (OpenSpec.ofChange shakeNobodySpec)) shakeNobodyCard

/-- THE TIED CARD OF 'heddlelaw08.ShakeOwn'. -/
def shakeOwnCard : Claim7 := { stood := { row := shakeOwnRow, standIns := [], harness := (true, "57b0e9295596b3fb5446548a52959b65d5a3c7a9f8e2ca0b8bb2d7383c51a4ff"), looks := true }, kinds := [], alts := [], laidByText := true, laidKinds := [.data, .data, .data, .handle], laidTests := true, laidLooks := .later }
def ShakeOwnCardSaid : Prop := Claim7.holds Tryz.pinned (.plain (OpenSpec.ofChange shakeOwnSpec)) shakeOwnCard

/-- THE SECOND FORM's CARD OF 'heddlelaw08.ShakeNobody'. -/
def shakeNobodyUptoCard : Claim7 := { stood := { row := shakeNobodyUptoRow, standIns := [], harness := (true, "57b0e9295596b3fb5446548a52959b65d5a3c7a9f8e2ca0b8bb2d7383c51a4ff"), looks := true }, kinds := [], alts := [], laidByText := true, laidKinds := [.data, .data, .data, .handle], laidTests := true, laidLooks := .later }
def ShakeNobodyUptoCardSaid : Prop := Claim7.holds Tryz.pinned (.plain (OpenSpec.upto shakeNobodySpec)) shakeNobodyUptoCard

/-- THE SECOND FORM's CARD OF 'heddlelaw08.ShakeOwn'. -/
def shakeOwnUptoCard : Claim7 := { stood := { row := shakeOwnUptoRow, standIns := [], harness := (true, "57b0e9295596b3fb5446548a52959b65d5a3c7a9f8e2ca0b8bb2d7383c51a4ff"), looks := true }, kinds := [], alts := [], laidByText := true, laidKinds := [.data, .data, .data, .handle], laidTests := true, laidLooks := .later }
def ShakeOwnUptoCardSaid : Prop := Claim7.holds Tryz.pinned (.plain (OpenSpec.upto shakeOwnSpec)) shakeOwnUptoCard
end Rows
end Go.Proofs.YtmnibmgbicnamabGreatDoor
