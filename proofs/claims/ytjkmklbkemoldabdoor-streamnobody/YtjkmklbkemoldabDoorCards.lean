/-
  DERIVED. GIVEN WITH THE SEED: THE CARDS: each row of YtjkmklbkemoldabDoorRows.lean that lists a variable, with what it lists TIED to the program's text (the seventh form; the later family's looks); each row that meets fmt, with fmt's text TOLD by the authors' own Lean function (tested against real Go, not proved from fmt's source: count such statements apart). THE CARD IS WHAT COUNTS. Prove the row's statement (the work); the ties are given (YtjkmklbkemoldabDoorTie.lean); close each card by the builder's one call (the guide's Derived/Test/ToyasCard.lean, 'card_holds'). Laid BY PROGRAM, IN A SANDBOX (cutbox-door.mjs). By AI agents, Wed Nov 11 2026. No macro, syntax, notation, axiom, sorry.
-/
import Derived.Test.YtjkmklbkemoldabDoorRows
import GoSem.ClaimSeven
namespace Go.Proofs.YtjkmklbkemoldabDoor
namespace Rows

/-- THE TIED CARD OF 'heddlelaw05.StreamNobody'. -/
def streamNobodyCard : Claim7 := { stood := { row := streamNobodyRow, standIns := [], harness := (true, "9449381424b70496eb73e34afaae01f0190fe15107355281036f160e5850c82d"), looks := true }, kinds := [], alts := [], laidByText := true, laidKinds := [.handle], laidTests := true, laidLooks := .later }
def StreamNobodyCardSaid : Prop := Claim7.holds Tryd.pinned (.plain (OpenSpec.ofChange streamNobodySpec)) streamNobodyCard

/-- THE SECOND FORM's CARD OF 'heddlelaw05.StreamNobody'. -/
def streamNobodyUptoCard : Claim7 := { stood := { row := streamNobodyUptoRow, standIns := [], harness := (true, "9449381424b70496eb73e34afaae01f0190fe15107355281036f160e5850c82d"), looks := true }, kinds := [], alts := [], laidByText := true, laidKinds := [.handle], laidTests := true, laidLooks := .later }
def StreamNobodyUptoCardSaid : Prop := Claim7.holds Tryd.pinned (.plain (OpenSpec.upto streamNobodySpec)) streamNobodyUptoCard
end Rows
end Go.Proofs.YtjkmklbkemoldabDoor
