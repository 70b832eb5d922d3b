/-
  DERIVED. GIVEN WITH THE SEED: THE CARDS: each row of YtmnibmgbicnamaaGreatDoorRows.lean that lists a variable, with what it lists TIED to the program's text (the seventh form; the later family's looks); each row that meets fmt, with fmt's text TOLD by the authors' own Lean function (tested against real Go, not proved from fmt's source: count such statements apart). THE CARD IS WHAT COUNTS. Prove the row's statement (the work); the ties are given (YtmnibmgbicnamaaGreatDoorTie.lean); close each card by the builder's one call (the guide's Derived/Test/ToyasCard.lean, 'card_holds'). Laid BY PROGRAM, IN A SANDBOX (cutbox-door.mjs). By AI agents, Wed Nov 11 2026. No macro, syntax, notation, axiom, sorry.
-/
import Derived.Test.YtmnibmgbicnamaaGreatDoorRows
import GoSem.ClaimSeven
namespace Go.Proofs.YtmnibmgbicnamaaGreatDoor
namespace Rows

/-- THE TIED CARD OF 'heddlelaw08.ShakeWrites'. -/
def shakeWritesCard : Claim7 := { stood := { row := shakeWritesRow, standIns := [], harness := (true, "3ceca5eada1641628b8354c04a93df11844cd60ee53cb05e4af203dc77658cbe"), looks := true }, kinds := [], alts := [], laidByText := true, laidKinds := [.data, .data, .data, .handle], laidTests := true, laidLooks := .later }
def ShakeWritesCardSaid : Prop := Claim7.holds Tryz.pinned (.plain (OpenSpec.ofChange shakeWritesSpec)) shakeWritesCard

/-- THE TIED CARD OF 'heddlelaw08.ShakeReads'. -/
def shakeReadsCard : Claim7 := { stood := { row := shakeReadsRow, standIns := [], harness := (true, "3ceca5eada1641628b8354c04a93df11844cd60ee53cb05e4af203dc77658cbe"), looks := true }, kinds := [], alts := [], laidByText := true, laidKinds := [.data, .data, .data, .handle], laidTests := true, laidLooks := .later }
def ShakeReadsCardSaid : Prop := Claim7.holds Tryz.pinned (.plain (OpenSpec.ofChange shakeReadsSpec)) shakeReadsCard

/-- THE TIED CARD OF 'heddlelaw08.ShakeBack'. -/
def shakeBackCard : Claim7 := { stood := { row := shakeBackRow, standIns := [], harness := (true, "3ceca5eada1641628b8354c04a93df11844cd60ee53cb05e4af203dc77658cbe"), looks := true }, kinds := [], alts := [], laidByText := true, laidKinds := [.data, .data, .data, .handle], laidTests := true, laidLooks := .later }
def ShakeBackCardSaid : Prop := Claim7.holds Tryz.pinned (.plain (OpenSpec.ofChange shakeBackSpec)) shakeBackCard

/-- THE TIED CARD OF 'heddlelaw08.ShakePlays'. -/
def shakePlaysCard : Claim7 := { stood := { row := shakePlaysRow, standIns := [], harness := (true, "3ceca5eada1641628b8354c04a93df11844cd60ee53cb05e4af203dc77658cbe"), looks := true }, kinds := [], alts := [], laidByText := true, laidKinds := [.data, .data, .data, .handle], laidTests := true, laidLooks := .later }
def ShakePlaysCardSaid : Prop := Claim7.holds Tryz.pinned (.plain (OpenSpec.ofChange shakePlaysSpec)) shakePlaysCard

/-- THE TIED CARD OF 'heddlelaw08.ShakeMeets'. -/
def shakeMeetsCard : Claim7 := { stood := { row := shakeMeetsRow, standIns := [], harness := (true, "3ceca5eada1641628b8354c04a93df11844cd60ee53cb05e4af203dc77658cbe"), looks := true }, kinds := [], alts := [], laidByText := true, laidKinds := [.data, .data, .data, .handle], laidTests := true, laidLooks := .later }
def ShakeMeetsCardSaid : Prop := Claim7.holds Tryz.pinned (.plain (OpenSpec.ofChange shakeMeetsSpec)) shakeMeetsCard

/-- THE TIED CARD OF 'heddlelaw08.ShakeKnows'. -/
def shakeKnowsCard : Claim7 := { stood := { row := shakeKnowsRow, standIns := [], harness := (true, "3ceca5eada1641628b8354c04a93df11844cd60ee53cb05e4af203dc77658cbe"), looks := true }, kinds := [], alts := [], laidByText := true, laidKinds := [.data, .data, .data, .handle], laidTests := true, laidLooks := .later }
def ShakeKnowsCardSaid : Prop := Claim7.holds Tryz.pinned (.plain (OpenSpec.ofChange shakeKnowsSpec)) shakeKnowsCard

/-- THE SECOND FORM's CARD OF 'heddlelaw08.ShakeWrites'. -/
def shakeWritesUptoCard : Claim7 := { stood := { row := shakeWritesUptoRow, standIns := [], harness := (true, "3ceca5eada1641628b8354c04a93df11844cd60ee53cb05e4af203dc77658cbe"), looks := true }, kinds := [], alts := [], laidByText := true, laidKinds := [.data, .data, .data, .handle], laidTests := true, laidLooks := .later }
def ShakeWritesUptoCardSaid : Prop := Claim7.holds Tryz.pinned (.plain (OpenSpec.upto shakeWritesSpec)) shakeWritesUptoCard

/-- THE SECOND FORM's CARD OF 'heddlelaw08.ShakeReads'. -/
def shakeReadsUptoCard : Claim7 := { stood := { row := shakeReadsUptoRow, standIns := [], harness := (true, "3ceca5eada1641628b8354c04a93df11844cd60ee53cb05e4af203dc77658cbe"), looks := true }, kinds := [], alts := [], laidByText := true, laidKinds := [.data, .data, .data, .handle], laidTests := true, laidLooks := .later }
def ShakeReadsUptoCardSaid : Prop := Claim7.holds Tryz.pinned (.plain (OpenSpec.upto shakeReadsSpec)) shakeReadsUptoCard

/-- THE SECOND FORM's CARD OF 'heddlelaw08.ShakeBack'. -/
def shakeBackUptoCard : Claim7 := { stood := { row := shakeBackUptoRow, standIns := [], harness := (true, "3ceca5eada1641628b8354c04a93df11844cd60ee53cb05e4af203dc77658cbe"), looks := true }, kinds := [], alts := [], laidByText := true, laidKinds := [.data, .data, .data, .handle], laidTests := true, laidLooks := .later }
def ShakeBackUptoCardSaid : Prop := Claim7.holds Tryz.pinned (.plain (OpenSpec.upto shakeBackSpec)) shakeBackUptoCard

/-- THE SECOND FORM's CARD OF 'heddlelaw08.ShakePlays'. -/
def shakePlaysUptoCard : Claim7 := { stood := { row := shakePlaysUptoRow, standIns := [], harness := (true, "3ceca5eada1641628b8354c04a93df11844cd60ee53cb05e4af203dc77658cbe"), looks := true }, kinds := [], alts := [], laidByText := true, laidKinds := [.data, .data, .data, .handle], laidTests := true, laidLooks := .later }
def ShakePlaysUptoCardSaid : Prop := Claim7.holds Tryz.pinned (.plain (OpenSpec.upto shakePlaysSpec)) shakePlaysUptoCard

/-- THE SECOND FORM's CARD OF 'heddlelaw08.ShakeMeets'. -/
def shakeMeetsUptoCard : Claim7 := { stood := { row := shakeMeetsUptoRow, standIns := [], harness := (true, "3ceca5eada1641628b8354c04a93df11844cd60ee53cb05e4af203dc77658cbe"), looks := true }, kinds := [], alts := [], laidByText := true, laidKinds := [.data, .data, .data, .handle], laidTests := true, laidLooks := .later }
def ShakeMeetsUptoCardSaid : Prop := Claim7.holds Tryz.pinned (.plain (OpenSpec.upto shakeMeetsSpec)) shakeMeetsUptoCard

/-- THE SECOND FORM's CARD OF 'heddlelaw08.ShakeKnows'. -/
def shakeKnowsUptoCard : Claim7 := { stood := { row := shakeKnowsUptoRow, standIns := [], harness := (true, "3ceca5eada1641628b8354c04a93df11844cd60ee53cb05e4af203dc77658cbe"), looks := true }, kinds := [], alts := [], laidByText := true, laidKinds := [.data, .data, .data, .handle], laidTests := true, laidLooks := .later }
def ShakeKnowsUptoCardSaid : Prop := Claim7.holds Tryz.pinned (.plain (OpenSpec.upto shakeKnowsSpec)) shakeKnowsUptoCard
end Rows
end Go.Proofs.YtmnibmgbicnamaaGreatDoor
