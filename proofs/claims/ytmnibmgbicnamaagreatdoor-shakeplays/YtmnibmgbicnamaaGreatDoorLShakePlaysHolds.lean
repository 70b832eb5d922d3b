/-
  Whatever side and calls of it it is asked for, heddlelaw08.ShakePlays answers true: the program answers each call as the document does, and is then where the document is.
  Conditions: those of the given row alone (the variables errors.errorType, internal/strconv.uint64pow10, math/bits.deBruijn32tab and math/bits.deBruijn64tab start as the program's text lays them; the card ties that, to the seat's pruned copy of the project); the program is the landed one, translated at its commit.
-/
import Derived.Test.YtmnibmgbicnamaaGreatDoorLShakePlaysCard
namespace Go.Proofs.YtmnibmgbicnamaaGreatDoor

theorem shake_plays_said : Rows.ShakePlaysCardSaid := splays_card
end Go.Proofs.YtmnibmgbicnamaaGreatDoor
