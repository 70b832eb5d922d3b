/-
  Whatever side and calls of it it is asked for, heddlelaw08.ShakeKnows answers true: a side is up only behind a message that bears the digest of its own cookie and challenge.
  Conditions: those of the given row alone (the variables errors.errorType, internal/strconv.uint64pow10, math/bits.deBruijn32tab and math/bits.deBruijn64tab start as the program's text lays them; the card ties that, to the seat's pruned copy of the project); the program is the landed one, translated at its commit.
-/
import Derived.Test.YtmnibmgbicnamaaGreatDoorLShakeKnowsCard
namespace Go.Proofs.YtmnibmgbicnamaaGreatDoor

theorem shake_knows_said : Rows.ShakeKnowsCardSaid := sknows_card
end Go.Proofs.YtmnibmgbicnamaaGreatDoor
