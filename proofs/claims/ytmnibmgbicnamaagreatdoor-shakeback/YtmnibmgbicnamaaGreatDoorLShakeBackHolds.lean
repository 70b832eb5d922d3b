/-
  Whatever message, kind and bytes it is asked for, heddlelaw08.ShakeBack answers true: a message's bytes are read as that message, and what is read is written as just these bytes.
  Conditions: those of the given row alone (the variables errors.errorType, internal/strconv.uint64pow10, math/bits.deBruijn32tab and math/bits.deBruijn64tab start as the program's text lays them; the card ties that, to the seat's pruned copy of the project); the program is the landed one, translated at its commit.
-/
import Derived.Test.YtmnibmgbicnamaaGreatDoorLShakeBackCard
namespace Go.Proofs.YtmnibmgbicnamaaGreatDoor

theorem shake_back_said : Rows.ShakeBackCardSaid := sback_card
end Go.Proofs.YtmnibmgbicnamaaGreatDoor
