/-
  Whatever message it is asked for, heddlelaw08.ShakeWrites answers true: the program tells the bytes of every message as the document does, and refuses what is none as the document does.
  Conditions: those of the given row alone (the variables errors.errorType, internal/strconv.uint64pow10, math/bits.deBruijn32tab and math/bits.deBruijn64tab start as the program's text lays them; the card ties that, to the seat's pruned copy of the project); the program is the landed one, translated at its commit.
-/
import Derived.Test.YtmnibmgbicnamaaGreatDoorLShakeWritesCard
namespace Go.Proofs.YtmnibmgbicnamaaGreatDoor

theorem shake_writes_said : Rows.ShakeWritesCardSaid := swrites_card
end Go.Proofs.YtmnibmgbicnamaaGreatDoor
