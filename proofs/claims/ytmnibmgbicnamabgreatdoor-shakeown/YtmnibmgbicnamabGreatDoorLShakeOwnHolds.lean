/-
  Whatever message, kind and bytes it is asked for, heddlelaw08.ShakeOwn answers true: no answer shares memory with what was handed in.
  Conditions: those of the given row alone (the variables errors.errorType, internal/strconv.uint64pow10, math/bits.deBruijn32tab and math/bits.deBruijn64tab start as the program's text lays them; the card ties that, to the seat's pruned copy of the project); the program is the landed one, translated at its commit.
-/
import Derived.Test.YtmnibmgbicnamabGreatDoorLShakeOwnCard
namespace Go.Proofs.YtmnibmgbicnamabGreatDoor

theorem shake_own_said : Rows.ShakeOwnCardSaid := sown_card
end Go.Proofs.YtmnibmgbicnamabGreatDoor
