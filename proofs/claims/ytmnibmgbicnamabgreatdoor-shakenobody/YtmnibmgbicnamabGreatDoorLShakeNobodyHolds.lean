/-
  Whatever bytes and status it is asked for, heddlelaw08.ShakeNobody answers true: a side that is nil or that nobody made refuses all.
  Conditions: those of the given row alone (the variables errors.errorType, internal/strconv.uint64pow10, math/bits.deBruijn32tab and math/bits.deBruijn64tab start as the program's text lays them; the card ties that, to the seat's pruned copy of the project); the program is the landed one, translated at its commit.
-/
import Derived.Test.YtmnibmgbicnamabGreatDoorLShakeNobodyCard
namespace Go.Proofs.YtmnibmgbicnamabGreatDoor

theorem shake_nobody_said : Rows.ShakeNobodyCardSaid := snobody_card
end Go.Proofs.YtmnibmgbicnamabGreatDoor
