/-
  Whatever two nodes, cookies and challenges it is asked for, heddlelaw08.ShakeMeets answers true: two nodes that may meet are up just if they have one cookie, and then know one another; where the digests differ neither is up.
  Conditions: those of the given row alone (the variables errors.errorType, internal/strconv.uint64pow10, math/bits.deBruijn32tab and math/bits.deBruijn64tab start as the program's text lays them; the card ties that, to the seat's pruned copy of the project); the program is the landed one, translated at its commit.
-/
import Derived.Test.YtmnibmgbicnamaaGreatDoorLShakeMeetsCard
namespace Go.Proofs.YtmnibmgbicnamaaGreatDoor

theorem shake_meets_said : Rows.ShakeMeetsCardSaid := smeets_card
end Go.Proofs.YtmnibmgbicnamaaGreatDoor
