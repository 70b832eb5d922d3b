/-
  Whatever kind and bytes it is asked for, heddlelaw08.ShakeReads answers true: the program reads the message that the document reads, or refuses the bytes as the document does.
  Conditions: those of the given row alone (the variables errors.errorType, internal/strconv.uint64pow10, math/bits.deBruijn32tab and math/bits.deBruijn64tab start as the program's text lays them; the card ties that, to the seat's pruned copy of the project); the program is the landed one, translated at its commit.
-/
import Derived.Test.YtmnibmgbicnamaaGreatDoorLShakeReadsCard
namespace Go.Proofs.YtmnibmgbicnamaaGreatDoor

theorem shake_reads_said : Rows.ShakeReadsCardSaid := sreads_card
end Go.Proofs.YtmnibmgbicnamaaGreatDoor
