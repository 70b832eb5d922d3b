/-
  Whatever nodes and numbers it is asked for, heddlelaw11.ParseBelow answers true: the program tells what is below any nodes as the document does, and its parser is alive.
  Conditions: those of the given row alone (the nine listed variables, heddle's lex.signs and eight of Go's library, start as the program's text lays them; the card ties that, to the seat's pruned copy of the project); the program is the landed one, translated at its commit.
-/
import Derived.Test.YteninaejcbgbkaaGreatDoorPBelowCard
namespace Go.Proofs.YteninaejcbgbkaaGreatDoor

theorem parse_below_said : Rows.ParseBelowCardSaid := pbelow_card
end Go.Proofs.YteninaejcbgbkaaGreatDoor
