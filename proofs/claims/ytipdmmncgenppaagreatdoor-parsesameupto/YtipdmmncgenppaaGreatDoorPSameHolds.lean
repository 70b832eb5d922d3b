/-
  Whatever two rows of nodes and numbers of theirs it is asked for, heddlelaw11.ParseSame answers true: the program's Same tells whether two trees are the same just as the document's does, and its parser is alive.
  Conditions: those of the given row of the second form (arguments of bulk at most 1048576; the nine listed variables, heddle's lex.signs and eight of Go's library, start as the program's text lays them; the card ties that, to the seat's pruned copy of the project); the program is the landed one, translated at its commit.
-/
import Derived.Test.YtipdmmncgenppaaGreatDoorPSameCard
namespace Go.Proofs.YtipdmmncgenppaaGreatDoor

theorem parse_same_said : Rows.ParseSameUptoCardSaid := psame_card
end Go.Proofs.YtipdmmncgenppaaGreatDoor
