/-
  Whatever the text, heddlelaw11.ParseOwn answers true: the tokens of a text that are handed to the program's parser are not changed; its answer, with places, is the document's, or its refusal; what is written into the tokens and into the answered tree afterwards changes nothing in a later answer; and the program's parser is alive.
  Conditions: those of the given row alone (the nine listed variables, heddle's lex.signs and eight of Go's library, start as the program's text lays them; the card ties that, to the seat's pruned copy of the project); the program is the landed one, translated at its commit.
-/
import Derived.Test.YtlciaafincgdeaaGreatDoorZlb
import Derived.Test.YtlciaafincgdeaaGreatDoorZlc
namespace Go.Proofs.YtlciaafincgdeaaGreatDoor

theorem parse_own_said : Rows.ParseOwnCardSaid := pown_card fun s _ hg hw => law_own s hg hw
end Go.Proofs.YtlciaafincgdeaaGreatDoor
