/-
  Whatever is sent, moved, stalled and read of a new stream, heddlelaw05.StreamKeeps answers true: in an open stream what an end has sent has come to the other one or is under way, and what has come is read or waits.
  Conditions: those of the given row alone (the variable errors.errorType starts as the program's text lays it; the card ties that); the program is the landed one, translated at its commit.
-/
import Derived.Test.YtjkmklbkemoldaaDoorKeepsCard
import Derived.Test.YtjkmklbkemoldaaDoorStrmImpl
namespace Go.Proofs.YtjkmklbkemoldaaDoor

theorem stream_keeps_said : Rows.StreamKeepsCardSaid := keeps_card strm_impl.toImpl
end Go.Proofs.YtjkmklbkemoldaaDoor
