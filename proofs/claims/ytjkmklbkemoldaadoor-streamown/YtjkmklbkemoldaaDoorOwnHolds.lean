/-
  At whatever bytes heddlelaw05.StreamOwn answers true: bytes that are changed behind Send, and bytes that are changed behind Read, change nothing in the stream.
  Conditions: those of the given row alone (the variable errors.errorType starts as the program's text lays it; the card ties that); the program is the landed one, translated at its commit.
-/
import Derived.Test.YtjkmklbkemoldaaDoorOwnCard
import Derived.Test.YtjkmklbkemoldaaDoorStrmImpl
namespace Go.Proofs.YtjkmklbkemoldaaDoor

theorem stream_own_said : Rows.StreamOwnCardSaid := own_card strm_impl
end Go.Proofs.YtjkmklbkemoldaaDoor
