/-
  At every number heddlelaw05.StreamFull answers true: an end takes MaxStream bytes that are under way, and not one more.
  Conditions: those of the given row alone (the variable errors.errorType starts as the program's text lays it; the card ties that); the program is the landed one, translated at its commit.
-/
import Derived.Test.YtjkmklbkemoldaaDoorFullCard
import Derived.Test.YtjkmklbkemoldaaDoorStrmImpl
namespace Go.Proofs.YtjkmklbkemoldaaDoor

theorem stream_full_said : Rows.StreamFullCardSaid := full_card strm_impl.toImpl
end Go.Proofs.YtjkmklbkemoldaaDoor
