/-
  At every call heddlelaw05.StreamNobody answers true: a stream that is nil, and one that is its type's zero value, refuse each of the seven calls with ErrZero.
  Conditions: those of the given row alone (the variable errors.errorType starts as the program's text lays it; the card ties that); the program is the landed one, translated at its commit.
-/
import Derived.Test.YtjkmklbkemoldabDoorNobodyCard
import Derived.Test.YtjkmklbkemoldabDoorStrmImpl
namespace Go.Proofs.YtjkmklbkemoldabDoor

theorem stream_nobody_said : Rows.StreamNobodyCardSaid := nobody_card (nobody_holds fun w h => alive_any strm_impl.toImpl w h)
end Go.Proofs.YtjkmklbkemoldabDoor
