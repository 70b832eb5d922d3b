/-
  Whatever is sent, moved, stalled, read, broken and closed of a new stream, heddlelaw05.StreamOrders answers true: what an end reads is a beginning of what the other one has sent.
  Conditions: those of the given row of the second form (a script of bulk at most 1048576: calls, and bytes in them); the variable errors.errorType starts as the program's text lays it (the card ties that); the program is the landed one, translated at its commit.
-/
import Derived.Test.YtjkmklbkemoldaaDoorOrdersCard
import Derived.Test.YtjkmklbkemoldaaDoorStrmImpl
namespace Go.Proofs.YtjkmklbkemoldaaDoor

theorem stream_orders_said : Rows.StreamOrdersUptoCardSaid := orders_card strm_impl.toImpl
end Go.Proofs.YtjkmklbkemoldaaDoor
