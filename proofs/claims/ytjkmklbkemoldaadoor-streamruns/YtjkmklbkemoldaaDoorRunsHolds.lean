/-
  Whatever calls are made of a new stream, in whatever order and with whatever ends, numbers and bytes, heddlelaw05.StreamRuns answers true: each call answers as the document says, and so does State behind them.
  Conditions: those of the given row alone (the variable errors.errorType starts as the program's text lays it; the card ties that); the program is the landed one, translated at its commit.
-/
import Derived.Test.YtjkmklbkemoldaaDoorRunsCard
import Derived.Test.YtjkmklbkemoldaaDoorStrmImpl
namespace Go.Proofs.YtjkmklbkemoldaaDoor

theorem stream_runs_said : Rows.StreamRunsCardSaid := runs_card strm_impl.toImpl
end Go.Proofs.YtjkmklbkemoldaaDoor
