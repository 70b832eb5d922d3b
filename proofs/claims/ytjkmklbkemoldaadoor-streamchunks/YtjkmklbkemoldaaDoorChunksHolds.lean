/-
  Whatever bytes are sent, moved and read in whatever parts, heddlelaw05.StreamChunks answers true: what is read, put together, is those bytes.
  Conditions: those of the given row alone (the variable errors.errorType starts as the program's text lays it; the card ties that); the program is the landed one, translated at its commit.
-/
import Derived.Test.YtjkmklbkemoldaaDoorChunksCard
import Derived.Test.YtjkmklbkemoldaaDoorStrmImpl
namespace Go.Proofs.YtjkmklbkemoldaaDoor

theorem stream_chunks_said : Rows.StreamChunksCardSaid := chunks_card strm_impl.toImpl
end Go.Proofs.YtjkmklbkemoldaaDoor
