/-
  Whatever cookie and challenge it is asked for, heddlelaw07.MixDigests answers true: the program's Digest tells the document's 16 bytes, or the document's refusal and no bytes.
  Conditions: those of the given row alone (the variables errors.errorType, internal/strconv.uint64pow10, math/bits.deBruijn32tab and math/bits.deBruijn64tab start as the program's text lays them; the card ties that, to the seat's pruned copy of the project); the program is the landed one, translated at its commit.
-/
import Derived.Test.YtldpolbgdhgomaaDoorMDigestsCard
import Derived.Test.YtldpolbgdhgomaaDoorMxf
namespace Go.Proofs.YtldpolbgdhgomaaDoor

theorem mix_digests_said : Rows.MixDigestsCardSaid := digests_card mix_impl
end Go.Proofs.YtldpolbgdhgomaaDoor
