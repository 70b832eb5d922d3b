/-
  Whatever cookie, challenge, bytes, place and turn it is asked for, heddlelaw07.MixKnows answers true: the program's Same knows the digest of a cookie and a challenge, and no other row of bytes.
  Conditions: those of the given row alone (the variables internal/strconv.uint64pow10, math/bits.deBruijn32tab and math/bits.deBruijn64tab start as the program's text lays them; the card ties that, to the seat's pruned copy of the project); the program is the landed one, translated at its commit.
-/
import Derived.Test.YtldpolbgdhgomaaDoorMKnowsCard
import Derived.Test.YtldpolbgdhgomaaDoorMxf
namespace Go.Proofs.YtldpolbgdhgomaaDoor

theorem mix_knows_said : Rows.MixKnowsCardSaid := knows_card mix_impl
end Go.Proofs.YtldpolbgdhgomaaDoor
