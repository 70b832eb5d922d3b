/-
  Whatever cookie and challenge it is asked for, heddlelaw07.MixOwn answers true: a digest that was overwritten changes no later one, and a generator that is nil or that nobody made tells nothing.
  Conditions: those of the given row alone (the variables errors.errorType, internal/strconv.uint64pow10, math/bits.deBruijn32tab and math/bits.deBruijn64tab start as the program's text lays them; the card ties that, to the seat's pruned copy of the project); the program is the landed one, translated at its commit.
-/
import Derived.Test.YtldpolbgdhgomaaDoorMOwnCard
import Derived.Test.YtldpolbgdhgomaaDoorMxf
import Derived.Test.YtldpolbgdhgomaaDoorMxg
namespace Go.Proofs.YtldpolbgdhgomaaDoor

theorem mix_own_said : Rows.MixOwnCardSaid := own_card mix_impl mix_no
end Go.Proofs.YtldpolbgdhgomaaDoor
