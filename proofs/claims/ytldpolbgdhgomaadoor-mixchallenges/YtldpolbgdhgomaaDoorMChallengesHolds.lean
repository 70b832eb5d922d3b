/-
  Whatever seed and number of calls it is asked for, heddlelaw07.MixChallenges answers true: the program's generators tell the document's challenges, two of one seed the same, and count them.
  Conditions: those of the given row alone (the variables internal/strconv.uint64pow10, math/bits.deBruijn32tab and math/bits.deBruijn64tab start as the program's text lays them; the card ties that, to the seat's pruned copy of the project); the program is the landed one, translated at its commit.
-/
import Derived.Test.YtldpolbgdhgomaaDoorMChallengesCard
import Derived.Test.YtldpolbgdhgomaaDoorMxf
import Derived.Test.YtldpolbgdhgomaaDoorMxg
namespace Go.Proofs.YtldpolbgdhgomaaDoor

theorem mix_challenges_said : Rows.MixChallengesCardSaid := challenges_card mix_impl mix_gen
end Go.Proofs.YtldpolbgdhgomaaDoor
