/-
  Whatever text it is asked for, heddlelaw07.MixCookies answers true: the program's Cookie tells that it is a cookie, or refuses it at the place and with the number that the document says.
  Conditions: those of the given row alone (the variables errors.errorType, internal/strconv.uint64pow10, math/bits.deBruijn32tab and math/bits.deBruijn64tab start as the program's text lays them; the card ties that, to the seat's pruned copy of the project); the program is the landed one, translated at its commit.
-/
import Derived.Test.YtldpolbgdhgomaaDoorMCookiesCard
import Derived.Test.YtldpolbgdhgomaaDoorMxf
namespace Go.Proofs.YtldpolbgdhgomaaDoor

theorem mix_cookies_said : Rows.MixCookiesCardSaid := cookies_card mix_impl
end Go.Proofs.YtldpolbgdhgomaaDoor
