/-
  Whatever width and body it is asked for, heddlelaw06.FrameMakes answers true: the program's Frame answers as the document says: the body with its length ahead, or the document's refusal.
  Conditions: those of the given row alone (the variable errors.errorType starts as the program's text lays it; the card ties that); the program is the landed one, translated at its commit.
-/
import Derived.Test.YtpbakejocjmkeaaDoorFMakesCard
import Derived.Test.YtpbakejocjmkeaaDoorFrmImpl
namespace Go.Proofs.YtpbakejocjmkeaaDoor

theorem frame_makes_said : Rows.FrameMakesCardSaid := makes_card frm_impl
end Go.Proofs.YtpbakejocjmkeaaDoor
