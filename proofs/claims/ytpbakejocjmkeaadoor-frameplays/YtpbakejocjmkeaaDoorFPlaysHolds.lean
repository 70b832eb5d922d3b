/-
  Whatever calls are made of a new reader, in whatever order and with whatever width and bytes, heddlelaw06.FramePlays answers true: each call answers as the document says, and so does State behind it.
  Conditions: those of the given row alone (the variable errors.errorType starts as the program's text lays it; the card ties that); the program is the landed one, translated at its commit.
-/
import Derived.Test.YtpbakejocjmkeaaDoorFPlaysCard
import Derived.Test.YtpbakejocjmkeaaDoorFrmImpl
namespace Go.Proofs.YtpbakejocjmkeaaDoor

theorem frame_plays_said : Rows.FramePlaysCardSaid := plays_card frm_impl
end Go.Proofs.YtpbakejocjmkeaaDoor
