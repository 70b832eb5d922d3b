/-
  Whatever bytes it is asked for, heddlelaw06.FrameNobody answers true: a reader that is nil, and one that is its type's zero value, refuse Feed, Next and Widen with ErrZero, and State tells zero of them.
  Conditions: those of the given row alone (the variable errors.errorType starts as the program's text lays it; the card ties that); the program is the landed one, translated at its commit.
-/
import Derived.Test.YtpbakejocjmkeaaDoorFNobodyCard
namespace Go.Proofs.YtpbakejocjmkeaaDoor

theorem frame_nobody_said : Rows.FrameNobodyCardSaid := nobody_card
end Go.Proofs.YtpbakejocjmkeaaDoor
