/-
  Whatever width and bytes it is asked for, heddlelaw06.FrameSplits answers true: the program's Split tells the bodies of all whole frames and how many bytes these have, or the document's refusal at its place.
  Conditions: those of the given row of the second form (arguments of bulk at most 1048576); the variable errors.errorType starts as the program's text lays it (the card ties that); the program is the landed one, translated at its commit.
-/
import Derived.Test.YtpbakejocjmkeaaDoorFSplitsCard
import Derived.Test.YtpbakejocjmkeaaDoorFrmImpl
namespace Go.Proofs.YtpbakejocjmkeaaDoor

theorem frame_splits_said : Rows.FrameSplitsUptoCardSaid := splits_card frm_implS
end Go.Proofs.YtpbakejocjmkeaaDoor
