/-
  Whatever width and bodies it is asked for, heddlelaw06.FrameBack answers true: what Frame makes, one behind the other, Split tells.
  Conditions: those of the given row of the second form (arguments of bulk at most 1048576); the program is the landed one, translated at its commit.
-/
import Derived.Test.YtpbakejocjmkeaaFBackRow
import Derived.Test.YtpbakejocjmkeaaFrmImpl
namespace Go.Proofs.Ytpbakejocjmkeaa

theorem frame_back_said : Rows.FrameBackUptoSaid := back_holds frm_implS
end Go.Proofs.Ytpbakejocjmkeaa
