/-
  Whatever width and bytes it is asked for, heddlelaw06.FrameOwn answers true: no answer of Split or of a reader shares memory with what was handed in, or with what is told later.
  Conditions: those of the given row of the second form (arguments of bulk at most 1048576); the program is the landed one, translated at its commit.
-/
import Derived.Test.YtpbakejocjmkeabFOwnRow
namespace Go.Proofs.Ytpbakejocjmkeab

theorem frame_own_said : Rows.FrameOwnUptoSaid := own_holds
end Go.Proofs.Ytpbakejocjmkeab
