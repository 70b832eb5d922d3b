/-
  Whatever width and bytes, wherever they are cut and wherever frames are asked for between the pieces, heddlelaw06.FrameChunks answers true: the bodies that a reader tells are those that Split tells of all bytes, and a length that is too great stops both at the same place.
  Conditions: none but the given row's own; the program is the landed one, translated at its commit.
-/
import Derived.Test.YtpbakejocjmkeaaFChunksRow
import Derived.Test.YtpbakejocjmkeaaFrmImpl
namespace Go.Proofs.Ytpbakejocjmkeaa

theorem frame_chunks_said : Rows.FrameChunksSaid := chunks_holds frm_implS
end Go.Proofs.Ytpbakejocjmkeaa
