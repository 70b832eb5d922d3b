/-
  The document's Next (heddleref06.Reader).
-/
import Derived.Test.YtpbakejocjmkeaaF3
namespace Go.Proofs.Ytpbakejocjmkeaa
open Go.RowKit

end Go.Proofs.Ytpbakejocjmkeaa
