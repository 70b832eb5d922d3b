/-
  The document's Frame (heddleref06).
-/
import Derived.Test.YtpbakejocjmkeabF1
namespace Go.Proofs.Ytpbakejocjmkeab
open Go.RowKit

theorem alloc0f (w : World) (o : Obj) : Turned (fun _ => False) w (w.alloc o) := Turned.alloc _ _ _
/-- Two bytes of a new block. -/
theorem Sl.two (w : World) (t : TypeId) (x y : Int) : Sl (w.alloc (.cells #[.int .u8 x, .int .u8 y] t)) (.slice (some ⟨w.heap.size, 0, none⟩) 2 2) [x, y] := by
  refine .inr (.inr ⟨w.heap.size, 0, 2, rfl, Nat.le_refl _, by decide, fun j hj => ?_⟩)
  have : j < 2 := hj
  match j, this with
  | 0, _ => simp
  | 1, _ => simp


end Go.Proofs.Ytpbakejocjmkeab
