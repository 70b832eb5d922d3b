/-
  Layer 11 (parse): a world in which the listed variables lie.
-/
import Derived.Test.YtipdmmncgenppaaGreatDoorPRowBase
namespace Go.Proofs.YtipdmmncgenppaaGreatDoor
open Go.ChangeShapes Go.WideShapes Go.RowKit

theorem Tryz.et : Tryz.prog.globalNamed "errors.errorType" = some 0 := by kernel_rfl
/-- The cells of plain data. -/
def litCells : DataW Unit → List Value
  | .lit (.int k z) => [.int k z]
  | .lit (.string s) => [.string ⟨s.toArray⟩]
  | .lit (.bool b) => [.bool b]
  | _ => []
def aggCells : DataW Unit → List Value
  | .agg l => l.flatMap litCells
  | d => litCells d
def agg2Cells : DataW Unit → List Value
  | .agg l => l.flatMap aggCells
  | d => aggCells d
/-- A variable's cells laid. -/
def layAt (w : World) (g : Nat) (cs : Array Value) : World := { w with heap := w.heap.modify g fun
      | .cells _ t frozen => .cells cs t frozen
      | o => o }
def errCells (s : List UInt8) : Obj := .cells #[.string ⟨s.toArray⟩] 166
/-- A world with the listed variables' cells laid in it. -/
def withVar (w : World) : World :=
  let h := w.heap.size
  let w1 := (w.alloc (errCells [118, 97, 108, 117, 101, 32, 111, 117, 116, 32, 111, 102, 32, 114, 97, 110, 103, 101])).alloc (errCells [105, 110, 118, 97, 108, 105, 100, 32, 115, 121, 110, 116, 97, 120])
  layAt (layAt (layAt (layAt (layAt (layAt (layAt (layAt (layAt w1 0 #[.iface 91 (.agg #[.pointer (some ⟨9, 36, none⟩)])])
    6 (aggCells Rows.laid_internal_strconv_uint64pow10).toArray)
    7 (aggCells Rows.laid_math_bits_deBruijn32tab).toArray)
    8 (aggCells Rows.laid_math_bits_deBruijn64tab).toArray)
    3 (agg2Cells Rows.laid_unicode_utf8_acceptRanges).toArray)
    2 (aggCells Rows.laid_unicode_utf8_first).toArray)
    1 (aggCells Rows.laid_heddle_lex_signs).toArray)
    5 #[.iface 164 (.pointer (some ⟨h, 0, none⟩))])
    4 #[.iface 164 (.pointer (some ⟨h + 1, 0, none⟩))]
set_option maxRecDepth 100000 in
theorem withVar_met9 (os : Os) (args : Array Value) : laidMetH Tryz.prog laidNine ((withVar (World.holding Tryz.prog os ⟨#[], #[], []⟩)).forCall (fun _ _ => 0) ⟨#[], args, []⟩).memory :=
  laidMetH_of_parts (laidMet_of_run' 8 (by kernel_rfl) (by kernel_rfl)) (by kernel_rfl)
end Go.Proofs.YtipdmmncgenppaaGreatDoor
