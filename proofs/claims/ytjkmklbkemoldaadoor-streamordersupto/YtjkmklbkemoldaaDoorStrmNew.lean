/-
  New: an open stream, nothing under way, nothing come, not stalled.
-/
import Derived.Test.YtjkmklbkemoldaaDoorStrmErr
namespace Go.Proofs.YtjkmklbkemoldaaDoor
open Go.RowKit

def newCells (sb : Nat) : Array Value := #[.pointer (some ⟨sb, 0, none⟩), .slice none 0 0, .int .i64 0, .slice none 0 0, .int .i64 0, .int .i64 0, .int .i64 0, .bool false, .slice none 0 0, .int .i64 0, .slice none 0 0, .int .i64 0, .int .i64 0, .int .i64 0, .bool false, .bool false]
def newF (sb : Nat) (j : Nat) : Value := (newCells sb).getD j (.bool false)
theorem new_block (w : World) (t : TypeId) : Block (w.alloc (.cells (newCells w.heap.size) t)) w.heap.size 16 (newF w.heap.size) := by
  intro j hj
  refine ⟨?_, by rw [World.frozen?_alloc_new]⟩
  rw [World.cell?_alloc_at _ _ _ _ rfl]
  have h : j < (newCells w.heap.size).size := hj
  simp [newF, Array.getD, h]

def zeroV : SideV := ⟨.slice none 0 0, 0, .slice none 0 0, 0⟩
def zeroS : Side := ⟨[], [], 0, 0, 0, false⟩
theorem zero_mem (w : World) (sb : Nat) : SideMem w sb zeroV zeroS := ⟨Q.empty w, Q.empty w, by decide +kernel, fun _ h => h.elim, fun _ h => h.elim, fun _ h => h.elim⟩
theorem new_ends (w : World) (t : TypeId) : Ends (w.alloc (.cells (newCells w.heap.size) t)) w.heap.size (newF w.heap.size) 1 8 zeroV zeroV zeroS zeroS false :=
  ⟨.inl ⟨rfl, rfl⟩, new_block w t, rfl, rfl, ⟨rfl, rfl, rfl, rfl, rfl, rfl, rfl⟩, ⟨rfl, rfl, rfl, rfl, rfl, rfl, rfl⟩, zero_mem _ _, zero_mem _ _, fun _ h => h.elim (fun h => h.elim) (fun h => h.elim)⟩

set_option maxRecDepth 100000 in
theorem new_any (w : World) : Calls Tryd.prog 9 #[] w fun ev w' => ∃ sb f, ev = .returned (.pointer (some ⟨sb, 0, none⟩)) ∧ Ends w' sb f 1 8 zeroV zeroV zeroS zeroS false ∧ Below w.heap.size w w' ∧ w.heap.size ≤ sb := by
  go_enter Tryd.func9, Tryd.ntmps9
  go_wp2
  go_ret
  exact ⟨_, _, rfl, new_ends w _, (Below.refl _ _).alloc (Nat.le_refl _) _, Nat.le_refl _⟩
end Go.Proofs.YtjkmklbkemoldaaDoor
