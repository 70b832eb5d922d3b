/-
  heddlemem.Refused: true where there is no link and no error, and where the one link tells the fault's layer, place and number.
-/
import Derived.Test.YtmnibmgbicnamaaGreatDoorChain
import Derived.Deep.QuietTactic
import Derived.BigQuiet
import Derived.WalkSmall
namespace Go.Proofs.YtmnibmgbicnamaaGreatDoor
open Go.RowKit Go.Extern.Stop Go.Stop Go.Extern

theorem refused_nil (w : World) (a : Option Addr) (cap : Nat) : Calls Tryz.prog 11 #[.nilIface, .slice a 0 cap] w fun e w' => e = .returned (.bool true) ∧ w' = w := by
  go_enter Tryz.func11, Tryz.ntmps11
  go_wp2
  go_ret
  exact ⟨rfl, rfl⟩

set_option maxRecDepth 100000 in
set_option maxHeartbeats 3200000 in
theorem refused_fault (pb po lb cap : Nat) (ly : ByteArray) (at_ c : Int) (w : World) (hg : w.cell? ⟨0, 0, none⟩ = some (.iface 168 (.agg #[.pointer (some ⟨5, 29, none⟩)])))
    (h0 : w.cell? ⟨pb, po, none⟩ = some (.string ly)) (h1 : w.cell? ⟨pb, po + 1, none⟩ = some (.int .i64 at_)) (h2 : w.cell? ⟨pb, po + 2, none⟩ = some (.int .i64 c)) (h3 : w.cell? ⟨pb, po + 3, none⟩ = some .nilIface)
    (l0 : w.cell? ⟨lb, 0, none⟩ = some (.string ly)) (l1 : w.cell? ⟨lb, 1, none⟩ = some (.int .i64 at_)) (l2 : w.cell? ⟨lb, 2, none⟩ = some (.int .i64 c)) :
    Calls Tryz.prog 11 #[.iface 131 (.pointer (some ⟨pb, po, none⟩)), .slice (some ⟨lb, 0, none⟩) 1 cap] w fun e w' => e = .returned (.bool true) ∧ Below w.heap.size w w' := by
  have hlt : pb < w.heap.size := World.block_lt_of_cell? w _ h0
  have hll : lb < w.heap.size := World.block_lt_of_cell? w _ l0
  go_enter Tryz.func11, Tryz.ntmps11
  go_wp2_with fail
  refine (chain_fault pb po ly at_ c _ hg h0 h1 h2 h3).mono ?_
  rintro e w1 ⟨g, cap1, rfl, g0, g1, g2, hgw, hb⟩
  have k2 : w1.cell? ⟨pb, po + 2, none⟩ = some (.int .i64 c) := (hb.cell (p := ⟨pb, po + 2, none⟩) hlt).trans h2
  have k3 : w1.cell? ⟨pb, po + 3, none⟩ = some .nilIface := (hb.cell (p := ⟨pb, po + 3, none⟩) hlt).trans h3
  have m0 : w1.cell? ⟨lb, 0, none⟩ = some (.string ly) := (hb.cell (p := ⟨lb, 0, none⟩) hll).trans l0
  have m1 : w1.cell? ⟨lb, 1, none⟩ = some (.int .i64 at_) := (hb.cell (p := ⟨lb, 1, none⟩) hll).trans l1
  have m2 : w1.cell? ⟨lb, 2, none⟩ = some (.int .i64 c) := (hb.cell (p := ⟨lb, 2, none⟩) hll).trans l2
  have HB : Hid (Below w.heap.size w w1) := hb
  clear hb h0 h1 h2 h3 hg l0 l1 l2 hgw
  go_wp2
  refine wp_loop_rounds 2 ?_
  rw [rounds_succ]
  go_wp2
  go_quiet (fail)
  go_wp2
  rw [rounds_succ]
  go_wp2_with fail
  refine (is_fault pb po c _ (by simpa using k2) (by simpa using k3)).mono ?_
  rintro e w2 ⟨rfl, rfl⟩
  go_wp2
  go_ret
  exact ⟨rfl, below_drewN HB.out nq⟩
end Go.Proofs.YtmnibmgbicnamaaGreatDoor
