/-
  heddleref08.Same; heddlelaw08.ShakeBack.
-/
import Derived.Test.YtmnibmgbicnamaaGreatDoorShAw
namespace Go.Proofs.YtmnibmgbicnamaaGreatDoor
open Go.RowKit

set_option maxRecDepth 100000 in
set_option maxHeartbeats 3200000 in
theorem ref_same_eq (m : Msg) {w : World} {D E : Value} (hD : Sl w D m.digest) (hE : Sl w E m.digest) : Calls Tryz.prog 15 #[msgV' m D, msgV' m E] w fun e w' => e = .returned (.bool true) ∧ Below w.heap.size w w' := by
  obtain ⟨aD, cD, rfl, _, _⟩ := hD.form
  obtain ⟨aE, cE, rfl, _, _⟩ := hE.form
  obtain ⟨k, fl, cr, ch, nm, st, dg⟩ := m
  unfold msgV'
  simp only at hD hE ⊢
  obtain ⟨wa, hwa⟩ : ∃ wa, wa = w.alloc (.cells #[.int .i64 k, .int .u64 fl, .int .u32 cr, .int .u32 ch, .string nm, .string st, .slice aD dg.length cD] 27) := ⟨_, rfl⟩
  obtain ⟨wb, hwb⟩ : ∃ wb, wb = wa.alloc (.cells #[.int .i64 k, .int .u64 fl, .int .u32 cr, .int .u32 ch, .string nm, .string st, .slice aE dg.length cE] 27) := ⟨_, rfl⟩
  have ba : Below w.heap.size w wa := by rw [hwa]; exact (Below.refl _ _).alloc (Nat.le_refl _) _
  have bb : Below wa.heap.size wa wb := by rw [hwb]; exact (Below.refl _ _).alloc (Nat.le_refl _) _
  have bab : Below w.heap.size w wb := ba.trans (bb.mono ba.size)
  have cvD := (hD.turned (Turned.ofBelow (S := fun _ => False) bab) (fun _ _ h => h)).str
  have cvE := (hE.turned (Turned.ofBelow (S := fun _ => False) bab) (fun _ _ h => h)).str
  have HB := Hid.mk7 bab
  rw [hwb, hwa] at cvD cvE
  have HW : Hid (wb = (w.alloc (.cells #[.int .i64 k, .int .u64 fl, .int .u32 cr, .int .u32 ch, .string nm, .string st, .slice aD dg.length cD] 27)).alloc (.cells #[.int .i64 k, .int .u64 fl, .int .u32 cr, .int .u32 ch, .string nm, .string st, .slice aE dg.length cE] 27)) := by
    have h : wb = (w.alloc (.cells #[.int .i64 k, .int .u64 fl, .int .u32 cr, .int .u32 ch, .string nm, .string st, .slice aD dg.length cD] 27)).alloc (.cells #[.int .i64 k, .int .u64 fl, .int .u32 cr, .int .u32 ch, .string nm, .string st, .slice aE dg.length cE] 27) := by rw [hwb, hwa]
    exact h
  clear hwa hwb ba bb bab hD hE
  go_enter Tryz.func15, Tryz.ntmps15
  go_wp2
  go_ret
  refine ⟨rfl, ?_⟩
  have h := HB.out
  rw [HW.out] at h
  exact h
end Go.Proofs.YtmnibmgbicnamaaGreatDoor
