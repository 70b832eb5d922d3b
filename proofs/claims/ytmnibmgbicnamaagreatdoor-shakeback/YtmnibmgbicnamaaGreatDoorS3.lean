/-
  Layer 8 (shake): the document's statuses, flags and letters.
-/
import Derived.Test.YtmnibmgbicnamaaGreatDoorS2
namespace Go.Proofs.YtmnibmgbicnamaaGreatDoor
open Go.RowKit

theorem eq_bytes (s t : ByteArray) : s = t ↔ s.toList = t.data.toList := by
  constructor
  · rintro rfl; exact ByteArray.toList_eq s
  · intro h
    rw [ByteArray.toList_eq] at h
    apply ByteArray.ext
    exact Array.toList_inj.1 h
theorem eq_stOk (s : ByteArray) : s = stOk ↔ s.toList = [111, 107] := eq_bytes s stOk
theorem eq_stSim (s : ByteArray) : s = stSim ↔ s.toList = [111, 107, 95, 115, 105, 109, 117, 108, 116, 97, 110, 101, 111, 117, 115] := eq_bytes s stSim
theorem eq_stNok (s : ByteArray) : s = stNok ↔ s.toList = [110, 111, 107] := eq_bytes s stNok
theorem eq_stNot (s : ByteArray) : s = stNot ↔ s.toList = [110, 111, 116, 95, 97, 108, 108, 111, 119, 101, 100] := eq_bytes s stNot
theorem eq_stAlive (s : ByteArray) : s = stAlive ↔ s.toList = [97, 108, 105, 118, 101] := eq_bytes s stAlive
set_option maxRecDepth 100000 in
theorem ref_letter (k : Int) (hk : 1 ≤ k ∧ k ≤ 5) (w : World) : Calls Tryz.prog 44 #[.int .i64 k] w fun e w' => e = .returned (.int .u8 (letterOf k)) ∧ w = w' := by
  have h5 : k = 1 ∨ k = 2 ∨ k = 3 ∨ k = 4 ∨ k = 5 := by omega
  rcases h5 with rfl | rfl | rfl | rfl | rfl
  all_goals
    go_enter Tryz.func44, Tryz.ntmps44
    go_wp2
    go_ret
    exact ⟨rfl, rfl⟩
set_option maxRecDepth 100000 in
theorem ref_lacks (f : Int) (w : World) : Calls Tryz.prog 53 #[.int .u64 f] w fun e w' => e = .returned (.bool (lacksB f)) ∧ w = w' := by
  go_enter Tryz.func53, Tryz.ntmps53
  go_wp2
  go_ret
  refine ⟨congrArg Ending.returned (congrArg Value.bool ?_), rfl⟩
  unfold lacksB flagsNeeded
  by_cases h : bits .and .u64 f 4345626892 = 4345626892 <;> simp [h]
set_option maxRecDepth 100000 in
theorem ref_status (s : ByteArray) (w : World) : Calls Tryz.prog 45 #[.string s] w fun e w' => e = .returned (.bool (isSt s)) ∧ w = w' := by
  go_enter Tryz.func45, Tryz.ntmps45
  go_wp2
  all_goals go_ret
  all_goals
    refine ⟨congrArg Ending.returned (congrArg Value.bool ?_), rfl⟩
    rw [Bool.eq_iff_iff]
    simp only [isSt, Bool.or_eq_true, decide_eq_true_eq, eq_stOk, eq_stSim, eq_stNok, eq_stNot, eq_stAlive]
    simp [*]
end Go.Proofs.YtmnibmgbicnamaaGreatDoor
