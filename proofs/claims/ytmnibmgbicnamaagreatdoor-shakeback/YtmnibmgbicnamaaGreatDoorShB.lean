/-
  Layer 1 (atom): the program's Node; layer 8 (shake): the program's refusals, its names.
-/
import Derived.Test.YtmnibmgbicnamaaGreatDoorShA
import Derived.Test.YtmnibmgbicnamaaGreatDoorS0
import Derived.Test.YtmnibmgbicnamaaGreatDoorShelf
import Derived.Deep.QuietTactic
import Derived.BigQuiet
namespace Go.Proofs.YtmnibmgbicnamaaGreatDoor
open Go.RowKit

theorem Er.lt {w : World} (h : Er w) : 0 < w.heap.size := World.block_lt_of_cell? w _ h
theorem FaultC.ofNew (w : World) (x : Lnk) : FaultC w.heap.size (w.alloc (.cells #[.string x.layer, .int .i64 x.at_, .int .i64 x.code, .nilIface] 133)) (.iface 131 (.pointer (some ⟨w.heap.size, 0, none⟩))) [x] :=
  ⟨_, Nat.le_refl _, rfl, ⟨by simp, by simp, by simp, by simp⟩⟩
theorem at_refuse (a c : Int) (w : World) : Calls Tryz.prog 90 #[.int .i64 a, .int .i64 c] w fun e w' => ∃ v, e = .returned v ∧ FaultC w.heap.size w' v [⟨lyAtom, a, c⟩] ∧ Below w.heap.size w w' := by
  go_enter Tryz.func90, Tryz.ntmps90
  go_wp2
  go_ret
  exact ⟨_, rfl, FaultC.ofNew w ⟨lyAtom, a, c⟩, (Below.refl _ _).alloc (Nat.le_refl _) _⟩
theorem sh_refuse (a c : Int) (w : World) : Calls Tryz.prog 29 #[.int .i64 a, .int .i64 c] w fun e w' => ∃ v, e = .returned v ∧ FaultC w.heap.size w' v (sh a c) ∧ Below w.heap.size w w' := by
  go_enter Tryz.func29, Tryz.ntmps29
  go_wp2
  go_ret
  exact ⟨_, rfl, FaultC.ofNew w ⟨lyShake, a, c⟩, (Below.refl _ _).alloc (Nat.le_refl _) _⟩

set_option maxRecDepth 100000 in
theorem at_small (c : Int) (w : World) : Calls Tryz.prog 117 #[.int .u8 c] w fun e w' => e = .returned (.bool (smallB c)) ∧ w = w' := by
  go_enter Tryz.func117, Tryz.ntmps117
  go_wp2
  all_goals go_ret
  all_goals
    refine ⟨congrArg Ending.returned (congrArg Value.bool ?_), rfl⟩
    rw [Bool.eq_iff_iff]
    simp [smallB]
    try omega
set_option maxRecDepth 100000 in
theorem at_alnum (c : Int) (w : World) : Calls Tryz.prog 108 #[.int .u8 c] w fun e w' => e = .returned (.bool (alnumB c)) ∧ w = w' := by
  have hs := at_small c w
  cases h : smallB c
  all_goals
    rw [h] at hs
    go_enter Tryz.func108, Tryz.ntmps108
    go_wp2_with (go_at_call 117; refine hs.mono ?_; rintro e w' ⟨rfl, rfl⟩)
    all_goals go_ret
    all_goals
      refine ⟨congrArg Ending.returned (congrArg Value.bool ?_), rfl⟩
      rw [Bool.eq_iff_iff]
      simp [alnumB, h]
      try omega
theorem all_snoc (d : Bool) (s : ByteArray) (j : Nat) (h : j < s.size) : ((nums s).take (j + 1)).all (partByte d) = (((nums s).take j).all (partByte d) && partByte d (s[j].toNat : Int)) := by
  have h' : j < (nums s).length := by rw [nums_length]; exact h
  rw [List.take_succ_eq_append_getElem h', List.all_append, nums_get s j h h']
  simp
theorem all_bad (d : Bool) (s : ByteArray) (j : Nat) (h : j < s.size) (hb : partByte d (s[j].toNat : Int) = false) : partB d s = false := by
  have h' : j < (nums s).length := by rw [nums_length]; exact h
  unfold partB
  rw [Bool.and_eq_false_iff]
  left
  rw [List.all_eq_false]
  exact ⟨(nums s)[j], List.getElem_mem h', by rw [nums_get s j h h', hb]; decide⟩
set_option maxRecDepth 100000 in
set_option maxHeartbeats 1600000 in
theorem at_part (s : ByteArray) (hs : s.size ≤ 4611686018427387904) (d : Bool) (w : World) : Calls Tryz.prog 89 #[.string s, .bool d] w fun e w' => e = .returned (.bool (partB d s)) ∧ w = w' := by
  go_enter Tryz.func89, Tryz.ntmps89
  go_wp2_with fail
  go_loopw [9] (fun i wr => ∃ j : Nat, j ≤ s.size ∧ i = .int .i64 j ∧ ((nums s).take j).all (partByte d) = true ∧ w = wr) (fun i _ => s.size - (intOf i).toNat)
  case atStart => exact ⟨0, Nat.zero_le _, rfl, rfl, rfl⟩
  case round =>
    obtain ⟨j, hj, rfl, hall, rfl⟩ := hrel
    by_cases hlt : j < s.size
    · have hlti : (j : Int) < (s.size : Int) := by omega
      have HN : Hid (partByte d (s[j].toNat : Int) = true → ((nums s).take (j + 1)).all (partByte d) = true) := fun h => by rw [all_snoc d s j hlt, hall, h]; rfl
      have HB : Hid (partByte d (s[j].toNat : Int) = false → partB d s = false) := all_bad d s j hlt
      have hal := at_alnum (s[j].toNat : Int) w
      clear hall
      cases ha : alnumB (s[j].toNat : Int) with
      | true =>
        rw [ha] at hal
        have hn := HN.out (by simp [partByte, ha])
        have HH : Hid (((nums s).take (j + 1)).all (partByte d) = true) := hn
        clear hn HN HB ha
        go_wp2_with (go_at_call 108; refine hal.mono ?_; rintro e w' ⟨rfl, rfl⟩)
        go_roundw
        case rel => exact ⟨j + 1, by omega, by go_num, HH.out, trivial⟩
        case measure => simp [intOf]; omega
      | false =>
        rw [ha] at hal
        have HA : Hid (alnumB (s[j].toNat : Int) = false) := ha
        clear ha
        by_cases h95 : (s[j].toNat : Int) = 95
        · have HH : Hid (((nums s).take (j + 1)).all (partByte d) = true) := HN.out (by simp [partByte, h95])
          have HX : Hid ((s[j].toNat : Int) = 95) := h95
          clear HN HB HA h95
          go_wp2_with (go_at_call 108; refine hal.mono ?_; rintro e w' ⟨rfl, rfl⟩)
          all_goals first
            | (go_roundw
               case rel => exact ⟨j + 1, by omega, by go_num, HH.out, trivial⟩
               case measure => simp [intOf]; omega)
            | exact absurd HX.out (by assumption)
        · by_cases h45 : (s[j].toNat : Int) = 45
          · have HH : Hid (((nums s).take (j + 1)).all (partByte d) = true) := HN.out (by simp [partByte, h45])
            have HX : Hid ((s[j].toNat : Int) = 45) := h45
            clear HN HB HA h45
            go_wp2_with (go_at_call 108; refine hal.mono ?_; rintro e w' ⟨rfl, rfl⟩)
            all_goals first
              | (go_roundw
                 case rel => exact ⟨j + 1, by omega, by go_num, HH.out, trivial⟩
                 case measure => simp [intOf]; omega)
              | exact absurd HX.out (by assumption)
          · by_cases h46 : d = true ∧ (s[j].toNat : Int) = 46
            · obtain ⟨rfl, h46⟩ := h46
              have HH : Hid (((nums s).take (j + 1)).all (partByte true) = true) := HN.out (by simp [partByte, h46])
              have HX : Hid ((s[j].toNat : Int) = 46) := h46
              clear HN HB HA h46
              go_wp2_with (go_at_call 108; refine hal.mono ?_; rintro e w' ⟨rfl, rfl⟩)
              all_goals first
                | (go_roundw
                   case rel => exact ⟨j + 1, by omega, by go_num, HH.out, trivial⟩
                   case measure => simp [intOf]; omega)
                | exact absurd HX.out (by assumption)
                | (exfalso; rename_i hx; simp [HX.out] at hx)
            · have HH : Hid (partB d s = false) := HB.out (by simp only [partByte, HA.out, decide_eq_false h95, decide_eq_false h45, Bool.false_or]; cases d <;> simp_all)
              clear HN HB HA
              have q95 : ((s[j].toNat : Int) != 95) = true := by simp [h95]
              have q45 : ((s[j].toNat : Int) != 45) = true := by simp [h45]
              cases d with
              | false =>
                clear h46
                go_wp2_with (go_at_call 108; refine hal.mono ?_; rintro e w' ⟨rfl, rfl⟩)
                go_ret
                exact ⟨by rw [HH.out]; rfl, rfl⟩
              | true =>
                have h46 : ¬ (s[j].toNat : Int) = 46 := by simpa using h46
                have q46 : ((s[j].toNat : Int) == 46) = false := by simp [h46]
                go_wp2_with (go_at_call 108; refine hal.mono ?_; rintro e w' ⟨rfl, rfl⟩)
                go_ret
                exact ⟨by rw [HH.out]; rfl, rfl⟩
    · have hge : ¬ (j : Int) < (s.size : Int) := by omega
      obtain rfl : j = s.size := by omega
      rw [List.take_of_length_le (by rw [nums_length]; exact Nat.le_refl _)] at hall
      have hp : partB d s = decide (s.size ≠ 0) := by unfold partB; rw [hall, Bool.true_and]
      have HP : Hid (partB d s = decide (s.size ≠ 0)) := hp
      clear hp
      clear hall
      by_cases h0 : s.size = 0
      · have he := empty_size h0
        subst he
        go_wp2
        go_ret
        exact ⟨by rw [HP.out]; rfl, rfl⟩
      · have hne := empty_list' h0
        go_wp2
        go_ret
        refine ⟨?_, rfl⟩
        rw [HP.out, decide_eq_true h0]
        rfl
end Go.Proofs.YtmnibmgbicnamaaGreatDoor
