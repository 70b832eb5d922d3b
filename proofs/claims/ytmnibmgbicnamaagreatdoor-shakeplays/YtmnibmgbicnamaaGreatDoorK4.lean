/-
  Layer 8 (shake): which messages may be, by the document.
-/
import Derived.Test.YtmnibmgbicnamaaGreatDoorK3
namespace Go.Proofs.YtmnibmgbicnamaaGreatDoor
open Go.RowKit

/-- A message's value. -/
def msgV (m : Msg) (D : Value) : Value := .agg #[.int .i64 m.kind, .int .u64 m.flags, .int .u32 m.creation, .int .u32 m.challenge, .string m.name, .string m.status, D]
theorem empty_list {s : ByteArray} (h : s.size ≠ 0) : s.toList.isEmpty = false := by
  rw [← decide_eq_emptyBytes]
  simp
  intro h'
  subst h'
  exact h rfl

set_option maxRecDepth 100000 in
set_option maxHeartbeats 12800000 in
theorem ref_fields (k f cr ch : Int) (nm st : ByteArray) (dg : List Int) (a : Option Addr) (c : Nat) (w : World) :
    Calls Tryz.prog 33 #[msgV ⟨k, f, cr, ch, nm, st, dg⟩ (.slice a dg.length c)] w fun e w' => e = .returned (.bool (decide (fits ⟨k, f, cr, ch, nm, st, dg⟩))) ∧ Below w.heap.size w w' := by
  obtain ⟨F, hF⟩ : ∃ F : Bool, F = decide (fits ⟨k, f, cr, ch, nm, st, dg⟩) := ⟨_, rfl⟩
  have HF : Hid (F = decide (fits ⟨k, f, cr, ch, nm, st, dg⟩)) := hF
  rw [← hF]
  clear hF
  obtain ⟨L, hL⟩ : ∃ L, L = dg.length := ⟨_, rfl⟩
  have HL : Hid (L = dg.length) := hL
  rw [← hL]
  clear hL
  unfold msgV
  simp only
  have hst := ref_status st
  have hk : k = 1 ∨ k = 2 ∨ k = 3 ∨ k = 4 ∨ k = 5 ∨ (k ≠ 1 ∧ k ≠ 2 ∧ k ≠ 3 ∧ k ≠ 4 ∧ k ≠ 5) := by omega
  by_cases hn : nm.size = 0
  · have hn' := empty_size hn
    subst hn'
    by_cases hs : st.size = 0
    · have hs' := empty_size hs
      subst hs'
      have hsf : isSt ⟨#[]⟩ = false := by decide
      rw [hsf] at hst
      rcases hk with rfl | rfl | rfl | rfl | rfl | ⟨k1, k2, k3, k4, k5⟩
      · go_enter Tryz.func33, Tryz.ntmps33
        go_wp2
        all_goals go_ret
        all_goals
          refine ⟨congrArg Ending.returned (congrArg Value.bool ?_), (Below.refl _ _).alloc (Nat.le_refl _) _⟩
          have hl := HL.out
          rw [HF.out]
          clear HF HL
          rw [Bool.eq_iff_iff]
          simp only [fits, decide_eq_true_eq, ← hl]
          clear hl
          simp [*]
          try omega
      · go_enter Tryz.func33, Tryz.ntmps33
        go_wp2_with (go_at_call 45; refine (hst _).mono ?_; rintro e w1 ⟨rfl, rfl⟩)
        all_goals go_ret
        all_goals
          refine ⟨congrArg Ending.returned (congrArg Value.bool ?_), (Below.refl _ _).alloc (Nat.le_refl _) _⟩
          have hl := HL.out
          rw [HF.out]
          clear HF HL
          rw [Bool.eq_iff_iff]
          simp only [fits, decide_eq_true_eq, ← hl]
          clear hl
          simp [*]
          try omega
      · go_enter Tryz.func33, Tryz.ntmps33
        go_wp2
        all_goals go_ret
        all_goals
          refine ⟨congrArg Ending.returned (congrArg Value.bool ?_), (Below.refl _ _).alloc (Nat.le_refl _) _⟩
          have hl := HL.out
          rw [HF.out]
          clear HF HL
          rw [Bool.eq_iff_iff]
          simp only [fits, decide_eq_true_eq, ← hl]
          clear hl
          simp [*]
          try omega
      · go_enter Tryz.func33, Tryz.ntmps33
        go_wp2
        all_goals go_ret
        all_goals
          refine ⟨congrArg Ending.returned (congrArg Value.bool ?_), (Below.refl _ _).alloc (Nat.le_refl _) _⟩
          have hl := HL.out
          rw [HF.out]
          clear HF HL
          rw [Bool.eq_iff_iff]
          simp only [fits, decide_eq_true_eq, ← hl]
          clear hl
          simp [*]
          try omega
      · go_enter Tryz.func33, Tryz.ntmps33
        go_wp2
        all_goals go_ret
        all_goals
          refine ⟨congrArg Ending.returned (congrArg Value.bool ?_), (Below.refl _ _).alloc (Nat.le_refl _) _⟩
          have hl := HL.out
          rw [HF.out]
          clear HF HL
          rw [Bool.eq_iff_iff]
          simp only [fits, decide_eq_true_eq, ← hl]
          clear hl
          simp [*]
          try omega
      · have q1 : (k == 1) = false := by simp [k1]
        have q2 : (k == 2) = false := by simp [k2]
        have q3 : (k == 3) = false := by simp [k3]
        have q4 : (k == 4) = false := by simp [k4]
        have q5 : (k == 5) = false := by simp [k5]
        have hk0 : ¬ (1 ≤ k ∧ k ≤ 5) := by omega
        go_enter Tryz.func33, Tryz.ntmps33
        go_wp2
        all_goals go_ret
        all_goals
          refine ⟨congrArg Ending.returned (congrArg Value.bool ?_), (Below.refl _ _).alloc (Nat.le_refl _) _⟩
          have hl := HL.out
          rw [HF.out]
          clear HF HL
          rw [Bool.eq_iff_iff]
          simp only [fits, decide_eq_true_eq, ← hl]
          clear hl
          simp [*]
          try omega
    · have hse := empty_list hs
      rcases hk with rfl | rfl | rfl | rfl | rfl | ⟨k1, k2, k3, k4, k5⟩
      · go_enter Tryz.func33, Tryz.ntmps33
        go_wp2
        all_goals go_ret
        all_goals
          refine ⟨congrArg Ending.returned (congrArg Value.bool ?_), (Below.refl _ _).alloc (Nat.le_refl _) _⟩
          have hl := HL.out
          rw [HF.out]
          clear HF HL
          rw [Bool.eq_iff_iff]
          simp only [fits, decide_eq_true_eq, ← hl]
          clear hl
          simp [*]
          try omega
      · cases hb : isSt st with
        | true =>
          rw [hb] at hst
          go_enter Tryz.func33, Tryz.ntmps33
          go_wp2_with (go_at_call 45; refine (hst _).mono ?_; rintro e w1 ⟨rfl, rfl⟩)
          all_goals go_ret
          all_goals
            refine ⟨congrArg Ending.returned (congrArg Value.bool ?_), (Below.refl _ _).alloc (Nat.le_refl _) _⟩
            have hl := HL.out
            rw [HF.out]
            clear HF HL
            rw [Bool.eq_iff_iff]
            simp only [fits, decide_eq_true_eq, ← hl]
            clear hl
            simp [*]
            try omega
        | false =>
          rw [hb] at hst
          go_enter Tryz.func33, Tryz.ntmps33
          go_wp2_with (go_at_call 45; refine (hst _).mono ?_; rintro e w1 ⟨rfl, rfl⟩)
          all_goals go_ret
          all_goals
            refine ⟨congrArg Ending.returned (congrArg Value.bool ?_), (Below.refl _ _).alloc (Nat.le_refl _) _⟩
            have hl := HL.out
            rw [HF.out]
            clear HF HL
            rw [Bool.eq_iff_iff]
            simp only [fits, decide_eq_true_eq, ← hl]
            clear hl
            simp [*]
            try omega
      · go_enter Tryz.func33, Tryz.ntmps33
        go_wp2
        all_goals go_ret
        all_goals
          refine ⟨congrArg Ending.returned (congrArg Value.bool ?_), (Below.refl _ _).alloc (Nat.le_refl _) _⟩
          have hl := HL.out
          rw [HF.out]
          clear HF HL
          rw [Bool.eq_iff_iff]
          simp only [fits, decide_eq_true_eq, ← hl]
          clear hl
          simp [*]
          try omega
      · go_enter Tryz.func33, Tryz.ntmps33
        go_wp2
        all_goals go_ret
        all_goals
          refine ⟨congrArg Ending.returned (congrArg Value.bool ?_), (Below.refl _ _).alloc (Nat.le_refl _) _⟩
          have hl := HL.out
          rw [HF.out]
          clear HF HL
          rw [Bool.eq_iff_iff]
          simp only [fits, decide_eq_true_eq, ← hl]
          clear hl
          simp [*]
          try omega
      · go_enter Tryz.func33, Tryz.ntmps33
        go_wp2
        all_goals go_ret
        all_goals
          refine ⟨congrArg Ending.returned (congrArg Value.bool ?_), (Below.refl _ _).alloc (Nat.le_refl _) _⟩
          have hl := HL.out
          rw [HF.out]
          clear HF HL
          rw [Bool.eq_iff_iff]
          simp only [fits, decide_eq_true_eq, ← hl]
          clear hl
          simp [*]
          try omega
      · have q1 : (k == 1) = false := by simp [k1]
        have q2 : (k == 2) = false := by simp [k2]
        have q3 : (k == 3) = false := by simp [k3]
        have q4 : (k == 4) = false := by simp [k4]
        have q5 : (k == 5) = false := by simp [k5]
        have hk0 : ¬ (1 ≤ k ∧ k ≤ 5) := by omega
        go_enter Tryz.func33, Tryz.ntmps33
        go_wp2
        all_goals go_ret
        all_goals
          refine ⟨congrArg Ending.returned (congrArg Value.bool ?_), (Below.refl _ _).alloc (Nat.le_refl _) _⟩
          have hl := HL.out
          rw [HF.out]
          clear HF HL
          rw [Bool.eq_iff_iff]
          simp only [fits, decide_eq_true_eq, ← hl]
          clear hl
          simp [*]
          try omega
  · have hne := empty_list hn
    by_cases hs : st.size = 0
    · have hs' := empty_size hs
      subst hs'
      have hsf : isSt ⟨#[]⟩ = false := by decide
      rw [hsf] at hst
      rcases hk with rfl | rfl | rfl | rfl | rfl | ⟨k1, k2, k3, k4, k5⟩
      · go_enter Tryz.func33, Tryz.ntmps33
        go_wp2
        all_goals go_ret
        all_goals
          refine ⟨congrArg Ending.returned (congrArg Value.bool ?_), (Below.refl _ _).alloc (Nat.le_refl _) _⟩
          have hl := HL.out
          rw [HF.out]
          clear HF HL
          rw [Bool.eq_iff_iff]
          simp only [fits, decide_eq_true_eq, ← hl]
          clear hl
          simp [*]
          try omega
      · go_enter Tryz.func33, Tryz.ntmps33
        go_wp2_with (go_at_call 45; refine (hst _).mono ?_; rintro e w1 ⟨rfl, rfl⟩)
        all_goals go_ret
        all_goals
          refine ⟨congrArg Ending.returned (congrArg Value.bool ?_), (Below.refl _ _).alloc (Nat.le_refl _) _⟩
          have hl := HL.out
          rw [HF.out]
          clear HF HL
          rw [Bool.eq_iff_iff]
          simp only [fits, decide_eq_true_eq, ← hl]
          clear hl
          simp [*]
          try omega
      · go_enter Tryz.func33, Tryz.ntmps33
        go_wp2
        all_goals go_ret
        all_goals
          refine ⟨congrArg Ending.returned (congrArg Value.bool ?_), (Below.refl _ _).alloc (Nat.le_refl _) _⟩
          have hl := HL.out
          rw [HF.out]
          clear HF HL
          rw [Bool.eq_iff_iff]
          simp only [fits, decide_eq_true_eq, ← hl]
          clear hl
          simp [*]
          try omega
      · go_enter Tryz.func33, Tryz.ntmps33
        go_wp2
        all_goals go_ret
        all_goals
          refine ⟨congrArg Ending.returned (congrArg Value.bool ?_), (Below.refl _ _).alloc (Nat.le_refl _) _⟩
          have hl := HL.out
          rw [HF.out]
          clear HF HL
          rw [Bool.eq_iff_iff]
          simp only [fits, decide_eq_true_eq, ← hl]
          clear hl
          simp [*]
          try omega
      · go_enter Tryz.func33, Tryz.ntmps33
        go_wp2
        all_goals go_ret
        all_goals
          refine ⟨congrArg Ending.returned (congrArg Value.bool ?_), (Below.refl _ _).alloc (Nat.le_refl _) _⟩
          have hl := HL.out
          rw [HF.out]
          clear HF HL
          rw [Bool.eq_iff_iff]
          simp only [fits, decide_eq_true_eq, ← hl]
          clear hl
          simp [*]
          try omega
      · have q1 : (k == 1) = false := by simp [k1]
        have q2 : (k == 2) = false := by simp [k2]
        have q3 : (k == 3) = false := by simp [k3]
        have q4 : (k == 4) = false := by simp [k4]
        have q5 : (k == 5) = false := by simp [k5]
        have hk0 : ¬ (1 ≤ k ∧ k ≤ 5) := by omega
        go_enter Tryz.func33, Tryz.ntmps33
        go_wp2
        all_goals go_ret
        all_goals
          refine ⟨congrArg Ending.returned (congrArg Value.bool ?_), (Below.refl _ _).alloc (Nat.le_refl _) _⟩
          have hl := HL.out
          rw [HF.out]
          clear HF HL
          rw [Bool.eq_iff_iff]
          simp only [fits, decide_eq_true_eq, ← hl]
          clear hl
          simp [*]
          try omega
    · have hse := empty_list hs
      rcases hk with rfl | rfl | rfl | rfl | rfl | ⟨k1, k2, k3, k4, k5⟩
      · go_enter Tryz.func33, Tryz.ntmps33
        go_wp2
        all_goals go_ret
        all_goals
          refine ⟨congrArg Ending.returned (congrArg Value.bool ?_), (Below.refl _ _).alloc (Nat.le_refl _) _⟩
          have hl := HL.out
          rw [HF.out]
          clear HF HL
          rw [Bool.eq_iff_iff]
          simp only [fits, decide_eq_true_eq, ← hl]
          clear hl
          simp [*]
          try omega
      · cases hb : isSt st with
        | true =>
          rw [hb] at hst
          go_enter Tryz.func33, Tryz.ntmps33
          go_wp2_with (go_at_call 45; refine (hst _).mono ?_; rintro e w1 ⟨rfl, rfl⟩)
          all_goals go_ret
          all_goals
            refine ⟨congrArg Ending.returned (congrArg Value.bool ?_), (Below.refl _ _).alloc (Nat.le_refl _) _⟩
            have hl := HL.out
            rw [HF.out]
            clear HF HL
            rw [Bool.eq_iff_iff]
            simp only [fits, decide_eq_true_eq, ← hl]
            clear hl
            simp [*]
            try omega
        | false =>
          rw [hb] at hst
          go_enter Tryz.func33, Tryz.ntmps33
          go_wp2_with (go_at_call 45; refine (hst _).mono ?_; rintro e w1 ⟨rfl, rfl⟩)
          all_goals go_ret
          all_goals
            refine ⟨congrArg Ending.returned (congrArg Value.bool ?_), (Below.refl _ _).alloc (Nat.le_refl _) _⟩
            have hl := HL.out
            rw [HF.out]
            clear HF HL
            rw [Bool.eq_iff_iff]
            simp only [fits, decide_eq_true_eq, ← hl]
            clear hl
            simp [*]
            try omega
      · go_enter Tryz.func33, Tryz.ntmps33
        go_wp2
        all_goals go_ret
        all_goals
          refine ⟨congrArg Ending.returned (congrArg Value.bool ?_), (Below.refl _ _).alloc (Nat.le_refl _) _⟩
          have hl := HL.out
          rw [HF.out]
          clear HF HL
          rw [Bool.eq_iff_iff]
          simp only [fits, decide_eq_true_eq, ← hl]
          clear hl
          simp [*]
          try omega
      · go_enter Tryz.func33, Tryz.ntmps33
        go_wp2
        all_goals go_ret
        all_goals
          refine ⟨congrArg Ending.returned (congrArg Value.bool ?_), (Below.refl _ _).alloc (Nat.le_refl _) _⟩
          have hl := HL.out
          rw [HF.out]
          clear HF HL
          rw [Bool.eq_iff_iff]
          simp only [fits, decide_eq_true_eq, ← hl]
          clear hl
          simp [*]
          try omega
      · go_enter Tryz.func33, Tryz.ntmps33
        go_wp2
        all_goals go_ret
        all_goals
          refine ⟨congrArg Ending.returned (congrArg Value.bool ?_), (Below.refl _ _).alloc (Nat.le_refl _) _⟩
          have hl := HL.out
          rw [HF.out]
          clear HF HL
          rw [Bool.eq_iff_iff]
          simp only [fits, decide_eq_true_eq, ← hl]
          clear hl
          simp [*]
          try omega
      · have q1 : (k == 1) = false := by simp [k1]
        have q2 : (k == 2) = false := by simp [k2]
        have q3 : (k == 3) = false := by simp [k3]
        have q4 : (k == 4) = false := by simp [k4]
        have q5 : (k == 5) = false := by simp [k5]
        have hk0 : ¬ (1 ≤ k ∧ k ≤ 5) := by omega
        go_enter Tryz.func33, Tryz.ntmps33
        go_wp2
        all_goals go_ret
        all_goals
          refine ⟨congrArg Ending.returned (congrArg Value.bool ?_), (Below.refl _ _).alloc (Nat.le_refl _) _⟩
          have hl := HL.out
          rw [HF.out]
          clear HF HL
          rw [Bool.eq_iff_iff]
          simp only [fits, decide_eq_true_eq, ← hl]
          clear hl
          simp [*]
          try omega
end Go.Proofs.YtmnibmgbicnamaaGreatDoor
