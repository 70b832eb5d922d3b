/-
  Layers 1 and 10 (atom, lex): the program's questions on bytes; how far a run of bytes goes.
-/
import Derived.Test.YtlgkjjbefoeabaaGreatDoorPVec
import Derived.Test.YtlgkjjbefoeabaaGreatDoorChecked
import Derived.Deep.RegionHeld3
import Derived.Deep.RegionLaw
import Derived.Laws.BytesArg
import Derived.WalkSpells
import Derived.RegionTactic
import Derived.Laws.Closers25
import Derived.Deep.QuietTactic
import Derived.BigQuiet
namespace Go.Proofs.YtlgkjjbefoeabaaGreatDoor
open Go.RowKit

theorem Hid.mk7 {p : Prop} (h : p) : Hid p := h
def smallB (c : Int) : Bool := decide (97 ≤ c ∧ c ≤ 122)
def capB (c : Int) : Bool := decide (65 ≤ c ∧ c ≤ 90)
def digB (c : Int) : Bool := decide (48 ≤ c ∧ c ≤ 57)
def alnumB (c : Int) : Bool := smallB c || capB c || digB c
def wordB (c : Int) : Bool := alnumB c || decide (c = 95) || decide (c = 64)
def blankB (c : Int) : Bool := decide (c = 9) || decide (c = 10) || decide (c = 13) || decide (c = 32)

set_option maxRecDepth 100000 in
theorem at_small (c : Int) (w : World) : Calls Tryz.prog 138 #[.int .u8 c] w fun e w' => e = .returned (.bool (smallB c)) ∧ w = w' := by
  go_enter Tryz.func138, Tryz.ntmps138
  go_wp2
  all_goals go_ret
  all_goals
    refine ⟨congrArg Ending.returned (congrArg Value.bool ?_), rfl⟩
    rw [Bool.eq_iff_iff]
    simp [smallB]
    try omega
set_option maxRecDepth 100000 in
theorem at_alnum (c : Int) (w : World) : Calls Tryz.prog 159 #[.int .u8 c] w fun e w' => e = .returned (.bool (alnumB c)) ∧ w = w' := by
  have hs := at_small c w
  cases h : smallB c
  all_goals
    rw [h] at hs
    go_enter Tryz.func159, Tryz.ntmps159
    go_wp2_with (go_at_call 138; refine hs.mono ?_; rintro e w' ⟨rfl, rfl⟩)
    all_goals go_ret
    all_goals
      refine ⟨congrArg Ending.returned (congrArg Value.bool ?_), rfl⟩
      rw [Bool.eq_iff_iff]
      simp [alnumB, capB, digB, h]
      try omega
set_option maxRecDepth 100000 in
theorem at_word (c : Int) (w : World) : Calls Tryz.prog 150 #[.int .u8 c] w fun e w' => e = .returned (.bool (wordB c)) ∧ w = w' := by
  have hs := at_alnum c w
  cases h : alnumB c
  all_goals
    rw [h] at hs
    go_enter Tryz.func150, Tryz.ntmps150
    go_wp2_with (go_at_call 159; refine hs.mono ?_; rintro e w' ⟨rfl, rfl⟩)
    all_goals go_ret
    all_goals
      refine ⟨congrArg Ending.returned (congrArg Value.bool ?_), rfl⟩
      rw [Bool.eq_iff_iff]
      simp [wordB, h]
      try omega
set_option maxRecDepth 100000 in
theorem lx_small (c : Int) (w : World) : Calls Tryz.prog 104 #[.int .u8 c] w fun e w' => e = .returned (.bool (smallB c)) ∧ w = w' := by
  go_enter Tryz.func104, Tryz.ntmps104
  go_wp2
  all_goals go_ret
  all_goals
    refine ⟨congrArg Ending.returned (congrArg Value.bool ?_), rfl⟩
    rw [Bool.eq_iff_iff]
    simp [smallB]
    try omega
set_option maxRecDepth 100000 in
theorem lx_cap (c : Int) (w : World) : Calls Tryz.prog 108 #[.int .u8 c] w fun e w' => e = .returned (.bool (capB c)) ∧ w = w' := by
  go_enter Tryz.func108, Tryz.ntmps108
  go_wp2
  all_goals go_ret
  all_goals
    refine ⟨congrArg Ending.returned (congrArg Value.bool ?_), rfl⟩
    rw [Bool.eq_iff_iff]
    simp [capB]
    try omega
set_option maxRecDepth 100000 in
theorem lx_dig (c : Int) (w : World) : Calls Tryz.prog 110 #[.int .u8 c] w fun e w' => e = .returned (.bool (digB c)) ∧ w = w' := by
  go_enter Tryz.func110, Tryz.ntmps110
  go_wp2
  all_goals go_ret
  all_goals
    refine ⟨congrArg Ending.returned (congrArg Value.bool ?_), rfl⟩
    rw [Bool.eq_iff_iff]
    simp [digB]
    try omega
set_option maxRecDepth 100000 in
theorem lx_alnum (c : Int) (w : World) : Calls Tryz.prog 136 #[.int .u8 c] w fun e w' => e = .returned (.bool (alnumB c)) ∧ w = w' := by
  have hs := lx_small c w
  have hc := lx_cap c w
  have hd := lx_dig c w
  cases h : smallB c <;> cases h2 : capB c
  all_goals
    rw [h] at hs
    rw [h2] at hc
    go_enter Tryz.func136, Tryz.ntmps136
    go_wp2_with (first | (go_at_call 104; refine hs.mono ?_; rintro e w' ⟨rfl, rfl⟩) | (go_at_call 108; refine hc.mono ?_; rintro e w' ⟨rfl, rfl⟩) | (go_at_call 110; refine hd.mono ?_; rintro e w' ⟨rfl, rfl⟩))
    all_goals go_ret
    all_goals
      refine ⟨congrArg Ending.returned (congrArg Value.bool ?_), rfl⟩
      simp [alnumB, h, h2]
set_option maxRecDepth 100000 in
theorem lx_word (c : Int) (w : World) : Calls Tryz.prog 125 #[.int .u8 c] w fun e w' => e = .returned (.bool (wordB c)) ∧ w = w' := by
  have hs := lx_alnum c w
  cases h : alnumB c
  all_goals
    rw [h] at hs
    go_enter Tryz.func125, Tryz.ntmps125
    go_wp2_with (go_at_call 136; refine hs.mono ?_; rintro e w' ⟨rfl, rfl⟩)
    all_goals go_ret
    all_goals
      refine ⟨congrArg Ending.returned (congrArg Value.bool ?_), rfl⟩
      rw [Bool.eq_iff_iff]
      simp [wordB, h]
      try omega
set_option maxRecDepth 100000 in
theorem lx_blank (c : Int) (w : World) : Calls Tryz.prog 89 #[.int .i32 c] w fun e w' => e = .returned (.bool (blankB c)) ∧ w = w' := by
  go_enter Tryz.func89, Tryz.ntmps89
  go_wp2
  all_goals go_ret
  all_goals
    refine ⟨congrArg Ending.returned (congrArg Value.bool ?_), rfl⟩
    rw [Bool.eq_iff_iff]
    simp [blankB]
    try omega

/-- How many bytes from the front are such. -/
def runLen (p : Int → Bool) (s : ByteArray) : Nat → Nat → Nat
  | 0, n => n
  | k + 1, n => if h : n < s.size then (if p (s[n].toNat : Int) then runLen p s k (n + 1) else n) else n
theorem runLen_stop (p : Int → Bool) (s : ByteArray) (n : Nat) (h : n < s.size) (hp : p (s[n].toNat : Int) = false) : ∀ k, runLen p s k n = n
  | 0 => rfl
  | k + 1 => by rw [runLen, dif_pos h, hp]; rfl
theorem runLen_end (p : Int → Bool) (s : ByteArray) (n : Nat) (h : ¬ n < s.size) : ∀ k, runLen p s k n = n
  | 0 => rfl
  | k + 1 => by rw [runLen, dif_neg h]
set_option maxRecDepth 100000 in
set_option maxHeartbeats 1600000 in
theorem lx_runWord (s : ByteArray) (hs : s.size ≤ 4611686018427387904) (w : World) : Calls Tryz.prog 90 #[.string s, .func (.func 125) #[] #[]] w fun e w' => e = .returned (.int .i64 (runLen wordB s s.size 0 : Nat)) ∧ w = w' := by
  go_enter Tryz.func90, Tryz.ntmps90
  go_wp2_with fail
  go_loopw [5] (fun i wr => ∃ j : Nat, j ≤ s.size ∧ i = .int .i64 j ∧ runLen wordB s (s.size - j) j = runLen wordB s s.size 0 ∧ w = wr) (fun i _ => s.size - (intOf i).toNat)
  case atStart => exact ⟨0, Nat.zero_le _, rfl, rfl, rfl⟩
  case round =>
    obtain ⟨j, hj, rfl, hrun, rfl⟩ := hrel
    have HR := Hid.mk7 hrun
    clear hrun
    by_cases hlt : j < s.size
    · have hlti : (j : Int) < (s.size : Int) := by omega
      have ha := lx_word (s[j].toNat : Int) w
      cases hp : wordB (s[j].toNat : Int) with
      | true =>
        have HN : Hid (runLen wordB s (s.size - (j + 1)) (j + 1) = runLen wordB s s.size 0) := by
          have e : s.size - j = s.size - (j + 1) + 1 := by omega
          have := HR.out
          rw [e, runLen, dif_pos hlt, hp] at this
          exact this
        rw [hp] at ha
        clear hp HR
        go_wp2_with (refine ha.mono ?_; rintro e w' ⟨rfl, rfl⟩)
        go_roundw
        case rel => exact ⟨j + 1, by omega, by go_num, HN.out, trivial⟩
        case measure => simp [intOf]; omega
      | false =>
        have HN : Hid (runLen wordB s s.size 0 = j) := by
          have := HR.out
          rw [runLen_stop wordB s j hlt hp] at this
          exact this.symm
        rw [hp] at ha
        clear hp HR
        go_wp2_with (refine ha.mono ?_; rintro e w' ⟨rfl, rfl⟩)
        go_ret
        exact ⟨by rw [HN.out]; rfl, rfl⟩
    · have hge : ¬ (j : Int) < (s.size : Int) := by omega
      have HN : Hid (runLen wordB s s.size 0 = j) := by
        have := HR.out
        rw [runLen_end wordB s j hlt] at this
        exact this.symm
      clear HR
      go_wp2
      go_ret
      exact ⟨by rw [HN.out]; rfl, rfl⟩
set_option maxRecDepth 100000 in
set_option maxHeartbeats 1600000 in
theorem lx_runDig (s : ByteArray) (hs : s.size ≤ 4611686018427387904) (w : World) : Calls Tryz.prog 90 #[.string s, .func (.func 110) #[] #[]] w fun e w' => e = .returned (.int .i64 (runLen digB s s.size 0 : Nat)) ∧ w = w' := by
  go_enter Tryz.func90, Tryz.ntmps90
  go_wp2_with fail
  go_loopw [5] (fun i wr => ∃ j : Nat, j ≤ s.size ∧ i = .int .i64 j ∧ runLen digB s (s.size - j) j = runLen digB s s.size 0 ∧ w = wr) (fun i _ => s.size - (intOf i).toNat)
  case atStart => exact ⟨0, Nat.zero_le _, rfl, rfl, rfl⟩
  case round =>
    obtain ⟨j, hj, rfl, hrun, rfl⟩ := hrel
    have HR := Hid.mk7 hrun
    clear hrun
    by_cases hlt : j < s.size
    · have hlti : (j : Int) < (s.size : Int) := by omega
      have ha := lx_dig (s[j].toNat : Int) w
      cases hp : digB (s[j].toNat : Int) with
      | true =>
        have HN : Hid (runLen digB s (s.size - (j + 1)) (j + 1) = runLen digB s s.size 0) := by
          have e : s.size - j = s.size - (j + 1) + 1 := by omega
          have := HR.out
          rw [e, runLen, dif_pos hlt, hp] at this
          exact this
        rw [hp] at ha
        clear hp HR
        go_wp2_with (refine ha.mono ?_; rintro e w' ⟨rfl, rfl⟩)
        go_roundw
        case rel => exact ⟨j + 1, by omega, by go_num, HN.out, trivial⟩
        case measure => simp [intOf]; omega
      | false =>
        have HN : Hid (runLen digB s s.size 0 = j) := by
          have := HR.out
          rw [runLen_stop digB s j hlt hp] at this
          exact this.symm
        rw [hp] at ha
        clear hp HR
        go_wp2_with (refine ha.mono ?_; rintro e w' ⟨rfl, rfl⟩)
        go_ret
        exact ⟨by rw [HN.out]; rfl, rfl⟩
    · have hge : ¬ (j : Int) < (s.size : Int) := by omega
      have HN : Hid (runLen digB s s.size 0 = j) := by
        have := HR.out
        rw [runLen_end digB s j hlt] at this
        exact this.symm
      clear HR
      go_wp2
      go_ret
      exact ⟨by rw [HN.out]; rfl, rfl⟩
end Go.Proofs.YtlgkjjbefoeabaaGreatDoor
