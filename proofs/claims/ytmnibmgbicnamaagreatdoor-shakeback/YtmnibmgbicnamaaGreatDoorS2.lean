/-
  Layer 8 (shake): the document's Node: whether it is a name.
-/
import Derived.Test.YtmnibmgbicnamaaGreatDoorS1
namespace Go.Proofs.YtmnibmgbicnamaaGreatDoor
open Go.RowKit

set_option maxRecDepth 100000 in
set_option maxHeartbeats 6400000 in
theorem ref_node_in (s : ByteArray) (hs : s.size ≤ 4611686018427387904) (h3 : 3 ≤ s.size) (h64 : s.size ≤ 64) (ls : List Lnk) (HLS : Hid ((if nodeOk s = true then [] else [(⟨lyAtom, 0, 24⟩ : Lnk)]) = ls)) (p0 : Int × Bool) (HP0 : Hid (nodeOk s = (p0.2 && decide (1 ≤ p0.1) && decide (p0.1 ≠ (s.size : Int) - 1)))) (HS : Hid (p0 = nodeScan (nums s) 0 (-1) true)) (w : World) :
    Calls Tryz.prog 36 #[.string s] w fun e w' => ∃ x y v, e = .returned (.tuple #[x, y, v]) ∧ LinksC w.heap.size w' v ls ∧ Below w.heap.size w w' := by
  have i3 : (3 : Int) ≤ (s.size : Int) := by omega
  have i64 : (s.size : Int) ≤ 64 := by omega
  clear h3 h64
  go_enter Tryz.func36, Tryz.ntmps36
  go_wp2_with fail
  go_loopw [5, 6, 7] (fun aa gg ii wr => ∃ (j : Nat) (a : Int) (g : Bool), ii = .int .i64 j ∧ j ≤ s.size ∧ aa = .int .i64 a ∧ -1 ≤ a ∧ a < (j : Int) ∧ gg = .bool g ∧ p0 = nodeScan ((nums s).drop j) j a g ∧ w = wr) (fun _ _ ii _ => s.size - (intOf ii).toNat)
  case atStart => exact ⟨0, -1, true, rfl, Nat.zero_le _, rfl, by omega, by omega, rfl, HS.out, rfl⟩
  case round =>
    obtain ⟨j, a, g, rfl, hj, rfl, ha0, ha1, rfl, hp, rfl⟩ := hrel
    by_cases hlt : j < s.size
    · have hlti : (j : Int) < (s.size : Int) := by omega
      have hj0 : (0 : Int) ≤ (j : Int) := by omega
      rw [nodeScan_step s j hlt] at hp
      have hidx : ∀ W : World, (Instr.index 9 (.string s) (.int .i64 (j : Int))).run Tryz.prog W = .ok (.int .u8 (s[j].toNat : Int)) W := fun W => by
        rw [run_index_string W _ _ _ _ Tryz.underlying9, dif_pos ⟨hj0, hlti⟩]
        simp
      generalize (s[j].toNat : Int) = c at hidx hp
      by_cases h64 : c = 64
      · rw [if_pos h64] at hp
        subst h64
        cases g with
        | false =>
          have HP : Hid (p0 = nodeScan ((nums s).drop (j + 1)) (j + 1) j false) := hp
          clear hp
          go_wp2
          go_roundw
          case rel => exact ⟨j + 1, j, false, by go_num, by omega, rfl, by omega, by omega, rfl, HP.out, trivial⟩
          case measure => simp [intOf]; omega
        | true =>
          by_cases han : a < 0
          · have hx : p0 = nodeScan ((nums s).drop (j + 1)) (j + 1) j true := by rw [hp]; simp [han]
            have HP : Hid (p0 = nodeScan ((nums s).drop (j + 1)) (j + 1) j true) := hx
            clear hp hx
            go_wp2
            go_roundw
            case rel => exact ⟨j + 1, j, true, by go_num, by omega, rfl, by omega, by omega, rfl, HP.out, trivial⟩
            case measure => simp [intOf]; omega
          · have hx : p0 = nodeScan ((nums s).drop (j + 1)) (j + 1) j false := by rw [hp]; simp [han]
            have HP : Hid (p0 = nodeScan ((nums s).drop (j + 1)) (j + 1) j false) := hx
            have han' : 0 ≤ a := by omega
            clear hp hx
            go_wp2
            go_roundw
            case rel => exact ⟨j + 1, j, false, by go_num, by omega, rfl, by omega, by omega, rfl, HP.out, trivial⟩
            case measure => simp [intOf]; omega
      · rw [if_neg h64] at hp
        have hq : (c == 64) = false := by simp [h64]
        cases g with
        | false =>
          have HP : Hid (p0 = nodeScan ((nums s).drop (j + 1)) (j + 1) a false) := hp
          clear hp
          go_wp2
          go_roundw
          case rel => exact ⟨j + 1, a, false, by go_num, by omega, rfl, by omega, by omega, rfl, HP.out, trivial⟩
          case measure => simp [intOf]; omega
        | true =>
          have hin := in_word c w
          cases hb : inWordB c with
          | true =>
            rw [hb] at hin
            have hx : p0 = nodeScan ((nums s).drop (j + 1)) (j + 1) a true := by rw [hp]; simp [hb]
            have HP : Hid (p0 = nodeScan ((nums s).drop (j + 1)) (j + 1) a true) := hx
            clear hp hx
            go_wp2_with (go_at_call 69; refine hin.mono ?_; rintro e w1 ⟨rfl, rfl⟩)
            go_roundw
            case rel => exact ⟨j + 1, a, true, by go_num, by omega, rfl, by omega, by omega, rfl, HP.out, trivial⟩
            case measure => simp [intOf]; omega
          | false =>
            rw [hb] at hin
            by_cases h45 : c = 45
            · subst h45
              have hx : p0 = nodeScan ((nums s).drop (j + 1)) (j + 1) a true := by rw [hp]; simp [hb]
              have HP : Hid (p0 = nodeScan ((nums s).drop (j + 1)) (j + 1) a true) := hx
              clear hp hx
              go_wp2_with (go_at_call 69; refine hin.mono ?_; rintro e w1 ⟨rfl, rfl⟩)
              go_roundw
              case rel => exact ⟨j + 1, a, true, by go_num, by omega, rfl, by omega, by omega, rfl, HP.out, trivial⟩
              case measure => simp [intOf]; omega
            · have hq5 : (c == 45) = false := by simp [h45]
              by_cases h46 : c = 46
              · subst h46
                by_cases han : 0 ≤ a
                · skip
                  have hx : p0 = nodeScan ((nums s).drop (j + 1)) (j + 1) a true := by rw [hp]; simp [hb, han]
                  have HP : Hid (p0 = nodeScan ((nums s).drop (j + 1)) (j + 1) a true) := hx
                  clear hp hx
                  go_wp2_with (go_at_call 69; refine hin.mono ?_; rintro e w1 ⟨rfl, rfl⟩)
                  go_roundw
                  case rel => exact ⟨j + 1, a, true, by go_num, by omega, rfl, by omega, by omega, rfl, HP.out, trivial⟩
                  case measure => simp [intOf]; omega
                · have han' : decide (0 ≤ a) = false := by simp [han]
                  have hx : p0 = nodeScan ((nums s).drop (j + 1)) (j + 1) a false := by rw [hp]; simp [hb, han]
                  have HP : Hid (p0 = nodeScan ((nums s).drop (j + 1)) (j + 1) a false) := hx
                  clear hp hx
                  go_wp2_with (go_at_call 69; refine hin.mono ?_; rintro e w1 ⟨rfl, rfl⟩)
                  go_roundw
                  case rel => exact ⟨j + 1, a, false, by go_num, by omega, rfl, by omega, by omega, rfl, HP.out, trivial⟩
                  case measure => simp [intOf]; omega
              · have hq6 : (c == 46) = false := by simp [h46]
                have hx : p0 = nodeScan ((nums s).drop (j + 1)) (j + 1) a false := by rw [hp]; simp [hb, h45, h46]
                have HP : Hid (p0 = nodeScan ((nums s).drop (j + 1)) (j + 1) a false) := hx
                clear hp hx
                go_wp2_with (go_at_call 69; refine hin.mono ?_; rintro e w1 ⟨rfl, rfl⟩)
                go_roundw
                case rel => exact ⟨j + 1, a, false, by go_num, by omega, rfl, by omega, by omega, rfl, HP.out, trivial⟩
                case measure => simp [intOf]; omega
    · have hge : ¬ (j : Int) < (s.size : Int) := by omega
      obtain rfl : j = s.size := by omega
      rw [nodeScan_end] at hp
      subst hp
      have hok := HP0.out
      simp only at hok
      have bad : nodeOk s = false → [(⟨lyAtom, 0, 24⟩ : Lnk)] = ls := fun h => by have := HLS.out; rw [h] at this; exact this
      have good : nodeOk s = true → [] = ls := fun h => by have := HLS.out; rw [h] at this; exact this
      cases g with
      | false =>
        have hls := bad (by rw [hok]; simp)
        subst hls
        clear bad good hok
        go_wp2_with (go_at_call 70; refine (at_no _ _ _).mono ?_; rintro e w1 ⟨v, rfl, hf, hbw⟩)
        go_ret3
        exact ⟨_, _, v, rfl, hf, hbw⟩
      | true =>
        by_cases hl1 : a < 1
        · skip
          have hls := bad (by rw [hok]; simp; omega)
          subst hls
          clear bad good hok
          go_wp2_with (go_at_call 70; refine (at_no _ _ _).mono ?_; rintro e w1 ⟨v, rfl, hf, hbw⟩)
          go_ret3
          exact ⟨_, _, v, rfl, hf, hbw⟩
        · have hl1' : 1 ≤ a := by omega
          by_cases hl2 : a = (s.size : Int) - 1
          · have hq : (a == (s.size : Int) - 1) = true := by simp [hl2]
            have hls := bad (by rw [hok]; simp; omega)
            subst hls
            clear bad good hok
            go_wp2_with (go_at_call 70; refine (at_no _ _ _).mono ?_; rintro e w1 ⟨v, rfl, hf, hbw⟩)
            go_ret3
            exact ⟨_, _, v, rfl, hf, hbw⟩
          · have hq : (a == (s.size : Int) - 1) = false := by simp [hl2]
            have hls := good (by rw [hok]; simp; omega)
            subst hls
            clear bad good hok
            have b0 : (0 : Int) ≤ a := by omega
            have b1 : a + 1 ≤ (s.size : Int) := by omega
            have b2 : (0 : Int) ≤ a + 1 := by omega
            have b3 : a ≤ (s.size : Int) := by omega
            go_wp2
            go_region
            go_wp2
            go_ret3
            exact ⟨_, _, _, rfl, rfl, (Below.refl _ _).drew⟩

set_option maxRecDepth 100000 in
set_option maxHeartbeats 6400000 in
theorem ref_node_less (s : ByteArray) (hs : s.size ≤ 4611686018427387904) (h3 : s.size < 3) (ls : List Lnk) (HLS : Hid ((if nodeOk s = true then [] else [(⟨lyAtom, 0, 24⟩ : Lnk)]) = ls)) (p0 : Int × Bool) (HP0 : Hid (nodeOk s = (p0.2 && decide (1 ≤ p0.1) && decide (p0.1 ≠ (s.size : Int) - 1)))) (HS : Hid (p0 = nodeScan (nums s) 0 (-1) false)) (w : World) :
    Calls Tryz.prog 36 #[.string s] w fun e w' => ∃ x y v, e = .returned (.tuple #[x, y, v]) ∧ LinksC w.heap.size w' v ls ∧ Below w.heap.size w w' := by
  have i3 : ¬ (3 : Int) ≤ (s.size : Int) := by omega
  go_enter Tryz.func36, Tryz.ntmps36
  go_wp2_with fail
  go_loopw [5, 6, 7] (fun aa gg ii wr => ∃ (j : Nat) (a : Int) (g : Bool), ii = .int .i64 j ∧ j ≤ s.size ∧ aa = .int .i64 a ∧ -1 ≤ a ∧ a < (j : Int) ∧ gg = .bool g ∧ p0 = nodeScan ((nums s).drop j) j a g ∧ w = wr) (fun _ _ ii _ => s.size - (intOf ii).toNat)
  case atStart => exact ⟨0, -1, false, rfl, Nat.zero_le _, rfl, by omega, by omega, rfl, HS.out, rfl⟩
  case round =>
    obtain ⟨j, a, g, rfl, hj, rfl, ha0, ha1, rfl, hp, rfl⟩ := hrel
    by_cases hlt : j < s.size
    · have hlti : (j : Int) < (s.size : Int) := by omega
      have hj0 : (0 : Int) ≤ (j : Int) := by omega
      rw [nodeScan_step s j hlt] at hp
      have hidx : ∀ W : World, (Instr.index 9 (.string s) (.int .i64 (j : Int))).run Tryz.prog W = .ok (.int .u8 (s[j].toNat : Int)) W := fun W => by
        rw [run_index_string W _ _ _ _ Tryz.underlying9, dif_pos ⟨hj0, hlti⟩]
        simp
      generalize (s[j].toNat : Int) = c at hidx hp
      by_cases h64 : c = 64
      · rw [if_pos h64] at hp
        subst h64
        cases g with
        | false =>
          have HP : Hid (p0 = nodeScan ((nums s).drop (j + 1)) (j + 1) j false) := hp
          clear hp
          go_wp2
          go_roundw
          case rel => exact ⟨j + 1, j, false, by go_num, by omega, rfl, by omega, by omega, rfl, HP.out, trivial⟩
          case measure => simp [intOf]; omega
        | true =>
          by_cases han : a < 0
          · have hx : p0 = nodeScan ((nums s).drop (j + 1)) (j + 1) j true := by rw [hp]; simp [han]
            have HP : Hid (p0 = nodeScan ((nums s).drop (j + 1)) (j + 1) j true) := hx
            clear hp hx
            go_wp2
            go_roundw
            case rel => exact ⟨j + 1, j, true, by go_num, by omega, rfl, by omega, by omega, rfl, HP.out, trivial⟩
            case measure => simp [intOf]; omega
          · have hx : p0 = nodeScan ((nums s).drop (j + 1)) (j + 1) j false := by rw [hp]; simp [han]
            have HP : Hid (p0 = nodeScan ((nums s).drop (j + 1)) (j + 1) j false) := hx
            have han' : 0 ≤ a := by omega
            clear hp hx
            go_wp2
            go_roundw
            case rel => exact ⟨j + 1, j, false, by go_num, by omega, rfl, by omega, by omega, rfl, HP.out, trivial⟩
            case measure => simp [intOf]; omega
      · rw [if_neg h64] at hp
        have hq : (c == 64) = false := by simp [h64]
        cases g with
        | false =>
          have HP : Hid (p0 = nodeScan ((nums s).drop (j + 1)) (j + 1) a false) := hp
          clear hp
          go_wp2
          go_roundw
          case rel => exact ⟨j + 1, a, false, by go_num, by omega, rfl, by omega, by omega, rfl, HP.out, trivial⟩
          case measure => simp [intOf]; omega
        | true =>
          have hin := in_word c w
          cases hb : inWordB c with
          | true =>
            rw [hb] at hin
            have hx : p0 = nodeScan ((nums s).drop (j + 1)) (j + 1) a true := by rw [hp]; simp [hb]
            have HP : Hid (p0 = nodeScan ((nums s).drop (j + 1)) (j + 1) a true) := hx
            clear hp hx
            go_wp2_with (go_at_call 69; refine hin.mono ?_; rintro e w1 ⟨rfl, rfl⟩)
            go_roundw
            case rel => exact ⟨j + 1, a, true, by go_num, by omega, rfl, by omega, by omega, rfl, HP.out, trivial⟩
            case measure => simp [intOf]; omega
          | false =>
            rw [hb] at hin
            by_cases h45 : c = 45
            · subst h45
              have hx : p0 = nodeScan ((nums s).drop (j + 1)) (j + 1) a true := by rw [hp]; simp [hb]
              have HP : Hid (p0 = nodeScan ((nums s).drop (j + 1)) (j + 1) a true) := hx
              clear hp hx
              go_wp2_with (go_at_call 69; refine hin.mono ?_; rintro e w1 ⟨rfl, rfl⟩)
              go_roundw
              case rel => exact ⟨j + 1, a, true, by go_num, by omega, rfl, by omega, by omega, rfl, HP.out, trivial⟩
              case measure => simp [intOf]; omega
            · have hq5 : (c == 45) = false := by simp [h45]
              by_cases h46 : c = 46
              · subst h46
                by_cases han : 0 ≤ a
                · skip
                  have hx : p0 = nodeScan ((nums s).drop (j + 1)) (j + 1) a true := by rw [hp]; simp [hb, han]
                  have HP : Hid (p0 = nodeScan ((nums s).drop (j + 1)) (j + 1) a true) := hx
                  clear hp hx
                  go_wp2_with (go_at_call 69; refine hin.mono ?_; rintro e w1 ⟨rfl, rfl⟩)
                  go_roundw
                  case rel => exact ⟨j + 1, a, true, by go_num, by omega, rfl, by omega, by omega, rfl, HP.out, trivial⟩
                  case measure => simp [intOf]; omega
                · have han' : decide (0 ≤ a) = false := by simp [han]
                  have hx : p0 = nodeScan ((nums s).drop (j + 1)) (j + 1) a false := by rw [hp]; simp [hb, han]
                  have HP : Hid (p0 = nodeScan ((nums s).drop (j + 1)) (j + 1) a false) := hx
                  clear hp hx
                  go_wp2_with (go_at_call 69; refine hin.mono ?_; rintro e w1 ⟨rfl, rfl⟩)
                  go_roundw
                  case rel => exact ⟨j + 1, a, false, by go_num, by omega, rfl, by omega, by omega, rfl, HP.out, trivial⟩
                  case measure => simp [intOf]; omega
              · have hq6 : (c == 46) = false := by simp [h46]
                have hx : p0 = nodeScan ((nums s).drop (j + 1)) (j + 1) a false := by rw [hp]; simp [hb, h45, h46]
                have HP : Hid (p0 = nodeScan ((nums s).drop (j + 1)) (j + 1) a false) := hx
                clear hp hx
                go_wp2_with (go_at_call 69; refine hin.mono ?_; rintro e w1 ⟨rfl, rfl⟩)
                go_roundw
                case rel => exact ⟨j + 1, a, false, by go_num, by omega, rfl, by omega, by omega, rfl, HP.out, trivial⟩
                case measure => simp [intOf]; omega
    · have hge : ¬ (j : Int) < (s.size : Int) := by omega
      obtain rfl : j = s.size := by omega
      rw [nodeScan_end] at hp
      subst hp
      have hok := HP0.out
      simp only at hok
      have bad : nodeOk s = false → [(⟨lyAtom, 0, 24⟩ : Lnk)] = ls := fun h => by have := HLS.out; rw [h] at this; exact this
      have good : nodeOk s = true → [] = ls := fun h => by have := HLS.out; rw [h] at this; exact this
      cases g with
      | false =>
        have hls := bad (by rw [hok]; simp)
        subst hls
        clear bad good hok
        go_wp2_with (go_at_call 70; refine (at_no _ _ _).mono ?_; rintro e w1 ⟨v, rfl, hf, hbw⟩)
        go_ret3
        exact ⟨_, _, v, rfl, hf, hbw⟩
      | true =>
        by_cases hl1 : a < 1
        · skip
          have hls := bad (by rw [hok]; simp; omega)
          subst hls
          clear bad good hok
          go_wp2_with (go_at_call 70; refine (at_no _ _ _).mono ?_; rintro e w1 ⟨v, rfl, hf, hbw⟩)
          go_ret3
          exact ⟨_, _, v, rfl, hf, hbw⟩
        · have hl1' : 1 ≤ a := by omega
          by_cases hl2 : a = (s.size : Int) - 1
          · have hq : (a == (s.size : Int) - 1) = true := by simp [hl2]
            have hls := bad (by rw [hok]; simp; omega)
            subst hls
            clear bad good hok
            go_wp2_with (go_at_call 70; refine (at_no _ _ _).mono ?_; rintro e w1 ⟨v, rfl, hf, hbw⟩)
            go_ret3
            exact ⟨_, _, v, rfl, hf, hbw⟩
          · have hq : (a == (s.size : Int) - 1) = false := by simp [hl2]
            have hls := good (by rw [hok]; simp; omega)
            subst hls
            clear bad good hok
            have b0 : (0 : Int) ≤ a := by omega
            have b1 : a + 1 ≤ (s.size : Int) := by omega
            have b2 : (0 : Int) ≤ a + 1 := by omega
            have b3 : a ≤ (s.size : Int) := by omega
            go_wp2
            go_region
            go_wp2
            go_ret3
            exact ⟨_, _, _, rfl, rfl, (Below.refl _ _).drew⟩

set_option maxRecDepth 100000 in
set_option maxHeartbeats 6400000 in
theorem ref_node_more (s : ByteArray) (hs : s.size ≤ 4611686018427387904) (h3 : 64 < s.size) (ls : List Lnk) (HLS : Hid ((if nodeOk s = true then [] else [(⟨lyAtom, 0, 24⟩ : Lnk)]) = ls)) (p0 : Int × Bool) (HP0 : Hid (nodeOk s = (p0.2 && decide (1 ≤ p0.1) && decide (p0.1 ≠ (s.size : Int) - 1)))) (HS : Hid (p0 = nodeScan (nums s) 0 (-1) false)) (w : World) :
    Calls Tryz.prog 36 #[.string s] w fun e w' => ∃ x y v, e = .returned (.tuple #[x, y, v]) ∧ LinksC w.heap.size w' v ls ∧ Below w.heap.size w w' := by
  have i3 : (3 : Int) ≤ (s.size : Int) := by omega
  have i64 : ¬ (s.size : Int) ≤ 64 := by omega
  go_enter Tryz.func36, Tryz.ntmps36
  go_wp2_with fail
  go_loopw [5, 6, 7] (fun aa gg ii wr => ∃ (j : Nat) (a : Int) (g : Bool), ii = .int .i64 j ∧ j ≤ s.size ∧ aa = .int .i64 a ∧ -1 ≤ a ∧ a < (j : Int) ∧ gg = .bool g ∧ p0 = nodeScan ((nums s).drop j) j a g ∧ w = wr) (fun _ _ ii _ => s.size - (intOf ii).toNat)
  case atStart => exact ⟨0, -1, false, rfl, Nat.zero_le _, rfl, by omega, by omega, rfl, HS.out, rfl⟩
  case round =>
    obtain ⟨j, a, g, rfl, hj, rfl, ha0, ha1, rfl, hp, rfl⟩ := hrel
    by_cases hlt : j < s.size
    · have hlti : (j : Int) < (s.size : Int) := by omega
      have hj0 : (0 : Int) ≤ (j : Int) := by omega
      rw [nodeScan_step s j hlt] at hp
      have hidx : ∀ W : World, (Instr.index 9 (.string s) (.int .i64 (j : Int))).run Tryz.prog W = .ok (.int .u8 (s[j].toNat : Int)) W := fun W => by
        rw [run_index_string W _ _ _ _ Tryz.underlying9, dif_pos ⟨hj0, hlti⟩]
        simp
      generalize (s[j].toNat : Int) = c at hidx hp
      by_cases h64 : c = 64
      · rw [if_pos h64] at hp
        subst h64
        cases g with
        | false =>
          have HP : Hid (p0 = nodeScan ((nums s).drop (j + 1)) (j + 1) j false) := hp
          clear hp
          go_wp2
          go_roundw
          case rel => exact ⟨j + 1, j, false, by go_num, by omega, rfl, by omega, by omega, rfl, HP.out, trivial⟩
          case measure => simp [intOf]; omega
        | true =>
          by_cases han : a < 0
          · have hx : p0 = nodeScan ((nums s).drop (j + 1)) (j + 1) j true := by rw [hp]; simp [han]
            have HP : Hid (p0 = nodeScan ((nums s).drop (j + 1)) (j + 1) j true) := hx
            clear hp hx
            go_wp2
            go_roundw
            case rel => exact ⟨j + 1, j, true, by go_num, by omega, rfl, by omega, by omega, rfl, HP.out, trivial⟩
            case measure => simp [intOf]; omega
          · have hx : p0 = nodeScan ((nums s).drop (j + 1)) (j + 1) j false := by rw [hp]; simp [han]
            have HP : Hid (p0 = nodeScan ((nums s).drop (j + 1)) (j + 1) j false) := hx
            have han' : 0 ≤ a := by omega
            clear hp hx
            go_wp2
            go_roundw
            case rel => exact ⟨j + 1, j, false, by go_num, by omega, rfl, by omega, by omega, rfl, HP.out, trivial⟩
            case measure => simp [intOf]; omega
      · rw [if_neg h64] at hp
        have hq : (c == 64) = false := by simp [h64]
        cases g with
        | false =>
          have HP : Hid (p0 = nodeScan ((nums s).drop (j + 1)) (j + 1) a false) := hp
          clear hp
          go_wp2
          go_roundw
          case rel => exact ⟨j + 1, a, false, by go_num, by omega, rfl, by omega, by omega, rfl, HP.out, trivial⟩
          case measure => simp [intOf]; omega
        | true =>
          have hin := in_word c w
          cases hb : inWordB c with
          | true =>
            rw [hb] at hin
            have hx : p0 = nodeScan ((nums s).drop (j + 1)) (j + 1) a true := by rw [hp]; simp [hb]
            have HP : Hid (p0 = nodeScan ((nums s).drop (j + 1)) (j + 1) a true) := hx
            clear hp hx
            go_wp2_with (go_at_call 69; refine hin.mono ?_; rintro e w1 ⟨rfl, rfl⟩)
            go_roundw
            case rel => exact ⟨j + 1, a, true, by go_num, by omega, rfl, by omega, by omega, rfl, HP.out, trivial⟩
            case measure => simp [intOf]; omega
          | false =>
            rw [hb] at hin
            by_cases h45 : c = 45
            · subst h45
              have hx : p0 = nodeScan ((nums s).drop (j + 1)) (j + 1) a true := by rw [hp]; simp [hb]
              have HP : Hid (p0 = nodeScan ((nums s).drop (j + 1)) (j + 1) a true) := hx
              clear hp hx
              go_wp2_with (go_at_call 69; refine hin.mono ?_; rintro e w1 ⟨rfl, rfl⟩)
              go_roundw
              case rel => exact ⟨j + 1, a, true, by go_num, by omega, rfl, by omega, by omega, rfl, HP.out, trivial⟩
              case measure => simp [intOf]; omega
            · have hq5 : (c == 45) = false := by simp [h45]
              by_cases h46 : c = 46
              · subst h46
                by_cases han : 0 ≤ a
                · skip
                  have hx : p0 = nodeScan ((nums s).drop (j + 1)) (j + 1) a true := by rw [hp]; simp [hb, han]
                  have HP : Hid (p0 = nodeScan ((nums s).drop (j + 1)) (j + 1) a true) := hx
                  clear hp hx
                  go_wp2_with (go_at_call 69; refine hin.mono ?_; rintro e w1 ⟨rfl, rfl⟩)
                  go_roundw
                  case rel => exact ⟨j + 1, a, true, by go_num, by omega, rfl, by omega, by omega, rfl, HP.out, trivial⟩
                  case measure => simp [intOf]; omega
                · have han' : decide (0 ≤ a) = false := by simp [han]
                  have hx : p0 = nodeScan ((nums s).drop (j + 1)) (j + 1) a false := by rw [hp]; simp [hb, han]
                  have HP : Hid (p0 = nodeScan ((nums s).drop (j + 1)) (j + 1) a false) := hx
                  clear hp hx
                  go_wp2_with (go_at_call 69; refine hin.mono ?_; rintro e w1 ⟨rfl, rfl⟩)
                  go_roundw
                  case rel => exact ⟨j + 1, a, false, by go_num, by omega, rfl, by omega, by omega, rfl, HP.out, trivial⟩
                  case measure => simp [intOf]; omega
              · have hq6 : (c == 46) = false := by simp [h46]
                have hx : p0 = nodeScan ((nums s).drop (j + 1)) (j + 1) a false := by rw [hp]; simp [hb, h45, h46]
                have HP : Hid (p0 = nodeScan ((nums s).drop (j + 1)) (j + 1) a false) := hx
                clear hp hx
                go_wp2_with (go_at_call 69; refine hin.mono ?_; rintro e w1 ⟨rfl, rfl⟩)
                go_roundw
                case rel => exact ⟨j + 1, a, false, by go_num, by omega, rfl, by omega, by omega, rfl, HP.out, trivial⟩
                case measure => simp [intOf]; omega
    · have hge : ¬ (j : Int) < (s.size : Int) := by omega
      obtain rfl : j = s.size := by omega
      rw [nodeScan_end] at hp
      subst hp
      have hok := HP0.out
      simp only at hok
      have bad : nodeOk s = false → [(⟨lyAtom, 0, 24⟩ : Lnk)] = ls := fun h => by have := HLS.out; rw [h] at this; exact this
      have good : nodeOk s = true → [] = ls := fun h => by have := HLS.out; rw [h] at this; exact this
      cases g with
      | false =>
        have hls := bad (by rw [hok]; simp)
        subst hls
        clear bad good hok
        go_wp2_with (go_at_call 70; refine (at_no _ _ _).mono ?_; rintro e w1 ⟨v, rfl, hf, hbw⟩)
        go_ret3
        exact ⟨_, _, v, rfl, hf, hbw⟩
      | true =>
        by_cases hl1 : a < 1
        · skip
          have hls := bad (by rw [hok]; simp; omega)
          subst hls
          clear bad good hok
          go_wp2_with (go_at_call 70; refine (at_no _ _ _).mono ?_; rintro e w1 ⟨v, rfl, hf, hbw⟩)
          go_ret3
          exact ⟨_, _, v, rfl, hf, hbw⟩
        · have hl1' : 1 ≤ a := by omega
          by_cases hl2 : a = (s.size : Int) - 1
          · have hq : (a == (s.size : Int) - 1) = true := by simp [hl2]
            have hls := bad (by rw [hok]; simp; omega)
            subst hls
            clear bad good hok
            go_wp2_with (go_at_call 70; refine (at_no _ _ _).mono ?_; rintro e w1 ⟨v, rfl, hf, hbw⟩)
            go_ret3
            exact ⟨_, _, v, rfl, hf, hbw⟩
          · have hq : (a == (s.size : Int) - 1) = false := by simp [hl2]
            have hls := good (by rw [hok]; simp; omega)
            subst hls
            clear bad good hok
            have b0 : (0 : Int) ≤ a := by omega
            have b1 : a + 1 ≤ (s.size : Int) := by omega
            have b2 : (0 : Int) ≤ a + 1 := by omega
            have b3 : a ≤ (s.size : Int) := by omega
            go_wp2
            go_region
            go_wp2
            go_ret3
            exact ⟨_, _, _, rfl, rfl, (Below.refl _ _).drew⟩

/-- The document's Node: whether it is a name. -/
theorem ref_node (s : ByteArray) (hs : s.size ≤ 4611686018427387904) (w : World) : Calls Tryz.prog 36 #[.string s] w fun e w' => ∃ x y v, e = .returned (.tuple #[x, y, v]) ∧ LinksC w.heap.size w' v (if nodeOk s = true then [] else [⟨lyAtom, 0, 24⟩]) ∧ Below w.heap.size w w' := by
  by_cases h3 : 3 ≤ s.size
  · by_cases h64 : s.size ≤ 64
    · have e : (decide (3 ≤ s.size) && decide (s.size ≤ 64)) = true := by simp [h3, h64]
      exact ref_node_in s hs h3 h64 _ rfl (nodeScan (nums s) 0 (-1) true) (by unfold nodeOk; rw [e]; rfl) rfl w
    · have e : (decide (3 ≤ s.size) && decide (s.size ≤ 64)) = false := by simp [h64]
      exact ref_node_more s hs (by omega) _ rfl (nodeScan (nums s) 0 (-1) false) (by unfold nodeOk; rw [e]; rfl) rfl w
  · have e : (decide (3 ≤ s.size) && decide (s.size ≤ 64)) = false := by simp [h3]
    exact ref_node_less s hs (by omega) _ rfl (nodeScan (nums s) 0 (-1) false) (by unfold nodeOk; rw [e]; rfl) rfl w
end Go.Proofs.YtmnibmgbicnamaaGreatDoor
